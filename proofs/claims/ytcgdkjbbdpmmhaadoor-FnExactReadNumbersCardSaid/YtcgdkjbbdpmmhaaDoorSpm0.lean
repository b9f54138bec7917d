/- The parts of a text between marks (plain). -/
import Derived.Test.YtcgdkjbbdpmmhaaDoorCut
import Derived.Lib.SplitLaws
import Derived.Lib.IndexBytes
import Derived.Lib.IndexLaws
import Derived.Lib.Bytealg
namespace Go.Proofs.YtcgdkjbbdpmmhaaDoor
open Go

theorem extractm_list (s : ByteArray) (a b : Nat) : (s.extract a b).data.toList = (s.data.toList.take b).drop a := by
  rw [Lib.extract_data, List.drop_take]
/-- The parts of a list between marks m. -/
def spm (m : UInt8) : List UInt8 → List (List UInt8)
  | [] => [[]]
  | c :: r => if c = m then [] :: spm m r else match spm m r with
    | [] => [[c]]
    | p :: ps => (c :: p) :: ps
theorem spm_ne (m : UInt8) : ∀ l, spm m l ≠ []
  | [] => by simp [spm]
  | c :: r => by
    unfold spm
    split
    · simp
    · split <;> simp
theorem spm_miss {m : UInt8} : ∀ {l : List UInt8}, (∀ x ∈ l, x ≠ m) → spm m l = [l]
  | [], _ => rfl
  | c :: r, h => by
    unfold spm
    rw [if_neg (h c (by simp)), spm_miss (l := r) (fun x hx => h x (by simp [hx]))]
theorem spm_hit {m : UInt8} : ∀ {a : List UInt8} (b : List UInt8), (∀ x ∈ a, x ≠ m) → spm m (a ++ m :: b) = a :: spm m b
  | [], b, _ => by simp [spm]
  | c :: r, b, h => by
    rw [List.cons_append]
    rw [spm, if_neg (h c (by simp)), spm_hit (a := r) b (fun x hx => h x (by simp [hx]))]
theorem listm_at {m : UInt8} {l : List UInt8} {i : Nat} (h : l[i]? = some m) : l = l.take i ++ m :: l.drop (i + 1) := by
  have hi : i < l.length := (List.getElem?_eq_some_iff.1 h).1
  have e : l[i] = m := by
    rw [List.getElem?_eq_getElem hi] at h
    injection h
  conv => lhs; rw [← List.take_append_drop i l]
  rw [List.drop_eq_getElem_cons hi, e]
theorem takem_no {m : UInt8} {l : List UInt8} {i : Nat} (h : ∀ k, k < i → l[k]? ≠ some m) : ∀ x ∈ l.take i, x ≠ m := by
  intro x hx e
  obtain ⟨j, hj, rfl⟩ := List.getElem_of_mem hx
  rw [List.length_take] at hj
  refine h j (by omega) ?_
  rw [List.getElem?_eq_getElem (by omega)]
  rw [List.getElem_take] at e
  rw [e]
/-- What is parted so far, and what is left. -/
theorem cutBm_inv (m : UInt8) (s : ByteArray) : ∀ i, i ≤ s.size → spm m s.data.toList = (cutB s m i).1.map (·.data.toList) ++ spm m (s.data.toList.drop (cutB s m i).2) ∧ ∀ j, (cutB s m i).2 ≤ j → j < i → s.data.toList[j]? ≠ some m
  | 0, _ => by
    refine ⟨by simp [cutB], fun j _ h => by omega⟩
  | i + 1, hi => by
    obtain ⟨h1, h2⟩ := cutBm_inv m s i (by omega)
    have hle := (cutB_le s m i).1
    by_cases hE : cutE s m i = true
    · have e : cutB s m (i + 1) = ((cutB s m i).1 ++ [s.extract (cutB s m i).2 i], i + 1) := by rw [cutB, if_pos hE]
      rw [e]
      have hm0 : s.data.toList[i]? = some m := by
        unfold cutE at hE
        rw [decide_eq_false (by omega), Bool.false_or, decide_eq_true_eq] at hE
        exact hE
      generalize cutB s m i = P at *
      obtain ⟨Y, f⟩ := P
      dsimp only at *
      refine ⟨?_, fun j a b => by omega⟩
      have hd : (s.data.toList.drop f)[i - f]? = some m := by rw [List.getElem?_drop, show f + (i - f) = i by omega]; exact hm0
      rw [h1, listm_at hd, spm_hit _ (takem_no fun k hk => by rw [List.getElem?_drop]; exact h2 _ (by omega) (by omega))]
      rw [List.map_append, List.append_assoc, List.map_cons, List.map_nil, extractm_list, List.drop_drop, show f + (i - f + 1) = i + 1 by omega, List.drop_take]
      rfl
    · have e : cutB s m (i + 1) = cutB s m i := by rw [cutB, if_neg hE]
      rw [e]
      refine ⟨h1, fun j a b => ?_⟩
      by_cases hj : j = i
      · subst hj
        intro hc
        apply hE
        unfold cutE
        rw [hc]; simp
      · exact h2 j a (by omega)
theorem cutBm_spm (m : UInt8) (s : ByteArray) : (cutB s m (s.size + 1)).1.map (·.data.toList) = spm m s.data.toList := by
  obtain ⟨h1, h2⟩ := cutBm_inv m s s.size (Nat.le_refl _)
  have e : cutB s m (s.size + 1) = ((cutB s m s.size).1 ++ [s.extract (cutB s m s.size).2 s.size], s.size + 1) := by rw [cutB, if_pos (cutE_end s m)]
  rw [e, h1, List.map_append, List.map_cons, List.map_nil, extractm_list, List.take_of_length_le (by rw [Array.length_toList]; exact Nat.le_refl _)]
  congr 1
  rw [spm_miss]
  intro x hx e
  obtain ⟨j, hj, rfl⟩ := List.getElem_of_mem hx
  rw [List.length_drop, Array.length_toList] at hj
  refine h2 ((cutB s m s.size).2 + j) (by omega) (by have : s.data.size = s.size := rfl; omega) ?_
  rw [← List.getElem?_drop, List.getElem?_eq_getElem (by rw [List.length_drop, Array.length_toList]; exact hj), e]
theorem spm_no {m : UInt8} {l : List UInt8} (h : Lib.indexByte l m = -1) : spm m l = [l] := by
  have hn := Lib.indexByte_none h
  exact spm_miss fun x hx e => by
    obtain ⟨j, hj, rfl⟩ := List.getElem_of_mem hx
    exact hn j (by rw [List.getElem?_eq_getElem hj, e])
theorem spm_yes {m : UInt8} {l : List UInt8} {i : Nat} (h : Lib.indexByte l m = (i : Int)) : spm m l = l.take i :: spm m (l.drop (i + 1)) := by
  obtain ⟨h1, h2⟩ := Lib.indexByte_some h
  conv => lhs; rw [listm_at h1]
  exact spm_hit _ (takem_no h2)
theorem spm_count (m : UInt8) : ∀ l : List UInt8, (spm m l).length = l.count m + 1
  | [] => rfl
  | c :: r => by
    have ih := spm_count m r
    unfold spm
    by_cases h : c = m
    · subst h
      rw [if_pos rfl, List.length_cons, ih, List.count_cons_self]
    · rw [if_neg h, List.count_cons_of_ne h]
      cases hr : spm m r with
      | nil => exact absurd hr (spm_ne m r)
      | cons p ps => rw [hr] at ih; exact ih
theorem spm_part (m : UInt8) : ∀ (l : List UInt8) (p : List UInt8), p ∈ spm m l → p.length ≤ l.length
  | [], p, h => by simp [spm] at h; subst h; simp
  | c :: r, p, h => by
    unfold spm at h
    split at h
    · rcases List.mem_cons.1 h with e | e
      · subst e; simp
      · have h1 := spm_part m r p e
        rw [List.length_cons]; omega
    · obtain ⟨q, qs, hq⟩ : ∃ q qs, spm m r = q :: qs := by
        cases hb : spm m r with
        | nil => exact absurd hb (spm_ne m r)
        | cons q qs => exact ⟨q, qs, rfl⟩
      rw [hq] at h
      simp only at h
      rcases List.mem_cons.1 h with e | e
      · have h1 := spm_part m r q (by rw [hq]; simp)
        subst e
        rw [List.length_cons, List.length_cons]; omega
      · have h1 := spm_part m r p (by rw [hq]; simp [e])
        rw [List.length_cons]; omega
/-- The parts of a text between marks. -/
def ptY (m : UInt8) (s : ByteArray) : List ByteArray := (cutB s m (s.size + 1)).1
theorem ptY_spm (m : UInt8) (s : ByteArray) : (ptY m s).map (·.data.toList) = spm m s.data.toList := cutBm_spm m s
theorem ptY_len (m : UInt8) (s : ByteArray) : (ptY m s).length = s.data.toList.count m + 1 := by
  rw [← spm_count, ← ptY_spm, List.length_map]
theorem ptY_le (m : UInt8) (s : ByteArray) : (ptY m s).length ≤ s.size + 1 := (cutB_le s m (s.size + 1)).2
theorem ptY_data (m : UInt8) (s : ByteArray) (k : Nat) : ((ptY m s).getD k (bsOf [])).data.toList = (spm m s.data.toList).getD k [] := by
  rw [← ptY_spm]
  by_cases hk : k < (ptY m s).length
  · simp [List.getD, hk]
  · simp [List.getD, Nat.not_lt.1 hk, bsOf]
theorem ptY_size (m : UInt8) (s : ByteArray) (k : Nat) : ((ptY m s).getD k (bsOf [])).size ≤ s.size := by
  have e : ((ptY m s).getD k (bsOf [])).size = ((ptY m s).getD k (bsOf [])).data.toList.length := Array.length_toList.symm
  have e2 : s.size = s.data.toList.length := Array.length_toList.symm
  rw [e, e2, ptY_data]
  by_cases hk : k < (spm m s.data.toList).length
  · rw [show (spm m s.data.toList).getD k [] = (spm m s.data.toList)[k] by simp [List.getD, hk]]
    exact spm_part _ _ _ (List.getElem_mem _)
  · simp [List.getD, Nat.not_lt.1 hk]
/-- What is told, one after another. -/
theorem ptY_at {m : UInt8} {s : ByteArray} {C : List UInt8} {pre : List (List UInt8)} (h : pre ++ [C] <+: spm m s.data.toList) : pre.length < (ptY m s).length ∧ C = ((ptY m s).getD pre.length (bsOf [])).data.toList := by
  have hl : (ptY m s).length = (spm m s.data.toList).length := by rw [← ptY_spm, List.length_map]
  have hlen := h.length_le
  rw [List.length_append, List.length_singleton] at hlen
  refine ⟨by omega, ?_⟩
  rw [ptY_data]
  obtain ⟨t, ht⟩ := h
  rw [← ht, List.append_assoc, List.getD, List.getElem?_append_right (Nat.le_refl _), Nat.sub_self]
  rfl
end Go.Proofs.YtcgdkjbbdpmmhaaDoor
