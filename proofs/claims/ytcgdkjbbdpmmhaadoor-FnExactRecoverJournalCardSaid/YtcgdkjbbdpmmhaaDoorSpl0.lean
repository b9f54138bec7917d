/- The lines of a text: two ways to part it (plain). -/
import Derived.Test.YtcgdkjbbdpmmhaaDoorCut
import Derived.Lib.SplitLaws
import Derived.Lib.IndexBytes
import Derived.Lib.IndexLaws
namespace Go.Proofs.YtcgdkjbbdpmmhaaDoor
open Go

/-- The parts of a list between tens. -/
def spl : List UInt8 → List (List UInt8)
  | [] => [[]]
  | c :: r => if c = 10 then [] :: spl r else match spl r with
    | [] => [[c]]
    | p :: ps => (c :: p) :: ps
theorem spl_ne : ∀ l, spl l ≠ []
  | [] => by simp [spl]
  | c :: r => by
    unfold spl
    split
    · simp
    · split <;> simp
theorem spl_miss : ∀ {l : List UInt8}, (∀ x ∈ l, x ≠ 10) → spl l = [l]
  | [], _ => rfl
  | c :: r, h => by
    unfold spl
    rw [if_neg (h c (by simp)), spl_miss (l := r) (fun x hx => h x (by simp [hx]))]
theorem spl_hit : ∀ {a : List UInt8} (b : List UInt8), (∀ x ∈ a, x ≠ 10) → spl (a ++ 10 :: b) = a :: spl b
  | [], b, _ => by simp [spl]
  | c :: r, b, h => by
    rw [List.cons_append]
    rw [spl, if_neg (h c (by simp)), spl_hit (a := r) b (fun x hx => h x (by simp [hx]))]
theorem list_at {l : List UInt8} {i : Nat} (h : l[i]? = some 10) : l = l.take i ++ 10 :: l.drop (i + 1) := by
  have hi : i < l.length := (List.getElem?_eq_some_iff.1 h).1
  have e : l[i] = 10 := by
    rw [List.getElem?_eq_getElem hi] at h
    injection h
  conv => lhs; rw [← List.take_append_drop i l]
  rw [List.drop_eq_getElem_cons hi, e]
theorem take_no {l : List UInt8} {i : Nat} (h : ∀ k, k < i → l[k]? ≠ some 10) : ∀ x ∈ l.take i, x ≠ 10 := by
  intro x hx e
  obtain ⟨j, hj, rfl⟩ := List.getElem_of_mem hx
  rw [List.length_take] at hj
  refine h j (by omega) ?_
  rw [List.getElem?_eq_getElem (by omega)]
  rw [List.getElem_take] at e
  rw [e]
theorem nl_sep : (⟨#[10]⟩ : ByteArray).data.toList = [10] := rfl
theorem index_nl (s : ByteArray) : Lib.indexB s ⟨#[10]⟩ = Lib.indexByte s.data.toList 10 := Lib.index_one s.data.toList 10
theorem extract_list (s : ByteArray) (a b : Nat) : (s.extract a b).data.toList = (s.data.toList.take b).drop a := by
  rw [Lib.extract_data, List.drop_take]
theorem splitB_spl : ∀ (k : Nat) (s : ByteArray), s.size ≤ k → (Lib.splitB ⟨#[10]⟩ 0 (Lib.countB s ⟨#[10]⟩) s).map (·.data.toList) = spl s.data.toList := by
  intro k
  induction k with
  | zero =>
    intro s hs
    have hl : s.data.toList = [] := List.eq_nil_of_length_eq_zero (by rw [Array.length_toList]; exact Nat.le_zero.1 hs)
    have hi : Lib.indexB s ⟨#[10]⟩ = -1 := by rw [index_nl, hl]; rfl
    rw [Lib.splitB_miss _ _ _ _ hi, hl]
    simp [spl, hl]
  | succ k ih =>
    intro s hs
    rcases Int.lt_or_le (Lib.indexByte s.data.toList 10) 0 with h | h
    · have h1 : Lib.indexByte s.data.toList 10 = -1 := by
        have := Lib.indexByte_ge s.data.toList 10
        omega
      rw [Lib.splitB_miss _ _ _ _ (by rw [index_nl]; exact h1)]
      have hn := Lib.indexByte_none h1
      rw [spl_miss fun x hx e => by
        obtain ⟨j, hj, rfl⟩ := List.getElem_of_mem hx
        exact hn j (by rw [List.getElem?_eq_getElem hj, e])]
      rfl
    · obtain ⟨i, hi⟩ : ∃ i : Nat, Lib.indexByte s.data.toList 10 = (i : Int) := ⟨(Lib.indexByte s.data.toList 10).toNat, by omega⟩
      have hB : Lib.indexB s ⟨#[10]⟩ = (i : Int) := by rw [index_nl]; exact hi
      obtain ⟨h1, h2⟩ := Lib.indexByte_some hi
      have hz : (⟨#[10]⟩ : ByteArray).size = 1 := rfl
      have hlt : i < s.size := by
        have := (List.getElem?_eq_some_iff.1 h1).1
        rwa [Array.length_toList] at this
      rw [Lib.countB_hit s ⟨#[10]⟩ i (by rw [hz]; exact Nat.le_refl _) hB, Nat.add_comm, Lib.splitB_hit _ _ _ _ i hB, List.map_cons, hz]
      have hr : (s.extract (i + 1) s.size).size ≤ k := by
        rw [ByteArray.size_extract]; omega
      rw [ih _ hr, extract_list, extract_list]
      have e1 : (s.data.toList.take s.size).drop (i + 1) = s.data.toList.drop (i + 1) := by
        rw [List.take_of_length_le (by rw [Array.length_toList]; exact Nat.le_refl _)]
      rw [e1]
      conv => rhs; rw [list_at h1]
      rw [spl_hit _ (take_no h2)]
      simp
/-- What is parted so far, and what is left. -/
theorem cutB_inv (s : ByteArray) : ∀ i, i ≤ s.size → spl s.data.toList = (cutB s 10 i).1.map (·.data.toList) ++ spl (s.data.toList.drop (cutB s 10 i).2) ∧ ∀ j, (cutB s 10 i).2 ≤ j → j < i → s.data.toList[j]? ≠ some 10
  | 0, _ => by
    refine ⟨by simp [cutB], fun j _ h => by omega⟩
  | i + 1, hi => by
    obtain ⟨h1, h2⟩ := cutB_inv s i (by omega)
    have hle := (cutB_le s 10 i).1
    by_cases hE : cutE s 10 i = true
    · have e : cutB s 10 (i + 1) = ((cutB s 10 i).1 ++ [s.extract (cutB s 10 i).2 i], i + 1) := by rw [cutB, if_pos hE]
      rw [e]
      have h10 : s.data.toList[i]? = some 10 := by
        unfold cutE at hE
        rw [decide_eq_false (by omega), Bool.false_or, decide_eq_true_eq] at hE
        exact hE
      generalize cutB s 10 i = P at *
      obtain ⟨Y, f⟩ := P
      dsimp only at *
      refine ⟨?_, fun j a b => by omega⟩
      have hd : (s.data.toList.drop f)[i - f]? = some 10 := by rw [List.getElem?_drop, show f + (i - f) = i by omega]; exact h10
      rw [h1, list_at hd, spl_hit _ (take_no fun k hk => by rw [List.getElem?_drop]; exact h2 _ (by omega) (by omega))]
      rw [List.map_append, List.append_assoc, List.map_cons, List.map_nil, extract_list, List.drop_drop, show f + (i - f + 1) = i + 1 by omega, List.drop_take]
      rfl
    · have e : cutB s 10 (i + 1) = cutB s 10 i := by rw [cutB, if_neg hE]
      rw [e]
      refine ⟨h1, fun j a b => ?_⟩
      by_cases hj : j = i
      · subst hj
        intro hc
        apply hE
        unfold cutE
        rw [hc]; simp
      · exact h2 j a (by omega)
theorem cutB_spl (s : ByteArray) : (cutB s 10 (s.size + 1)).1.map (·.data.toList) = spl s.data.toList := by
  obtain ⟨h1, h2⟩ := cutB_inv s s.size (Nat.le_refl _)
  have e : cutB s 10 (s.size + 1) = ((cutB s 10 s.size).1 ++ [s.extract (cutB s 10 s.size).2 s.size], s.size + 1) := by rw [cutB, if_pos (cutE_end s 10)]
  rw [e, h1, List.map_append, List.map_cons, List.map_nil, extract_list, List.take_of_length_le (by rw [Array.length_toList]; exact Nat.le_refl _)]
  congr 1
  rw [spl_miss]
  intro x hx e
  obtain ⟨j, hj, rfl⟩ := List.getElem_of_mem hx
  rw [List.length_drop, Array.length_toList] at hj
  refine h2 ((cutB s 10 s.size).2 + j) (by omega) (by have : s.data.size = s.size := rfl; omega) ?_
  rw [← List.getElem?_drop, List.getElem?_eq_getElem (by rw [List.length_drop, Array.length_toList]; exact hj), e]
theorem map_data_inj : ∀ {A B : List ByteArray}, A.map (·.data.toList) = B.map (·.data.toList) → A = B
  | [], [], _ => rfl
  | [], _ :: _, h => by cases h
  | _ :: _, [], h => by cases h
  | a :: A, b :: B, h => by
    rw [List.map_cons, List.map_cons] at h
    injection h with h1 h2
    rw [map_data_inj h2, show a = b from ByteArray.ext (Array.toList_inj.1 h1)]
/-- The library's parts are the model's. -/
theorem split_cut (s : ByteArray) : Lib.splitB ⟨#[10]⟩ 0 (Lib.countB s ⟨#[10]⟩) s = (cutB s 10 (s.size + 1)).1 := map_data_inj (by rw [splitB_spl s.size s (Nat.le_refl _), cutB_spl])
end Go.Proofs.YtcgdkjbbdpmmhaaDoor
