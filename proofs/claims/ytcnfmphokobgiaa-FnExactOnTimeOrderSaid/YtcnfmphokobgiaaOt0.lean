/- Orders that keep the most jobs on time: what they are, plainly. -/
import Derived.Test.YtcnfmphokobgiaaOtF
import Derived.Test.YtcnfmphokobgiaaOrdT
namespace Go.Proofs.Ytcnfmphokobgiaa
open Go.RowKit Go.ChangeShapes Go.WideShapes

/-- The index of the first of the greatest of k. -/
def mxI (lt : Nat → Nat → Bool) (Y : List Nat) : Nat → Nat
  | 0 => 0
  | 1 => 0
  | k + 2 => if lt (Y.getD (k + 1) 0) (Y.getD (mxI lt Y (k + 1)) 0) then k + 1 else mxI lt Y (k + 1)
theorem mxI_lt (lt : Nat → Nat → Bool) (Y : List Nat) : ∀ k, mxI lt Y (k + 1) < k + 1
  | 0 => by simp [mxI]
  | k + 1 => by
    have ih := mxI_lt lt Y k
    unfold mxI
    split <;> omega
theorem mxI_fst (lt : Nat → Nat → Bool) (Y : List Nat) : ∀ k, Y.getD (mxI lt Y (k + 1)) 0 = fstN lt Y (k + 1)
  | 0 => rfl
  | k + 1 => by
    have ih := mxI_fst lt Y k
    show Y.getD (if lt (Y.getD (k + 1) 0) (Y.getD (mxI lt Y (k + 1)) 0) then k + 1 else mxI lt Y (k + 1)) 0 = (if lt (Y.getD (k + 1) 0) (fstN lt Y (k + 1)) then Y.getD (k + 1) 0 else fstN lt Y (k + 1))
    rw [ih]
    split
    · rfl
    · exact ih
/-- To strike a place of a list of different ones is to strike its number. -/
theorem erase_filter {Y : List Nat} (h : Y.Nodup) : ∀ i, i < Y.length → Y.take i ++ Y.drop (i + 1) = Y.filter fun z => !(z == Y.getD i 0) := by
  induction Y with
  | nil => intro i hi; simp at hi
  | cons y Y ih =>
    rw [List.nodup_cons] at h
    intro i hi
    cases i with
    | zero =>
      have hall : Y.filter (fun z => !(z == y)) = Y := List.filter_eq_self.2 fun z hz => by
        have : z ≠ y := fun e => h.1 (e ▸ hz)
        simpa using this
      have e0 : (y :: Y).getD 0 0 = y := rfl
      rw [e0, List.filter_cons]
      simp [hall]
    | succ i =>
      have hi' : i < Y.length := by simpa using hi
      have e0 : (y :: Y).getD (i + 1) 0 = Y.getD i 0 := by simp [List.getD]
      rw [e0, List.filter_cons]
      have hne : y ≠ Y.getD i 0 := by
        intro e
        have : Y.getD i 0 ∈ Y := by
          rw [show Y.getD i 0 = Y[i] by simp [List.getD, hi']]
          exact List.getElem_mem _
        exact h.1 (e ▸ this)
      have hb : (!(y == Y.getD i 0)) = true := by simpa using hne
      rw [if_pos hb, ← ih h.2 i hi']
      rfl
/-- Kept ones, those that are away, and when the kept ones have ended, behind k jobs. -/
def otS (Z : List Ac) (Y : List Nat) : Nat → List Nat × List Nat × Int
  | 0 => ([], [], 0)
  | k + 1 =>
    let p := otS Z Y k
    let x := Y.getD k 0
    let K := p.1 ++ [x]
    let s := p.2.2 + (Z.getD x zA).f
    if s ≤ (Z.getD x zA).t then (K, p.2.1, s)
    else (K.filter (fun z => !(z == fstN (lonB2 Z) K K.length)), p.2.1 ++ [fstN (lonB2 Z) K K.length], s - (Z.getD (fstN (lonB2 Z) K K.length) zA).f)
structure OtOk (Z : List Ac) (Y : List Nat) (k : Nat) : Prop where
  sub : ∀ x ∈ (otS Z Y k).1, x ∈ Y.take k
  nd : (otS Z Y k).1.Nodup
  lK : (otS Z Y k).1.length ≤ k
  lA : (otS Z Y k).2.1.length ≤ k
  inA : ∀ x ∈ (otS Z Y k).2.1, x < Z.length
  s1 : -1000 * (k : Int) ≤ (otS Z Y k).2.2
  s2 : (otS Z Y k).2.2 ≤ 1000 * (k : Int)
theorem getD_memN {L : List Nat} {i : Nat} (h : i < L.length) : L.getD i 0 ∈ L := by
  rw [show L.getD i 0 = L[i] by simp [List.getD, h]]
  exact List.getElem_mem _
theorem take_up {Y : List Nat} {k : Nat} (h : k < Y.length) : Y.take (k + 1) = Y.take k ++ [Y.getD k 0] := by
  rw [List.take_add_one]
  simp [List.getD, h]
theorem otS_ok {Z : List Ac} {Y : List Nat} (hJ : JobsOk Z) (hn : Y.Nodup) (hY : ∀ x ∈ Y, x < Z.length) : ∀ k, k ≤ Y.length → OtOk Z Y k
  | 0, _ => ⟨by simp [otS], by simp [otS], by simp [otS], by simp [otS], by simp [otS], by simp [otS], by simp [otS]⟩
  | k + 1, hk => by
    have ih := otS_ok hJ hn hY k (by omega)
    have hx : Y.getD k 0 ∈ Y := by
      rw [show Y.getD k 0 = Y[k]'(by omega) by simp [List.getD, show k < Y.length by omega]]
      exact List.getElem_mem _
    have hxn := hY _ hx
    have hfx := (hJ.ok _ hxn)
    have f1 := hfx.f1
    have f2 := hfx.f2
    have hnew : Y.getD k 0 ∉ Y.take k := by
      have := take_up (Y := Y) (k := k) (by omega)
      have h2 : (Y.take (k + 1)).Nodup := List.Nodup.sublist (List.take_sublist _ _) hn
      rw [this, List.nodup_append] at h2
      intro hm
      exact h2.2.2 _ hm _ (by simp) rfl
    have subK : ∀ x ∈ (otS Z Y k).1 ++ [Y.getD k 0], x ∈ Y.take (k + 1) := by
      intro x hx
      rw [take_up (by omega)]
      rcases List.mem_append.1 hx with h | h
      · exact List.mem_append.2 (Or.inl (ih.sub x h))
      · exact List.mem_append.2 (Or.inr h)
    have ndK : ((otS Z Y k).1 ++ [Y.getD k 0]).Nodup := by
      rw [List.nodup_append]
      refine ⟨ih.nd, by simp, fun a ha b hb => ?_⟩
      rw [List.mem_singleton] at hb
      subst hb
      intro e
      exact hnew (e ▸ ih.sub a ha)
    have lenK : ((otS Z Y k).1 ++ [Y.getD k 0]).length = (otS Z Y k).1.length + 1 := by simp
    have s1 := ih.s1
    have s2 := ih.s2
    have lK := ih.lK
    have lA := ih.lA
    by_cases hq : (otS Z Y k).2.2 + (Z.getD (Y.getD k 0) zA).f ≤ (Z.getD (Y.getD k 0) zA).t
    · have e : otS Z Y (k + 1) = ((otS Z Y k).1 ++ [Y.getD k 0], (otS Z Y k).2.1, (otS Z Y k).2.2 + (Z.getD (Y.getD k 0) zA).f) := if_pos hq
      refine ⟨?_, ?_, ?_, ?_, ?_, ?_, ?_⟩ <;> rw [e]
      · exact subK
      · exact ndK
      · rw [lenK]; omega
      · show (otS Z Y k).2.1.length ≤ k + 1; omega
      · exact ih.inA
      · show -1000 * ((k + 1 : Nat) : Int) ≤ (otS Z Y k).2.2 + _; omega
      · show (otS Z Y k).2.2 + _ ≤ 1000 * ((k + 1 : Nat) : Int); omega
    · have e : otS Z Y (k + 1) = (((otS Z Y k).1 ++ [Y.getD k 0]).filter (fun z => !(z == fstN (lonB2 Z) ((otS Z Y k).1 ++ [Y.getD k 0]) ((otS Z Y k).1 ++ [Y.getD k 0]).length)), (otS Z Y k).2.1 ++ [fstN (lonB2 Z) ((otS Z Y k).1 ++ [Y.getD k 0]) ((otS Z Y k).1 ++ [Y.getD k 0]).length], (otS Z Y k).2.2 + (Z.getD (Y.getD k 0) zA).f - (Z.getD (fstN (lonB2 Z) ((otS Z Y k).1 ++ [Y.getD k 0]) ((otS Z Y k).1 ++ [Y.getD k 0]).length) zA).f) := if_neg hq
      have hin : fstN (lonB2 Z) ((otS Z Y k).1 ++ [Y.getD k 0]) ((otS Z Y k).1 ++ [Y.getD k 0]).length < Z.length := by
        refine fstN_in (fun i hi => ?_) _ (by rw [lenK]; omega) (Nat.le_refl _)
        have : ((otS Z Y k).1 ++ [Y.getD k 0]).getD i 0 ∈ ((otS Z Y k).1 ++ [Y.getD k 0]) := by
          exact getD_memN hi
        exact hY _ (List.mem_of_mem_take (subK _ this))
      have hg := hJ.ok _ hin
      have g1 := hg.f1
      have g2 := hg.f2
      generalize fstN (lonB2 Z) ((otS Z Y k).1 ++ [Y.getD k 0]) ((otS Z Y k).1 ++ [Y.getD k 0]).length = z at e hin g1 g2
      refine ⟨?_, ?_, ?_, ?_, ?_, ?_, ?_⟩ <;> rw [e]
      · intro x hx; exact subK x (List.mem_filter.1 hx).1
      · exact ndK.filter _
      · have := List.length_filter_le (fun y => !(y == z)) ((otS Z Y k).1 ++ [Y.getD k 0])
        show (List.filter _ _).length ≤ _
        omega
      · show ((otS Z Y k).2.1 ++ [z]).length ≤ k + 1
        simp; omega
      · intro x hx
        rcases List.mem_append.1 hx with h | h
        · exact ih.inA x h
        · rw [List.mem_singleton] at h; subst h; exact hin
      · show -1000 * ((k + 1 : Nat) : Int) ≤ (otS Z Y k).2.2 + _ - _; omega
      · show (otS Z Y k).2.2 + _ - _ ≤ 1000 * ((k + 1 : Nat) : Int); omega
theorem ordN_nodup (K : Nat → Int) (n : Nat) : (ordN (ltK K) n).Nodup :=
  (ordN_sorted K n).imp fun {a b} h e => by subst e; exact Bef.asymm h h
end Go.Proofs.Ytcnfmphokobgiaa
