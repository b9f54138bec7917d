/- What outputs are counted (plain). -/
import Derived.Test.YtcgdkjbbdpmmhaaDoorSpl0
namespace Go.Proofs.YtcgdkjbbdpmmhaaDoor
open Go

theorem spl_ten : ∀ a : List UInt8, spl (a ++ [10]) = spl a ++ [[]]
  | [] => by simp [spl]
  | c :: r => by
    rw [List.cons_append, spl, spl]
    by_cases h : c = 10
    · rw [if_pos h, if_pos h, spl_ten r]; rfl
    · rw [if_neg h, if_neg h, spl_ten r]
      cases hr : spl r with
      | nil => exact absurd hr (spl_ne r)
      | cons p ps => rfl
theorem spl_other {c : UInt8} (hc : c ≠ 10) : ∀ a : List UInt8, ∃ P p, spl (a ++ [c]) = P ++ [p ++ [c]]
  | [] => ⟨[], [], by simp [spl, hc]⟩
  | d :: r => by
    obtain ⟨P, p, e⟩ := spl_other hc r
    rw [List.cons_append, spl, e]
    by_cases h : d = 10
    · rw [if_pos h]; exact ⟨[] :: P, p, rfl⟩
    · rw [if_neg h]
      cases P with
      | nil => exact ⟨[], d :: p, rfl⟩
      | cons x P' => exact ⟨(d :: x) :: P', p, rfl⟩
def lstB (Y : List ByteArray) : ByteArray := Y.getD (Y.length - 1) (bsOf [])
/-- The lines of a text. -/
def lnY (s : ByteArray) : List ByteArray := (cutB s 10 (s.size + 1)).1
theorem lnY_spl (s : ByteArray) : (lnY s).map (·.data.toList) = spl s.data.toList := cutB_spl s
theorem lnY_pos (s : ByteArray) : 0 < (lnY s).length := by
  have h := congrArg List.length (lnY_spl s)
  rw [List.length_map] at h
  rw [h]
  exact List.length_pos_iff.2 (spl_ne _)
theorem lnY_len (s : ByteArray) : (lnY s).length ≤ s.size + 1 := (cutB_le s 10 (s.size + 1)).2
theorem getD_last {α : Type} (P : List α) (x d : α) : (P ++ [x]).getD ((P ++ [x]).length - 1) d = x := by
  rw [List.length_append]
  show (P ++ [x]).getD (P.length + 1 - 1) d = x
  rw [Nat.add_sub_cancel, List.getD, List.getElem?_append_right (Nat.le_refl _), Nat.sub_self]
  rfl
theorem lst_data (s : ByteArray) : (lstB (lnY s)).data.toList = (spl s.data.toList).getD ((spl s.data.toList).length - 1) [] := by
  have h := lnY_spl s
  have hp := lnY_pos s
  rw [← h, List.length_map]
  unfold lstB
  have hk : (lnY s).length - 1 < (lnY s).length := by omega
  simp [List.getD, hk]
/-- The last part is empty just where the text is, or ends with the mark. -/
theorem lst_empty (s : ByteArray) : (lstB (lnY s)).size = 0 ↔ (s.size = 0 ∨ Lib.hasSuffix s.data.toList [10] = true) := by
  have hsz : ∀ x : ByteArray, x.size = 0 ↔ x.data.toList = [] := fun x => by
    rw [show x.size = x.data.toList.length from Array.length_toList.symm]
    exact List.length_eq_zero_iff
  rw [hsz, hsz, lst_data]
  unfold Lib.hasSuffix
  rw [List.isSuffixOf_iff_suffix]
  generalize s.data.toList = l
  rcases List.eq_nil_or_concat l with rfl | ⟨a, c, rfl⟩
  · simp [spl]
  · rw [List.concat_eq_append] at *
    by_cases hc : c = 10
    · subst hc
      rw [spl_ten, getD_last]
      exact ⟨fun _ => Or.inr ⟨a, rfl⟩, fun _ => rfl⟩
    · obtain ⟨P, p, e⟩ := spl_other hc a
      rw [e, getD_last]
      refine ⟨fun h => by simp at h, fun h => ?_⟩
      rcases h with h | ⟨t, h⟩
      · simp at h
      · have := List.append_inj_right' h rfl
        injection this with this
        exact absurd this.symm hc
def badB (x : ByteArray) : Bool := decide (x = ⟨#[110, 111]⟩) || decide (x = ⟨#[119, 104, 97, 116]⟩)
/-- How many of the first k are bad. -/
def badK (Y : List ByteArray) : Nat → Nat
  | 0 => 0
  | k + 1 => badK Y k + (if badB (Y.getD k (bsOf [])) then 1 else 0)
theorem badK_le (Y : List ByteArray) : ∀ k, badK Y k ≤ k
  | 0 => Nat.le_refl _
  | k + 1 => by
    have := badK_le Y k
    show badK Y k + _ ≤ _
    split <;> omega
def coB (s : ByteArray) : Bool := decide (s.size ≤ 16000) && decide ((lstB (lnY s)).size = 0)
def coN (s : ByteArray) : Int := if coB s then (badK (lnY s) ((lnY s).length - 1) : Nat) else 0
def coG (s : ByteArray) : Int := if coB s then ((lnY s).length - 1 : Nat) - (badK (lnY s) ((lnY s).length - 1) : Nat) else 0
end Go.Proofs.YtcgdkjbbdpmmhaaDoor
