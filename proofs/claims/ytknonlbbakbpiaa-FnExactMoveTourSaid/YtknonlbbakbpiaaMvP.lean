/- Shorter tours by moved cities: what both sides answer. Written by tools/mkmv.py. -/
import Derived.Test.YtknonlbbakbpiaaMv0
import Derived.Test.YtknonlbbakbpiaaSwU
namespace Go.Proofs.Ytknonlbbakbpiaa
open Go.RowKit Go.ChangeShapes Go.WideShapes
set_option maxRecDepth 100000

theorem mvAt_start {L T : List Int} {n : Nat} (hL : CityOk L n) (hT : TourOk T n) : MvAt L n (mvR L n 10001 T 0) T 0 := by
  have h := longT_in hL hT n (Nat.le_refl _)
  have := hL.n2
  exact ⟨hT, ⟨10001, rfl, by omega⟩, by omega, by omega⟩
def mvX (L T : List Int) : List Int × Int := mvR L (rootN L.length) 10001 T 0
def mvL (L T : List Int) : List Int := if validB L T then (mvX L T).1 else []
def mvC (L T : List Int) : Int := if validB L T then (mvX L T).2 else 0
theorem mv_yes {L T : List Int} (h : validB L T = true) : mvL L T = (mvX L T).1 ∧ mvC L T = (mvX L T).2 := by unfold mvL mvC; rw [h]; exact ⟨rfl, rfl⟩
theorem mv_no {L T : List Int} (h : validB L T = false) : mvL L T = [] ∧ mvC L T = 0 := by unfold mvL mvC; rw [h]; exact ⟨rfl, rfl⟩
theorem mvL_len (L T : List Int) : (mvL L T).length ≤ 1048576 := by
  cases h : validB L T with
  | false => rw [(mv_no h).1]; simp
  | true =>
    rw [(mv_yes h).1]
    unfold mvX
    unfold validB at h
    rw [Bool.and_eq_true] at h
    rw [mvR_len _ _ _ (tourB_ok h.2).len]
    have := rootN_in L.length
    omega
end Go.Proofs.Ytknonlbbakbpiaa
