/- Clauses that have no model together: the program's side. -/
import Derived.Test.YtleaaigjnniglaaCrI
import Derived.Test.YtleaaigjnniglaaMdM
import Derived.Test.YtleaaigjnniglaaFsV
namespace Go.Proofs.Ytleaaigjnniglaa
open Go.RowKit Go.ChangeShapes Go.WideShapes

def noneB (F : Fm) : Bool := formB F && !firstB F
theorem none_no {F : Fm} (h : formB F = false) : noneB F = false := by unfold noneB; rw [h]; rfl
theorem none_yes {F : Fm} (h : formB F = true) : noneB F = !firstB F := by unfold noneB; rw [h]; rfl
set_option maxRecDepth 100000 in
set_option maxHeartbeats 4000000 in
theorem hasNo_any (v : Value) (F : Fm) (w : World) (hv : FmV w v F) (o : OKFm F) :
    Calls Try.prog 83 #[v] w (Says (noneB F) w) := by
  have hv0 := hv
  obtain ⟨s1, rfl, g1⟩ := hv
  have HV := Lib.hid (fun wx (hb : Below w.heap.size w wx) => hv0.below hb (Nat.le_refl _))
  have hb0 := Lib.hid (fun o => below_alloc w o)
  obtain ⟨ao, cap, rfl⟩ := g1.long
  clear hv0 g1
  cases h1 : formB F with
  | false =>
    have HN := Lib.hid (none_no h1)
    have H1 := Lib.hid h1
    clear h1
    go_enter Try.func83, Try.ntmps83
    go_wp2_with fail
    go_at_call 22; refine (implForm_any _ F _ (HV.out _ (hb0.out _)) o).mono ?_; rintro e w1 ⟨rfl, b1⟩
    rw [H1.out]
    have HB := Lib.hid ((hb0.out _).trans (b1.mono (hb0.out _).size))
    clear b1
    go_wp2_with fail
    go_ret
    exact says HN.out.symm HB.out
  | true =>
    obtain ⟨L, hL⟩ : ∃ L, L = F.letters.toNat := ⟨_, rfl⟩
    have hm0 := modsF_yes h1
    have hh0 := (formB_ok h1).num
    rw [← hL] at hm0 hh0
    have HM := Lib.hid hm0
    have HH := Lib.hid hh0
    have H1 := Lib.hid h1
    have HY := Lib.hid (none_yes h1)
    have HF1 := Lib.hid (@first_nil F)
    have HF2 := Lib.hid (fun x t => @first_cons F x t)
    clear h1 hm0 hh0 hL
    go_enter Try.func83, Try.ntmps83
    go_wp2_with fail
    go_at_call 22; refine (implForm_any _ F _ (HV.out _ (hb0.out _)) o).mono ?_; rintro e w1 ⟨rfl, b1⟩
    rw [H1.out]
    have HB := Lib.hid ((hb0.out _).trans (b1.mono (hb0.out _).size))
    have HBX := Lib.hid ((Box2.mk' w (.int .i64 F.letters) (.slice ao F.cs.length cap) 31).keep b1 (by simp))
    obtain ⟨c0, c1⟩ := HBX.out
    clear b1
    go_wp2_with fail
    go_at_call 69; refine (modelsOf_any _ F L _ (HV.out _ HB.out) o HH.out).mono ?_; rintro e w3 ⟨v3, rfl, hi3, b3⟩
    rw [← HM.out] at hi3
    have HB3 := Lib.hid (HB.out.trans (b3.mono HB.out.size))
    generalize modsF F = Z at hi3 HF1 HF2
    have hIL := II.il hi3
    clear hi3 b3 c0 c1
    rcases hIL with ⟨hz, ax, cx, rfl⟩ | ⟨b, off, cap2, rfl, hpos, hbl, hcell⟩
    · have HZ := Lib.hid (HF1.out hz).2
      clear hz
      go_wp2_with fail
      go_ret
      exact says (by rw [HY.out, HZ.out]; rfl) HB3.out
    · have HZ : Hid (firstB F = true) := Lib.hid (by
        cases Z with
        | nil => simp at hpos
        | cons x t => exact (HF2.out x t rfl).2)
      have hne : ((Z.length : Int) == 0) = false := beq_false_of_ne (by omega)
      clear hcell hpos hbl
      go_wp2_with fail
      go_ret
      exact says (by rw [HY.out, HZ.out]; rfl) HB3.out
def crL (F : Fm) : List Int := if noneB F then coreK F.letters.toNat F.cs F.cs.length else []
theorem cr_no {F : Fm} (h : noneB F = false) : crL F = [] := by unfold crL; rw [h]; rfl
theorem cr_yes {F : Fm} (h : noneB F = true) : crL F = coreK F.letters.toNat F.cs F.cs.length := by unfold crL; rw [h]; rfl
theorem noneB_form {F : Fm} (h : noneB F = true) : formB F = true := by
  unfold noneB at h
  rw [Bool.and_eq_true] at h
  exact h.1
theorem crL_len {F : Fm} (o : OKFm F) : (crL F).length ≤ 1048576 := by
  unfold crL
  split
  · exact Nat.le_trans (coreK_len _ _ _) o.okl.len
  · simp
end Go.Proofs.Ytleaaigjnniglaa
