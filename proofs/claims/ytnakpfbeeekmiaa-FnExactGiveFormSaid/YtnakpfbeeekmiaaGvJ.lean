/- Forms with given literals: the program, for all arguments. -/
import Derived.Test.YtnakpfbeeekmiaaGvI
namespace Go.Proofs.Ytnakpfbeeekmiaa
open Go.RowKit Go.ChangeShapes Go.WideShapes

set_option maxHeartbeats 2000000 in
theorem implGiveForm_any (v : Value) (F : Fm) (u : Value) (G : List Int) (w : World) (hv : FmV w v F) (hu : IL w u G) (o : OKFm F) (oG : OKI G) :
    Calls Try.prog 35 #[v, u] w (SaysFB (gvF F G) (givB F G) w) := by
  cases h : givB F G with
  | true => rw [gvF_yes h]; exact implGv_yes v u F G w hv hu o oG h
  | false =>
    rw [gvF_no h]
    obtain ⟨s1, rfl, hl⟩ := hv
    have HL : Hid (∀ W, Below w.heap.size w W → LV W s1 F.cs) := Lib.hid fun W b => hl.below b (Nat.le_refl _)
    have HU : Hid (∀ W, Below w.heap.size w W → IL W u G) := Lib.hid fun W b => hu.below b (Nat.le_refl _)
    have HB3 : Hid (∀ A B C, Below w.heap.size w (((w.alloc A).alloc B).alloc C)) := Lib.hid fun A B C => ((below_alloc w A).alloc (by simp) B).alloc (by simp; omega) C
    have HX0 : Hid (∀ T, GvBox w.heap.size F.letters s1 u (((w.alloc (.cells #[.int .i64 F.letters, s1] 29)).alloc (.cells #[u] T)).alloc (.cells #[.int .i64 0, .slice none 0 0] 29))) := Lib.hid fun T => ⟨by go_simp, by go_simp, by go_simp, ⟨⟨.int .i64 0, by go_simp⟩, ⟨.slice none 0 0, by go_simp⟩, fun i => by go_simp⟩⟩
    obtain ⟨ga, gc, rfl⟩ := hu.long
    obtain ⟨fa, fc, rfl⟩ := hl.long
    unfold givB at h
    clear hl hu
    cases h1 : formB F with
    | false =>
      have H1 := Lib.hid h1
      clear h h1
      go_enter Try.func35, Try.ntmps35
      go_wp2_with fail
      go_at_call 50; refine (implForm_any _ F _ ⟨_, rfl, HL.out _ (HB3.out _ _ _)⟩ o).mono ?_; rintro e w4 ⟨rfl, b4⟩
      rw [H1.out]
      have B4 := Lib.hid ((HB3.out _ _ _).trans (b4.mono (by simp; omega)))
      have R4 := Lib.hid ((HX0.out _).keep b4 (by simp)).r
      have hr4 := R4.out.lt
      clear b4
      obtain ⟨⟨u0, r0⟩, ⟨u1, r1⟩, rf⟩ := R4.out
      have rf0 := rf 0
      have rf1 := rf 1
      clear rf
      go_wp2_with fail
      refine bodyPost_ret (v := .tuple #[.agg #[.int .i64 0, .slice none 0 0], .bool false]) (by simp [results, Try.results35, r0, r1, go_sem]) rfl ?_
      generalize hX : World.setCell _ _ _ = X
      have hT : Turned (w.heap.size + 1 + 1) (w.heap.size + 1 + 1 + 1) w4 X := by
        rw [← hX]
        repeat (refine Turned.setCell ?_ (by simp) (by simp) _)
        exact Turned.refl _ _ _
      clear hX
      exact saysFB_no (B4.out.trans ((hT.below (by omega)).mono (by omega)))
    | true =>
      rw [h1, Bool.true_and] at h
      have H1 := Lib.hid h1
      have H2 := Lib.hid h
      have n1 := (formB_ok h1).n1
      have n2 := (formB_ok h1).n2
      clear h h1
      go_enter Try.func35, Try.ntmps35
      go_wp2_with fail
      go_at_call 50; refine (implForm_any _ F _ ⟨_, rfl, HL.out _ (HB3.out _ _ _)⟩ o).mono ?_; rintro e w4 ⟨rfl, b4⟩
      rw [H1.out]
      have B4 := Lib.hid ((HB3.out _ _ _).trans (b4.mono (by simp; omega)))
      have X4 := Lib.hid ((HX0.out _).keep b4 (by simp))
      clear b4 HX0
      obtain ⟨x0, x1, x2, xr⟩ := X4.out
      clear xr
      go_wp2_with fail
      go_at_call 51; refine (areGiven_any F.letters _ G _ (HU.out _ B4.out) oG n1 n2).mono ?_; rintro e w5 ⟨rfl, b5⟩
      rw [H2.out]
      have B5 := Lib.hid (B4.out.trans (b5.mono B4.out.size))
      have R5 := Lib.hid (X4.out.keep b5 X4.out.r.lt).r
      have hr5 := R5.out.lt
      clear b5 x0 x1 x2
      obtain ⟨⟨u0, r0⟩, ⟨u1, r1⟩, rf⟩ := R5.out
      have rf0 := rf 0
      have rf1 := rf 1
      clear rf
      go_wp2_with fail
      refine bodyPost_ret (v := .tuple #[.agg #[.int .i64 0, .slice none 0 0], .bool false]) (by simp [results, Try.results35, r0, r1, go_sem]) rfl ?_
      generalize hX : World.setCell _ _ _ = X
      have hT : Turned (w.heap.size + 1 + 1) (w.heap.size + 1 + 1 + 1) w5 X := by
        rw [← hX]
        repeat (refine Turned.setCell ?_ (by simp) (by simp) _)
        exact Turned.refl _ _ _
      clear hX
      exact saysFB_no (B5.out.trans ((hT.below (by omega)).mono (by omega)))
end Go.Proofs.Ytnakpfbeeekmiaa
