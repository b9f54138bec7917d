/- Valid cases: the program. -/
import Derived.Test.YtmkbjkjgemipcaaCsM
namespace Go.Proofs.Ytmkbjkjgemipcaa
open Go.RowKit Go.ChangeShapes Go.WideShapes

theorem implName_is (t : Bool) (s : ByteArray) (hs : s.size ≤ maxLen) (w : World) (h : nameB s = t) :
    Calls Try.prog 88 #[.string s] w fun e w' => e = .returned (.bool t) ∧ Below w.heap.size w w' := by subst h; exact implName_any s hs w
theorem implForm_is (t : Bool) (v : Value) (F : Fm) (w : World) (hv : FmV w v F) (o : OKFm F) (h : formB F = t) :
    Calls Try.prog 89 #[v] w (Says t w) := by subst h; exact implForm_any v F w hv o
set_option maxHeartbeats 4000000 in
theorem implValidCase_any (v : Value) (C : Cs) (w : World) (hv : CsV w v C) (o : OKC C) :
    Calls Try.prog 48 #[v] w (Says (caseB C) w) := by
  obtain ⟨s1, s2, rfl, g1, g2⟩ := hv
  have OF := Lib.hid o.form
  have OP := Lib.hid o.proof
  have hnm := o.fit.1
  have HB := Lib.hid (below_alloc w)
  have X0 := Lib.hid (CsAt.mk' w C s1 s2 67)
  have G1 := Lib.hid g1
  have G2 := Lib.hid g2
  obtain ⟨ao, cap, rfl⟩ := g2.long
  clear g1 g2 o
  cases h1 : nameB C.name with
  | false =>
    have HN := Lib.hid (caseB_1 h1)
    have H1 := Lib.hid h1
    clear h1
    go_enter Try.func48, Try.ntmps48
    go_wp2_with fail
    go_at_call 88; refine (implName_is false C.name hnm _ H1.out).mono ?_; rintro e w1 ⟨rfl, b1⟩
    have B1 := Lib.hid ((HB.out _).trans (b1.mono (by simp)))
    clear b1
    go_wp2_with fail
    go_ret
    exact says HN.out.symm B1.out
  | true =>
    have H1 := Lib.hid h1
    cases h2 : formB C.form with
    | false =>
      have HN := Lib.hid (caseB_2 (C := C) h2)
      have H2 := Lib.hid h2
      clear h1 h2
      go_enter Try.func48, Try.ntmps48
      go_wp2_with fail
      go_at_call 88; refine (implName_is true C.name hnm _ H1.out).mono ?_; rintro e w1 ⟨rfl, b1⟩
      have X1 := Lib.hid (X0.out.keep b1 X0.out.lt)
      have B1 := Lib.hid ((HB.out _).trans (b1.mono (by simp)))
      clear b1
      obtain ⟨c0, c1, c2, c3⟩ := X1.out
      go_wp2_with fail
      clear c0 c1 c2 c3
      go_at_call 89; refine (implForm_is false _ C.form _ ⟨_, rfl, G1.out.below B1.out (Nat.le_refl _)⟩ OF.out H2.out).mono ?_; rintro e w2 ⟨rfl, b2⟩
      have B2 := Lib.hid (B1.out.trans (b2.mono B1.out.size))
      clear b2
      go_wp2_with fail
      go_ret
      exact says HN.out.symm B2.out
    | true =>
      have H2 := Lib.hid h2
      by_cases h3 : C.proof.length ≤ 128
      · have HN := Lib.hid (caseB_4 h1 h2 h3)
        have h3i : (C.proof.length : Int) ≤ 128 := by omega
        clear h1 h2
        go_enter Try.func48, Try.ntmps48
        go_wp2_with fail
        go_at_call 88; refine (implName_is true C.name hnm _ H1.out).mono ?_; rintro e w1 ⟨rfl, b1⟩
        have X1 := Lib.hid (X0.out.keep b1 X0.out.lt)
        have B1 := Lib.hid ((HB.out _).trans (b1.mono (by simp)))
        clear b1
        obtain ⟨c0, c1, c2, c3⟩ := X1.out
        go_wp2_with fail
        clear c0 c1 c2 c3
        go_at_call 89; refine (implForm_is true _ C.form _ ⟨_, rfl, G1.out.below B1.out (Nat.le_refl _)⟩ OF.out H2.out).mono ?_; rintro e w2 ⟨rfl, b2⟩
        have X2 := Lib.hid (X1.out.keep b2 X1.out.lt)
        have B2 := Lib.hid (B1.out.trans (b2.mono B1.out.size))
        clear b2
        obtain ⟨c0, c1, c2, c3⟩ := X2.out
        go_wp2_with fail
        clear c0 c1 c2 c3
        go_at_call 90; refine (areClauses_any C.form.letters _ C.proof _ (G2.out.below B2.out (Nat.le_refl _)) OP.out).mono ?_; rintro e w3 ⟨rfl, b3⟩
        have B3 := Lib.hid (B2.out.trans (b3.mono B2.out.size))
        clear b3
        go_wp2_with fail
        go_ret
        exact says HN.out.symm B3.out
      · have HN := Lib.hid (caseB_3 h3)
        have h3i : ¬ (C.proof.length : Int) ≤ 128 := by omega
        clear h1 h2
        go_enter Try.func48, Try.ntmps48
        go_wp2_with fail
        go_at_call 88; refine (implName_is true C.name hnm _ H1.out).mono ?_; rintro e w1 ⟨rfl, b1⟩
        have X1 := Lib.hid (X0.out.keep b1 X0.out.lt)
        have B1 := Lib.hid ((HB.out _).trans (b1.mono (by simp)))
        clear b1
        obtain ⟨c0, c1, c2, c3⟩ := X1.out
        go_wp2_with fail
        clear c0 c1 c2 c3
        go_at_call 89; refine (implForm_is true _ C.form _ ⟨_, rfl, G1.out.below B1.out (Nat.le_refl _)⟩ OF.out H2.out).mono ?_; rintro e w2 ⟨rfl, b2⟩
        have X2 := Lib.hid (X1.out.keep b2 X1.out.lt)
        have B2 := Lib.hid (B1.out.trans (b2.mono B1.out.size))
        clear b2
        obtain ⟨c0, c1, c2, c3⟩ := X2.out
        go_wp2_with fail
        go_ret
        exact says HN.out.symm B2.out
end Go.Proofs.Ytmkbjkjgemipcaa
