/- The gain of a plan: what it is; plans that fit. -/
import Derived.Test.YtajekehidofkiaaLaw
import Derived.Test.YtajekehidofkiaaDot2
namespace Go.Proofs.Ytajekehidofkiaa
open Go.RowKit Go.ChangeShapes Go.WideShapes

theorem SL.dn {w : World} {v : Value} {Z : List Nat} {n : Nat} (h : SL w v Z) : SL (w.drewN n) v Z := h
/-- Is a class that of a finite number? -/
def finC : Option Nat → Bool
  | some x => fin32 x
  | none => false
theorem fin_nan32 {x : Nat} (h : (Ieee.single.read x).isNaN = true) : fin32 x = false := by
  unfold fin32
  refine decide_eq_false fun hl => ?_
  have := Fl.fin_nan (f := Ieee.single) (b := x) (by unfold Fl.Fin; rw [Fl.single_inf]; exact hl)
  rw [h] at this; cases this
theorem fin_cls {x : Nat} {C : Option Nat} (h : Fl.cls .f32 x = C) : fin32 x = finC C := by
  subst h
  cases hn : (Ieee.single.read x).isNaN with
  | true => rw [Fl.cls_none (k := .f32) hn, fin_nan32 hn]; rfl
  | false => rw [Fl.cls_some (k := .f32) hn]; rfl

/-- Rows are valid, and a list is a plan's. -/
def fitB (R : Rw) (X : List Nat) : Bool := okR R && (decide ((X.length : Int) = R.vars) && finAll X)
def gainB (R : Rw) (X : List Nat) : Bool := fitB R X && finC (dotC R.G X R.G.length)
def gainC (R : Rw) (X : List Nat) : Option Nat := bif gainB R X then dotC R.G X R.G.length else some 0
theorem fitB_ok {R : Rw} {X : List Nat} (h : fitB R X = true) : OkR R ∧ (X.length : Int) = R.vars ∧ finAll X = true := by
  unfold fitB at h
  simp only [Bool.and_eq_true, decide_eq_true_eq] at h
  exact ⟨(okR_iff R).1 h.1, h.2.1, h.2.2⟩

/-- Answers of a number and a bool. -/
def SaysFB (C : Option Nat) (b : Bool) (w : World) (e : Ending) (w' : World) : Prop := ∃ r, e = .returned (.tuple #[.float .f32 r, .bool b]) ∧ Fl.cls .f32 r = C ∧ Below w.heap.size w w'

theorem l02Is_is (b : Bool) (g : Nat) (s1 s2 s3 : Value) (R : Rw) (w : World) (h : RP w g s1 s2 s3 R) (hn : R.size ≤ 1048576) (hb : okR R = b) :
    Calls Try.prog 63 #[.pointer (some ⟨g, 0, none⟩)] w (Tells b w) := by
  subst hb
  exact l02Is_any g s1 s2 s3 R w h hn
theorem RP.drewN {w : World} {g : Nat} {s1 s2 s3 : Value} {R : Rw} (h : RP w g s1 s2 s3 R) (n : Nat) : RP (w.drewN n) g s1 s2 s3 R := ⟨h.c0, h.c1, h.c2, h.c3, h.r1, h.r2, h.r3⟩

set_option maxHeartbeats 1000000 in
theorem l02Fit_any (g : Nat) (s1 s2 s3 : Value) (R : Rw) (u : Value) (X : List Nat) (w : World) (h : RP w g s1 s2 s3 R) (hu : SL w u X) (hn : R.size ≤ 1048576) (hx : X.length ≤ 1048576) :
    Calls Try.prog 53 #[.pointer (some ⟨g, 0, none⟩), u] w (Tells (fitB R X) w) := by
  have HP := Lib.hid h
  have HU := Lib.hid hu
  have c0 := h.c0
  obtain ⟨ao, cap, rfl⟩ := hu.long
  clear hu h
  unfold fitB
  cases h1 : okR R with
  | false =>
    have H1 := Lib.hid h1
    clear h1
    go_enter Try.func53, Try.ntmps53
    go_wp2_with (go_at_call 63; refine (l02Is_is _ _ s1 s2 s3 R _ HP.out hn H1.out).mono ?_; rintro e w' ⟨rfl, n1, rfl⟩)
    go_ret
    exact tells _ rfl
  | true =>
    have H1 := Lib.hid h1
    clear h1
    cases h2 : decide ((X.length : Int) = R.vars) with
    | false =>
      have t2 : ((X.length : Int) == R.vars) = false := by simpa using h2
      clear h2
      go_enter Try.func53, Try.ntmps53
      go_wp2_with (go_at_call 63; refine (l02Is_is _ _ s1 s2 s3 R _ HP.out hn H1.out).mono ?_; rintro e w' ⟨rfl, n1, rfl⟩)
      go_ret
      exact tells _ rfl
    | true =>
      have t2 : ((X.length : Int) == R.vars) = true := by simpa using h2
      clear h2
      go_enter Try.func53, Try.ntmps53
      go_wp2_with fail
      go_at_call 63; refine (l02Is_is _ _ s1 s2 s3 R _ HP.out hn H1.out).mono ?_; rintro e w' ⟨rfl, n1, rfl⟩
      go_wp2_with fail
      go_at_call 83; refine (l02Finite_any _ X _ (SL.dn HU.out) hx).mono ?_; rintro e w' ⟨rfl, n2, rfl⟩
      go_wp2_with fail
      go_ret
      exact tells _ rfl
theorem l02Fit_is (b : Bool) (g : Nat) (s1 s2 s3 : Value) (R : Rw) (u : Value) (X : List Nat) (w : World) (h : RP w g s1 s2 s3 R) (hu : SL w u X) (hn : R.size ≤ 1048576) (hx : X.length ≤ 1048576) (hb : fitB R X = b) :
    Calls Try.prog 53 #[.pointer (some ⟨g, 0, none⟩), u] w (Tells b w) := by
  subst hb
  exact l02Fit_any g s1 s2 s3 R u X w h hu hn hx
def Numb (r : Nat) (w : World) (e : Ending) (w' : World) : Prop := e = .returned (.tuple #[.float .f32 (bif fin32 r then r else 0), .bool (fin32 r)]) ∧ ∃ n, w' = w.drewN n
theorem numb_cls {r : Nat} {C : Option Nat} (h : Fl.cls .f32 r = C) : Fl.cls .f32 (bif fin32 r then r else 0) = bif finC C then C else some 0 := by
  rw [fin_cls h]
  cases finC C
  · exact cls_zero
  · exact h
end Go.Proofs.Ytajekehidofkiaa
