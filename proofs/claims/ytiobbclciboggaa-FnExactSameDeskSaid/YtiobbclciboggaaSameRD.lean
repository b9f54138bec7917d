/- Rows, and tables, are the same: both sides say so. -/
import Derived.Test.YtiobbclciboggaaSameLD
import Derived.Test.YtiobbclciboggaaVrD
namespace Go.Proofs.Ytiobbclciboggaa
open Go.RowKit Go.ChangeShapes Go.WideShapes

def sameR (A B : Rw) : Bool := (A.vars == B.vars) && (sameL A.N B.N && (sameL A.B B.B && sameL A.G B.G))

theorem l01SameAll_is (t : Bool) (v u : Value) (Y Z : List Nat) (w : World) (hv : SL w v Y) (hu : SL w u Z) (hn : Y.length ≤ 1048576) (hn2 : Z.length ≤ 1048576) (fY : ∀ x ∈ Y, x < 4294967296) (fZ : ∀ x ∈ Z, x < 4294967296) (h : sameL Y Z = t) :
    Calls Try.prog 137 #[v, u] w (Tells t w) := by
  subst h; exact l01SameAll_any v u Y Z w hv hu hn hn2 fY fZ
theorem sameNumbers_is (t : Bool) (v u : Value) (Y Z : List Nat) (w : World) (hv : SL w v Y) (hu : SL w u Z) (hn : Y.length ≤ 1048576) (hn2 : Z.length ≤ 1048576) (fY : ∀ x ∈ Y, x < 4294967296) (fZ : ∀ x ∈ Z, x < 4294967296) (h : sameL Y Z = t) :
    Calls Try.prog 140 #[v, u] w (Tells t w) := by
  subst h; exact sameNumbers_any v u Y Z w hv hu hn hn2 fY fZ
theorem l02SameBasis_is (t : Bool) (v u : Value) (Y Z : List Int) (w : World) (hv : IL w v Y) (hu : IL w u Z) (hn : Y.length ≤ 1048576) (hn2 : Z.length ≤ 1048576) (h : sameI Y Z = t) :
    Calls Try.prog 94 #[v, u] w (Tells t w) := by
  subst h; exact l02SameBasis_any v u Y Z w hv hu hn hn2
theorem slEqual_is (t : Bool) (v u : Value) (Y Z : List Int) (w : World) (hv : IL w v Y) (hu : IL w u Z) (hn : Y.length ≤ 1048576) (hn2 : Z.length ≤ 1048576) (h : sameI Y Z = t) :
    Calls Try.prog 98 #[v, u] w (Tells t w) := by
  subst h; exact slEqual_any v u Y Z w hv hu hn hn2
theorem SL.dn2 {w : World} {v : Value} {Z : List Nat} {n : Nat} (h : SL w v Z) : SL (w.drewN n) v Z := h
structure OKR (R : Rw) : Prop where
  size : R.size ≤ 1048576
  fit : FitR R
theorem OKR.n1 {R : Rw} (h : OKR R) : R.N.length ≤ 1048576 := by have := h.size; unfold Rw.size at this; omega
theorem OKR.n2 {R : Rw} (h : OKR R) : R.B.length ≤ 1048576 := by have := h.size; unfold Rw.size at this; omega
theorem OKR.n3 {R : Rw} (h : OKR R) : R.G.length ≤ 1048576 := by have := h.size; unfold Rw.size at this; omega

set_option maxHeartbeats 4000000 in
theorem l02Same_any (t0 t1 t2 : Bool) (g h : Nat) (s1 s2 s3 u1 u2 u3 : Value) (A B : Rw) (w : World) (ha : RP w g s1 s2 s3 A) (hb : RP w h u1 u2 u3 B) (oA : OKR A) (oB : OKR B) (e0 : (A.vars == B.vars) = t0) (e1 : sameL A.N B.N = t1) (e2 : sameL A.B B.B = t2) :
    Calls Try.prog 93 #[.pointer (some ⟨g, 0, none⟩), .pointer (some ⟨h, 0, none⟩)] w (Tells (sameR A B) w) := by
  have hS : sameR A B = (t0 && (t1 && (t2 && sameL A.G B.G))) := by unfold sameR; rw [e0, e1, e2]
  rw [hS]
  clear hS
  obtain ⟨c0, c1, c2, c3, r1, r2, r3⟩ := ha
  obtain ⟨d0, d1, d2, d3, q1, q2, q3⟩ := hb
  have R1 := Lib.hid r1
  have R2 := Lib.hid r2
  have R3 := Lib.hid r3
  have Q1 := Lib.hid q1
  have Q2 := Lib.hid q2
  have Q3 := Lib.hid q3
  have n1 := oA.n1
  have n2 := oA.n2
  have n3 := oA.n3
  have m1 := oB.n1
  have m2 := oB.n2
  have m3 := oB.n3
  have F1 := Lib.hid oA.fit
  have F2 := Lib.hid oB.fit
  have E1 := Lib.hid e1
  have E2 := Lib.hid e2
  clear r1 r2 r3 q1 q2 q3 oA oB e1 e2
  cases t0 with
  | false =>
    go_enter Try.func93, Try.ntmps93
    go_wp2
    go_quiet (fail)
    go_wp2
    go_ret
    exact tells _ rfl
  | true =>
  cases t1 with
  | false =>
    go_enter Try.func93, Try.ntmps93
    go_wp2
    go_quiet ((go_at_call 137; exact Calls.quiet_of (l01SameAll_is false _ _ A.N B.N _ R1.out Q1.out n1 m1 F1.out.2.2.2.1 F2.out.2.2.2.1 E1.out)))
    go_wp2
    go_ret
    exact tells _ rfl
  | true =>
  cases t2 with
  | false =>
    go_enter Try.func93, Try.ntmps93
    go_wp2
    go_quiet ((go_at_call 137; first | exact Calls.quiet_of (l01SameAll_is true _ _ A.N B.N _ R1.out Q1.out n1 m1 F1.out.2.2.2.1 F2.out.2.2.2.1 E1.out) | exact Calls.quiet_of (l01SameAll_is false _ _ A.B B.B _ R2.out Q2.out n2 m2 F1.out.2.2.2.2.1 F2.out.2.2.2.2.1 E2.out)))
    go_wp2
    go_ret
    exact tells _ rfl
  | true =>
    go_enter Try.func93, Try.ntmps93
    go_wp2
    go_quiet ((go_at_call 137; first | exact Calls.quiet_of (l01SameAll_is true _ _ A.N B.N _ R1.out Q1.out n1 m1 F1.out.2.2.2.1 F2.out.2.2.2.1 E1.out) | exact Calls.quiet_of (l01SameAll_is true _ _ A.B B.B _ R2.out Q2.out n2 m2 F1.out.2.2.2.2.1 F2.out.2.2.2.2.1 E2.out) | exact Calls.quiet_of (l01SameAll_is _ _ _ A.G B.G _ R3.out Q3.out n3 m3 F1.out.2.2.2.2.2 F2.out.2.2.2.2.2 rfl)))
    go_wp2
    go_ret
    exact tells _ rfl
set_option maxHeartbeats 2000000 in
theorem implSameRows_any' (t0 t1 t2 : Bool) (v : Value) (A : Rw) (u : Value) (B : Rw) (w : World) (hv : RV w v A) (hu : RV w u B) (oA : OKR A) (oB : OKR B) (e0 : (A.vars == B.vars) = t0) (e1 : sameL A.N B.N = t1) (e2 : sameL A.B B.B = t2) :
    Calls Try.prog 97 #[v, u] w (Says (sameR A B) w) := by
  have hS : sameR A B = (t0 && (t1 && (t2 && sameL A.G B.G))) := by unfold sameR; rw [e0, e1, e2]
  rw [hS]
  clear hS
  have HB := Lib.hid (fun A B => (below_alloc w A).alloc (by simp) B)
  obtain ⟨s1, s2, s3, rfl, g1, g2, g3⟩ := hv
  obtain ⟨u1, u2, u3, rfl, k1, k2, k3⟩ := hu
  have R1 := Lib.hid (fun o p => g1.below (HB.out o p) (Nat.le_refl _))
  have R2 := Lib.hid (fun o p => g2.below (HB.out o p) (Nat.le_refl _))
  have R3 := Lib.hid (fun o p => g3.below (HB.out o p) (Nat.le_refl _))
  have Q1 := Lib.hid (fun o p => k1.below (HB.out o p) (Nat.le_refl _))
  have Q2 := Lib.hid (fun o p => k2.below (HB.out o p) (Nat.le_refl _))
  have Q3 := Lib.hid (fun o p => k3.below (HB.out o p) (Nat.le_refl _))
  have n1 := oA.n1
  have n2 := oA.n2
  have n3 := oA.n3
  have m1 := oB.n1
  have m2 := oB.n2
  have m3 := oB.n3
  have F1 := Lib.hid oA.fit
  have F2 := Lib.hid oB.fit
  have E1 := Lib.hid e1
  have E2 := Lib.hid e2
  clear g1 g2 g3 k1 k2 k3 oA oB e1 e2
  cases t0 with
  | false =>
    go_enter Try.func97, Try.ntmps97
    go_wp2_with fail
    go_ret
    exact says rfl (HB.out _ _)
  | true =>
  cases t1 with
  | false =>
    go_enter Try.func97, Try.ntmps97
    go_wp2_with fail
    go_at_call 140; refine (sameNumbers_is false _ _ A.N B.N _ (R1.out _ _) (Q1.out _ _) n1 m1 F1.out.2.2.2.1 F2.out.2.2.2.1 E1.out).mono ?_; rintro e w' ⟨rfl, n, rfl⟩
    go_wp2_with fail
    go_ret
    exact says rfl (below_drewN (HB.out _ _) _)
  | true =>
  cases t2 with
  | false =>
    go_enter Try.func97, Try.ntmps97
    go_wp2_with fail
    go_at_call 140; refine (sameNumbers_is true _ _ A.N B.N _ (R1.out _ _) (Q1.out _ _) n1 m1 F1.out.2.2.2.1 F2.out.2.2.2.1 E1.out).mono ?_; rintro e w' ⟨rfl, n, rfl⟩
    go_wp2_with fail
    go_at_call 140; refine (sameNumbers_is false _ _ A.B B.B _ (SL.dn2 (R2.out _ _)) (SL.dn2 (Q2.out _ _)) n2 m2 F1.out.2.2.2.2.1 F2.out.2.2.2.2.1 E2.out).mono ?_; rintro e w' ⟨rfl, n', rfl⟩
    go_wp2_with fail
    go_ret
    exact says rfl (below_drewN (HB.out _ _) _)
  | true =>
    go_enter Try.func97, Try.ntmps97
    go_wp2_with fail
    go_at_call 140; refine (sameNumbers_is true _ _ A.N B.N _ (R1.out _ _) (Q1.out _ _) n1 m1 F1.out.2.2.2.1 F2.out.2.2.2.1 E1.out).mono ?_; rintro e w' ⟨rfl, n, rfl⟩
    go_wp2_with fail
    go_at_call 140; refine (sameNumbers_is true _ _ A.B B.B _ (SL.dn2 (R2.out _ _)) (SL.dn2 (Q2.out _ _)) n2 m2 F1.out.2.2.2.2.1 F2.out.2.2.2.2.1 E2.out).mono ?_; rintro e w' ⟨rfl, n', rfl⟩
    go_wp2_with fail
    go_at_call 140; refine (sameNumbers_is _ _ _ A.G B.G _ (SL.dn2 (R3.out _ _)) (SL.dn2 (Q3.out _ _)) n3 m3 F1.out.2.2.2.2.2 F2.out.2.2.2.2.2 rfl).mono ?_; rintro e w' ⟨rfl, n'', rfl⟩
    go_wp2_with fail
    go_ret
    exact says rfl (below_drewN (HB.out _ _) _)
theorem implSameRows_any (v : Value) (A : Rw) (u : Value) (B : Rw) (w : World) (hv : RV w v A) (hu : RV w u B) (oA : OKR A) (oB : OKR B) :
    Calls Try.prog 97 #[v, u] w (Says (sameR A B) w) := implSameRows_any' _ _ _ v A u B w hv hu oA oB rfl rfl rfl
end Go.Proofs.Ytiobbclciboggaa
