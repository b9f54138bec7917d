/- Rows are valid: both sides say so. -/
import Derived.Test.YtajekehidofkiaaRws
import Derived.Test.YtajekehidofkiaaNum2
import Derived.Deep.RegionWith
import Derived.Outline
namespace Go.Proofs.Ytajekehidofkiaa
open Go.RowKit Go.ChangeShapes Go.WideShapes

/-- What valid rows are. -/
structure OkR (R : Rw) : Prop where
  v1 : 1 ≤ R.vars
  v2 : R.vars ≤ 8
  b1 : 1 ≤ R.B.length
  b2 : R.B.length ≤ 8
  g : (R.G.length : Int) = R.vars
  n : (R.N.length : Int) = R.vars * R.B.length
  fn : finAll R.N = true
  fg : finAll R.G = true
  lb : leastAll R.B = true
def okR (R : Rw) : Bool := decide (1 ≤ R.vars) && (decide (R.vars ≤ 8) && (decide (1 ≤ R.B.length) && (decide (R.B.length ≤ 8) && (decide ((R.G.length : Int) = R.vars) && (decide ((R.N.length : Int) = R.vars * R.B.length) && (finAll R.N && (finAll R.G && leastAll R.B)))))))
theorem okR_iff (R : Rw) : okR R = true ↔ OkR R := by
  unfold okR
  simp only [Bool.and_eq_true, decide_eq_true_eq]
  exact ⟨fun ⟨a, b, c, d, e, f, g, h, i⟩ => ⟨a, b, c, d, e, f, g, h, i⟩, fun ⟨a, b, c, d, e, f, g, h, i⟩ => ⟨a, b, c, d, e, f, g, h, i⟩⟩
theorem okR_no {R : Rw} (h : ¬ OkR R) : okR R = false := by
  rw [Bool.eq_false_iff]
  exact fun hc => h ((okR_iff R).1 hc)

/-- A block that holds rows. -/
structure RP (w : World) (g : Nat) (s1 s2 s3 : Value) (R : Rw) : Prop where
  c0 : w.cell? ⟨g, 0, none⟩ = some (.int .i64 R.vars)
  c1 : w.cell? ⟨g, 1, none⟩ = some s1
  c2 : w.cell? ⟨g, 2, none⟩ = some s2
  c3 : w.cell? ⟨g, 3, none⟩ = some s3
  r1 : SL w s1 R.N
  r2 : SL w s2 R.B
  r3 : SL w s3 R.G

theorem l02Finite_is (b : Bool) (v : Value) (Z : List Nat) (w : World) (hv : SL w v Z) (hn : Z.length ≤ 1048576) (hb : finAll Z = b) :
    Calls Try.prog 83 #[v] w (Tells b w) := by
  subst hb
  exact l02Finite_any v Z w hv hn
set_option maxHeartbeats 400000 in
theorem l02Is_v (g : Nat) (s1 s2 s3 : Value) (R : Rw) (w : World) (h : RP w g s1 s2 s3 R) (hn : R.size ≤ 1048576) (hv : ¬ (1 ≤ R.vars ∧ R.vars ≤ 8)) :
    Calls Try.prog 63 #[.pointer (some ⟨g, 0, none⟩)] w (Tells (okR R) w) := by
  obtain ⟨c0, c1, c2, c3, r1, r2, r3⟩ := h
  obtain ⟨ao1, cap1, rfl⟩ := r1.long
  obtain ⟨ao2, cap2, rfl⟩ := r2.long
  obtain ⟨ao3, cap3, rfl⟩ := r3.long
  have hn1 : R.N.length ≤ 1048576 := by unfold Rw.size at hn; omega
  have hn2 : R.B.length ≤ 1048576 := by unfold Rw.size at hn; omega
  have hn3 : R.G.length ≤ 1048576 := by unfold Rw.size at hn; omega
  have G1 := Lib.hid r1
  have G2 := Lib.hid r2
  have G3 := Lib.hid r3
  clear hn r1 r2 r3
  have NO := Lib.hid (okR_no (R := R) fun h => hv ⟨h.v1, h.v2⟩)
  have T0 := Lib.hid (show (decide (1 ≤ R.vars) && decide (R.vars ≤ 8)) = false by rw [← Bool.decide_and]; exact decide_eq_false hv)
  clear hv
  go_enter Try.func63, Try.ntmps63
  go_wp2_with fail
  go_quiet (((go_at_call 64; exact Calls.quiet_of (by have := l00In_any R.vars 1 8; rw [T0.out] at this; exact this _))))
  go_wp2_with fail
  go_ret
  exact tells _ NO.out.symm
set_option maxHeartbeats 400000 in
theorem l02Is_b1 (g : Nat) (s1 s2 s3 : Value) (R : Rw) (w : World) (h : RP w g s1 s2 s3 R) (hn : R.size ≤ 1048576) (hv1 : 1 ≤ R.vars) (hv2 : R.vars ≤ 8) (hb : R.B.length < 1) :
    Calls Try.prog 63 #[.pointer (some ⟨g, 0, none⟩)] w (Tells (okR R) w) := by
  obtain ⟨c0, c1, c2, c3, r1, r2, r3⟩ := h
  obtain ⟨ao1, cap1, rfl⟩ := r1.long
  obtain ⟨ao2, cap2, rfl⟩ := r2.long
  obtain ⟨ao3, cap3, rfl⟩ := r3.long
  have hn1 : R.N.length ≤ 1048576 := by unfold Rw.size at hn; omega
  have hn2 : R.B.length ≤ 1048576 := by unfold Rw.size at hn; omega
  have hn3 : R.G.length ≤ 1048576 := by unfold Rw.size at hn; omega
  have G1 := Lib.hid r1
  have G2 := Lib.hid r2
  have G3 := Lib.hid r3
  clear hn r1 r2 r3
  have NO := Lib.hid (okR_no (R := R) fun h => by have := h.b1; omega)
  have T0 := Lib.hid (show (decide (1 ≤ R.vars) && decide (R.vars ≤ 8)) = true by simp [hv1, hv2])
  have t1 : decide ((R.B.length : Int) < 1) = true := by simp; omega
  go_enter Try.func63, Try.ntmps63
  go_wp2_with fail
  go_quiet (((go_at_call 64; exact Calls.quiet_of (by have := l00In_any R.vars 1 8; rw [T0.out] at this; exact this _))))
  go_wp2_with fail
  go_ret
  exact tells _ NO.out.symm
set_option maxHeartbeats 400000 in
theorem l02Is_b2 (g : Nat) (s1 s2 s3 : Value) (R : Rw) (w : World) (h : RP w g s1 s2 s3 R) (hn : R.size ≤ 1048576) (hv1 : 1 ≤ R.vars) (hv2 : R.vars ≤ 8) (hb : 8 < R.B.length) :
    Calls Try.prog 63 #[.pointer (some ⟨g, 0, none⟩)] w (Tells (okR R) w) := by
  obtain ⟨c0, c1, c2, c3, r1, r2, r3⟩ := h
  obtain ⟨ao1, cap1, rfl⟩ := r1.long
  obtain ⟨ao2, cap2, rfl⟩ := r2.long
  obtain ⟨ao3, cap3, rfl⟩ := r3.long
  have hn1 : R.N.length ≤ 1048576 := by unfold Rw.size at hn; omega
  have hn2 : R.B.length ≤ 1048576 := by unfold Rw.size at hn; omega
  have hn3 : R.G.length ≤ 1048576 := by unfold Rw.size at hn; omega
  have G1 := Lib.hid r1
  have G2 := Lib.hid r2
  have G3 := Lib.hid r3
  clear hn r1 r2 r3
  have NO := Lib.hid (okR_no (R := R) fun h => by have := h.b2; omega)
  have T0 := Lib.hid (show (decide (1 ≤ R.vars) && decide (R.vars ≤ 8)) = true by simp [hv1, hv2])
  have t1 : decide ((R.B.length : Int) < 1) = false := by simp; omega
  have t2 : decide ((8 : Int) < (R.B.length : Int)) = true := by simp; omega
  go_enter Try.func63, Try.ntmps63
  go_wp2_with fail
  go_quiet (((go_at_call 64; exact Calls.quiet_of (by have := l00In_any R.vars 1 8; rw [T0.out] at this; exact this _))))
  go_wp2_with fail
  go_ret
  exact tells _ NO.out.symm
set_option maxHeartbeats 400000 in
theorem l02Is_g (g : Nat) (s1 s2 s3 : Value) (R : Rw) (w : World) (h : RP w g s1 s2 s3 R) (hn : R.size ≤ 1048576) (hv1 : 1 ≤ R.vars) (hv2 : R.vars ≤ 8) (hb1 : 1 ≤ R.B.length) (hb2 : R.B.length ≤ 8) (hg : (R.G.length : Int) ≠ R.vars) :
    Calls Try.prog 63 #[.pointer (some ⟨g, 0, none⟩)] w (Tells (okR R) w) := by
  obtain ⟨c0, c1, c2, c3, r1, r2, r3⟩ := h
  obtain ⟨ao1, cap1, rfl⟩ := r1.long
  obtain ⟨ao2, cap2, rfl⟩ := r2.long
  obtain ⟨ao3, cap3, rfl⟩ := r3.long
  have hn1 : R.N.length ≤ 1048576 := by unfold Rw.size at hn; omega
  have hn2 : R.B.length ≤ 1048576 := by unfold Rw.size at hn; omega
  have hn3 : R.G.length ≤ 1048576 := by unfold Rw.size at hn; omega
  have G1 := Lib.hid r1
  have G2 := Lib.hid r2
  have G3 := Lib.hid r3
  clear hn r1 r2 r3
  have NO := Lib.hid (okR_no (R := R) fun h => hg h.g)
  have T0 := Lib.hid (show (decide (1 ≤ R.vars) && decide (R.vars ≤ 8)) = true by simp [hv1, hv2])
  have t1 : decide ((R.B.length : Int) < 1) = false := by simp; omega
  have t2 : decide ((8 : Int) < (R.B.length : Int)) = false := by simp; omega
  have t3 : ((R.G.length : Int) != R.vars) = true := by simpa using hg
  clear hg
  go_enter Try.func63, Try.ntmps63
  go_wp2_with fail
  go_quiet (((go_at_call 64; exact Calls.quiet_of (by have := l00In_any R.vars 1 8; rw [T0.out] at this; exact this _))))
  go_wp2_with fail
  go_ret
  exact tells _ NO.out.symm
set_option maxHeartbeats 400000 in
theorem l02Is_n (g : Nat) (s1 s2 s3 : Value) (R : Rw) (w : World) (h : RP w g s1 s2 s3 R) (hn : R.size ≤ 1048576) (hv1 : 1 ≤ R.vars) (hv2 : R.vars ≤ 8) (hb1 : 1 ≤ R.B.length) (hb2 : R.B.length ≤ 8) (hg : (R.G.length : Int) = R.vars) (hN : (R.N.length : Int) ≠ R.vars * R.B.length) :
    Calls Try.prog 63 #[.pointer (some ⟨g, 0, none⟩)] w (Tells (okR R) w) := by
  obtain ⟨c0, c1, c2, c3, r1, r2, r3⟩ := h
  obtain ⟨ao1, cap1, rfl⟩ := r1.long
  obtain ⟨ao2, cap2, rfl⟩ := r2.long
  obtain ⟨ao3, cap3, rfl⟩ := r3.long
  have hn1 : R.N.length ≤ 1048576 := by unfold Rw.size at hn; omega
  have hn2 : R.B.length ≤ 1048576 := by unfold Rw.size at hn; omega
  have hn3 : R.G.length ≤ 1048576 := by unfold Rw.size at hn; omega
  have G1 := Lib.hid r1
  have G2 := Lib.hid r2
  have G3 := Lib.hid r3
  clear hn r1 r2 r3
  have NO := Lib.hid (okR_no (R := R) fun h => hN h.n)
  have T0 := Lib.hid (show (decide (1 ≤ R.vars) && decide (R.vars ≤ 8)) = true by simp [hv1, hv2])
  have t1 : decide ((R.B.length : Int) < 1) = false := by simp; omega
  have t2 : decide ((8 : Int) < (R.B.length : Int)) = false := by simp; omega
  have t3 : ((R.G.length : Int) != R.vars) = false := by simp [hg]
  have HG := Lib.hid hg
  clear hg
  have hp : 0 ≤ R.vars * (R.B.length : Int) ∧ R.vars * (R.B.length : Int) ≤ 64 := ⟨Int.mul_nonneg (by omega) (by omega), Int.le_trans (Int.mul_le_mul hv2 (by omega : (R.B.length : Int) ≤ 8) (by omega) (by omega)) (by omega)⟩
  have hw : IntKind.i64.wrap (R.vars * (R.B.length : Int)) = R.vars * (R.B.length : Int) := IntWalk.i64_in _ (by omega)
  have t4 : ((R.N.length : Int) != R.vars * (R.B.length : Int)) = true := by simpa using hN
  clear hN
  go_enter Try.func63, Try.ntmps63
  go_wp2_with fail
  go_quiet (((go_at_call 64; exact Calls.quiet_of (by have := l00In_any R.vars 1 8; rw [T0.out] at this; exact this _))))
  go_wp2_with fail
  go_quiet ((go_at_call 83; first | exact quiet_add (l02Finite_is _ _ _ _ G1.out hn1 rfl) | exact quiet_add (l02Finite_is _ _ _ _ G3.out hn3 rfl)))
  go_wp2_with fail
  go_ret
  exact tells2 _ _ NO.out.symm
set_option maxHeartbeats 400000 in
theorem l02Is_fn (g : Nat) (s1 s2 s3 : Value) (R : Rw) (w : World) (h : RP w g s1 s2 s3 R) (hn : R.size ≤ 1048576) (hv1 : 1 ≤ R.vars) (hv2 : R.vars ≤ 8) (hb1 : 1 ≤ R.B.length) (hb2 : R.B.length ≤ 8) (hg : (R.G.length : Int) = R.vars) (hN : (R.N.length : Int) = R.vars * R.B.length) (hfn : ¬ finAll R.N = true) :
    Calls Try.prog 63 #[.pointer (some ⟨g, 0, none⟩)] w (Tells (okR R) w) := by
  obtain ⟨c0, c1, c2, c3, r1, r2, r3⟩ := h
  obtain ⟨ao1, cap1, rfl⟩ := r1.long
  obtain ⟨ao2, cap2, rfl⟩ := r2.long
  obtain ⟨ao3, cap3, rfl⟩ := r3.long
  have hn1 : R.N.length ≤ 1048576 := by unfold Rw.size at hn; omega
  have hn2 : R.B.length ≤ 1048576 := by unfold Rw.size at hn; omega
  have hn3 : R.G.length ≤ 1048576 := by unfold Rw.size at hn; omega
  have G1 := Lib.hid r1
  have G2 := Lib.hid r2
  have G3 := Lib.hid r3
  clear hn r1 r2 r3
  have NO := Lib.hid (okR_no (R := R) fun h => hfn h.fn)
  have T0 := Lib.hid (show (decide (1 ≤ R.vars) && decide (R.vars ≤ 8)) = true by simp [hv1, hv2])
  have t1 : decide ((R.B.length : Int) < 1) = false := by simp; omega
  have t2 : decide ((8 : Int) < (R.B.length : Int)) = false := by simp; omega
  have t3 : ((R.G.length : Int) != R.vars) = false := by simp [hg]
  have HG := Lib.hid hg
  clear hg
  have hp : 0 ≤ R.vars * (R.B.length : Int) ∧ R.vars * (R.B.length : Int) ≤ 64 := ⟨Int.mul_nonneg (by omega) (by omega), Int.le_trans (Int.mul_le_mul hv2 (by omega : (R.B.length : Int) ≤ 8) (by omega) (by omega)) (by omega)⟩
  have hw : IntKind.i64.wrap (R.vars * (R.B.length : Int)) = R.vars * (R.B.length : Int) := IntWalk.i64_in _ (by omega)
  have t4 : ((R.N.length : Int) != R.vars * (R.B.length : Int)) = false := by simp [hN]
  have HN := Lib.hid hN
  clear hN
  have U1 := Lib.hid (show finAll R.N = false by simpa using hfn)
  clear hfn
  go_enter Try.func63, Try.ntmps63
  go_wp2_with fail
  go_quiet (((go_at_call 64; exact Calls.quiet_of (by have := l00In_any R.vars 1 8; rw [T0.out] at this; exact this _))))
  go_wp2_with fail
  go_quiet ((go_at_call 83; first | exact quiet_add (l02Finite_is _ _ _ _ G1.out hn1 U1.out) | exact quiet_add (l02Finite_is _ _ _ _ G3.out hn3 rfl)))
  go_wp2_with fail
  go_ret
  exact tells2 _ _ NO.out.symm
set_option maxHeartbeats 400000 in
theorem l02Is_fg (g : Nat) (s1 s2 s3 : Value) (R : Rw) (w : World) (h : RP w g s1 s2 s3 R) (hn : R.size ≤ 1048576) (hv1 : 1 ≤ R.vars) (hv2 : R.vars ≤ 8) (hb1 : 1 ≤ R.B.length) (hb2 : R.B.length ≤ 8) (hg : (R.G.length : Int) = R.vars) (hN : (R.N.length : Int) = R.vars * R.B.length) (hfn : finAll R.N = true) (hfg : ¬ finAll R.G = true) :
    Calls Try.prog 63 #[.pointer (some ⟨g, 0, none⟩)] w (Tells (okR R) w) := by
  obtain ⟨c0, c1, c2, c3, r1, r2, r3⟩ := h
  obtain ⟨ao1, cap1, rfl⟩ := r1.long
  obtain ⟨ao2, cap2, rfl⟩ := r2.long
  obtain ⟨ao3, cap3, rfl⟩ := r3.long
  have hn1 : R.N.length ≤ 1048576 := by unfold Rw.size at hn; omega
  have hn2 : R.B.length ≤ 1048576 := by unfold Rw.size at hn; omega
  have hn3 : R.G.length ≤ 1048576 := by unfold Rw.size at hn; omega
  have G1 := Lib.hid r1
  have G2 := Lib.hid r2
  have G3 := Lib.hid r3
  clear hn r1 r2 r3
  have NO := Lib.hid (okR_no (R := R) fun h => hfg h.fg)
  have T0 := Lib.hid (show (decide (1 ≤ R.vars) && decide (R.vars ≤ 8)) = true by simp [hv1, hv2])
  have t1 : decide ((R.B.length : Int) < 1) = false := by simp; omega
  have t2 : decide ((8 : Int) < (R.B.length : Int)) = false := by simp; omega
  have t3 : ((R.G.length : Int) != R.vars) = false := by simp [hg]
  have HG := Lib.hid hg
  clear hg
  have hp : 0 ≤ R.vars * (R.B.length : Int) ∧ R.vars * (R.B.length : Int) ≤ 64 := ⟨Int.mul_nonneg (by omega) (by omega), Int.le_trans (Int.mul_le_mul hv2 (by omega : (R.B.length : Int) ≤ 8) (by omega) (by omega)) (by omega)⟩
  have hw : IntKind.i64.wrap (R.vars * (R.B.length : Int)) = R.vars * (R.B.length : Int) := IntWalk.i64_in _ (by omega)
  have t4 : ((R.N.length : Int) != R.vars * (R.B.length : Int)) = false := by simp [hN]
  have HN := Lib.hid hN
  clear hN
  have U1 := Lib.hid hfn
  have U2 := Lib.hid (show finAll R.G = false by simpa using hfg)
  clear hfn hfg
  go_enter Try.func63, Try.ntmps63
  go_wp2_with fail
  go_quiet (((go_at_call 64; exact Calls.quiet_of (by have := l00In_any R.vars 1 8; rw [T0.out] at this; exact this _))))
  go_wp2_with fail
  go_quiet ((go_at_call 83; first | exact quiet_add (l02Finite_is _ _ _ _ G1.out hn1 U1.out) | exact quiet_add (l02Finite_is _ _ _ _ G3.out hn3 U2.out)))
  go_wp2_with fail
  go_ret
  exact tells2 _ _ NO.out.symm
set_option maxHeartbeats 1000000 in
theorem l02Is_ok (g : Nat) (s1 s2 s3 : Value) (R : Rw) (w : World) (h : RP w g s1 s2 s3 R) (hn : R.size ≤ 1048576) (hv1 : 1 ≤ R.vars) (hv2 : R.vars ≤ 8) (hb1 : 1 ≤ R.B.length) (hb2 : R.B.length ≤ 8) (hg : (R.G.length : Int) = R.vars) (hN : (R.N.length : Int) = R.vars * R.B.length) (hfn : finAll R.N = true) (hfg : finAll R.G = true) :
    Calls Try.prog 63 #[.pointer (some ⟨g, 0, none⟩)] w (Tells (okR R) w) := by
  obtain ⟨c0, c1, c2, c3, r1, r2, r3⟩ := h
  obtain ⟨ao1, cap1, rfl⟩ := r1.long
  obtain ⟨ao2, cap2, rfl⟩ := r2.long
  obtain ⟨ao3, cap3, rfl⟩ := r3.long
  have hn1 : R.N.length ≤ 1048576 := by unfold Rw.size at hn; omega
  have hn2 : R.B.length ≤ 1048576 := by unfold Rw.size at hn; omega
  have hn3 : R.G.length ≤ 1048576 := by unfold Rw.size at hn; omega
  have G1 := Lib.hid r1
  have G2 := Lib.hid r2
  have G3 := Lib.hid r3
  clear hn r1 r2 r3
  have T0 := Lib.hid (show (decide (1 ≤ R.vars) && decide (R.vars ≤ 8)) = true by simp [hv1, hv2])
  have t1 : decide ((R.B.length : Int) < 1) = false := by simp; omega
  have t2 : decide ((8 : Int) < (R.B.length : Int)) = false := by simp; omega
  have t3 : ((R.G.length : Int) != R.vars) = false := by simp [hg]
  have HG := Lib.hid hg
  clear hg
  have hp : 0 ≤ R.vars * (R.B.length : Int) ∧ R.vars * (R.B.length : Int) ≤ 64 := ⟨Int.mul_nonneg (by omega) (by omega), Int.le_trans (Int.mul_le_mul hv2 (by omega : (R.B.length : Int) ≤ 8) (by omega) (by omega)) (by omega)⟩
  have hw : IntKind.i64.wrap (R.vars * (R.B.length : Int)) = R.vars * (R.B.length : Int) := IntWalk.i64_in _ (by omega)
  have t4 : ((R.N.length : Int) != R.vars * (R.B.length : Int)) = false := by simp [hN]
  have HN := Lib.hid hN
  clear hN
  have U1 := Lib.hid hfn
  have U2 := Lib.hid hfg
  clear hfn hfg
  go_enter Try.func63, Try.ntmps63
  go_wp2_with fail
  go_quiet (((go_at_call 64; exact Calls.quiet_of (by have := l00In_any R.vars 1 8; rw [T0.out] at this; exact this _))))
  go_wp2_with fail
  go_quiet ((go_at_call 83; first | exact quiet_add (l02Finite_is _ _ _ _ G1.out hn1 U1.out) | exact quiet_add (l02Finite_is _ _ _ _ G3.out hn3 U2.out)))
  go_wp2_with fail
  generalize hW : w.drewN _ = W
  have HW := Lib.hid hW
  have GB : SL W (.slice ao2 R.B.length cap2) R.B := by rw [← hW]; exact G2.out
  have e0 : W.cell? ⟨g, 0, none⟩ = some (.int .i64 R.vars) := by rw [← hW]; exact c0
  have e2 : W.cell? ⟨g, 2, none⟩ = some (.slice ao2 R.B.length cap2) := by rw [← hW]; exact c2
  clear hW c0 c1 c2 c3 t1 t2 t3 t4 hw hp
  rcases GB with ⟨hz, _⟩ | ⟨b, off, cap, hs, hpos, hbl, hcell⟩
  · rw [hz] at hb1; exact absurd hb1 (by simp)
  simp only [Value.slice.injEq, true_and] at hs
  obtain ⟨rfl, rfl⟩ := hs
  go_loopw [3] (fun i wr => ∃ k : Nat, k ≤ R.B.length ∧ i = .int .i64 k ∧ (∀ j, j < k → leastB (R.B.getD j 0) = true) ∧ ∃ n, wr = W.drewN n) (fun i _ => R.B.length - (intOf i).toNat)
  case atStart => exact ⟨0, Nat.zero_le _, rfl, fun j hj => by omega, _, rfl⟩
  case round =>
    obtain ⟨k, hk, rfl, hall, n, rfl⟩ := hrel
    have HA := Lib.hid hall
    clear hall
    by_cases hlt : k < R.B.length
    · have hc1 := hcell k hlt
      have HGB := Lib.hid (getD_at hlt)
      clear hcell
      rw [getD_at hlt] at hc1
      cases hf : leastB R.B[k] with
      | true =>
        have HF := Lib.hid hf
        clear hf
        go_wp2_with (go_at_call 87; refine (l02Least_any _ _).mono ?_; rintro e w' ⟨rfl, m, rfl⟩; rw [HF.out])
        go_roundw
        case rel => exact ⟨k + 1, by omega, by go_num, fun j hj => by
          by_cases e : j = k
          · subst e; rw [HGB.out]; exact HF.out
          · exact HA.out j (by omega), _, rfl⟩
        case measure => simp [intOf]; omega
      | false =>
        have HF := Lib.hid hf
        clear hf
        go_wp2_with (go_at_call 87; refine (l02Least_any _ _).mono ?_; rintro e w' ⟨rfl, m, rfl⟩; rw [HF.out])
        go_ret
        have e : okR R = false := okR_no fun h => by
          have := h.lb
          unfold leastAll at this
          rw [all_false hlt (by rw [HGB.out]; exact HF.out)] at this
          cases this
        rw [← HW.out]
        exact ⟨by rw [e]; rfl, _, World.drewN_drewN _ _ _⟩
    · obtain rfl : k = R.B.length := by omega
      clear hcell
      go_wp2
      go_ret
      have e : okR R = true := (okR_iff R).2 ⟨hv1, hv2, hb1, hb2, HG.out, HN.out, U1.out, U2.out, all_true HA.out⟩
      rw [← HW.out]
      exact ⟨by rw [e]; rfl, _, World.drewN_drewN _ _ _⟩
theorem l02Is_any (g : Nat) (s1 s2 s3 : Value) (R : Rw) (w : World) (h : RP w g s1 s2 s3 R) (hn : R.size ≤ 1048576) :
    Calls Try.prog 63 #[.pointer (some ⟨g, 0, none⟩)] w (Tells (okR R) w) := by
  by_cases hv : 1 ≤ R.vars ∧ R.vars ≤ 8
  · by_cases hb1 : R.B.length < 1
    · exact l02Is_b1 g s1 s2 s3 R w h hn hv.1 hv.2 hb1
    by_cases hb2 : 8 < R.B.length
    · exact l02Is_b2 g s1 s2 s3 R w h hn hv.1 hv.2 hb2
    by_cases hg : (R.G.length : Int) = R.vars
    · by_cases hN : (R.N.length : Int) = R.vars * R.B.length
      · by_cases hfn : finAll R.N = true
        · by_cases hfg : finAll R.G = true
          · exact l02Is_ok g s1 s2 s3 R w h hn hv.1 hv.2 (by omega) (by omega) hg hN hfn hfg
          · exact l02Is_fg g s1 s2 s3 R w h hn hv.1 hv.2 (by omega) (by omega) hg hN hfn hfg
        · exact l02Is_fn g s1 s2 s3 R w h hn hv.1 hv.2 (by omega) (by omega) hg hN hfn
      · exact l02Is_n g s1 s2 s3 R w h hn hv.1 hv.2 (by omega) (by omega) hg hN
    · exact l02Is_g g s1 s2 s3 R w h hn hv.1 hv.2 (by omega) (by omega) hg
  · exact l02Is_v g s1 s2 s3 R w h hn hv
end Go.Proofs.Ytajekehidofkiaa
