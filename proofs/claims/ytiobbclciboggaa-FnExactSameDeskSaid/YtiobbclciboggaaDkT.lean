/- Desks: their copies, their sizes, how one comes in. -/
import Derived.Test.YtiobbclciboggaaDk
import Derived.Test.YtiobbclciboggaaLsS
import Derived.Test.YtiobbclciboggaaOpen
namespace Go.Proofs.Ytiobbclciboggaa
open Go.RowKit Go.ChangeShapes Go.WideShapes Go.Joins

def MadeDk (D : Dk) (w : World) (e : Ending) (w' : World) : Prop := ∃ v, e = .returned v ∧ DkD w.heap.size w'.heap.size w' v D ∧ Below w.heap.size w w'
theorem RD.lits {lo hi : Nat} {w : World} {v : Value} {R : Rw} (h : RD lo hi w v R) : ∃ x1 y1 x2 y2 x3 y3, v = .agg #[.int .i64 R.vars, .slice x1 R.N.length y1, .slice x2 R.B.length y2, .slice x3 R.G.length y3] := by
  obtain ⟨s1, s2, s3, a, b, -, -, -, rfl, g1, g2, g3⟩ := h
  obtain ⟨x1, y1, rfl⟩ := SI.len g1
  obtain ⟨x2, y2, rfl⟩ := SI.len g2
  obtain ⟨x3, y3, rfl⟩ := SI.len g3
  exact ⟨x1, y1, x2, y2, x3, y3, rfl⟩
theorem RD.wide0 {lo lo' hi : Nat} {w : World} {v : Value} {R : Rw} (h : RD lo hi w v R) (h1 : lo' ≤ lo) : RD lo' hi w v R := by
  obtain ⟨s1, s2, s3, a, b, l1, l2, l3, e, g1, g2, g3⟩ := h
  have hh : hi ≤ w.heap.size := g3.1
  exact ⟨s1, s2, s3, a, b, by omega, l2, l3, e, SI.wide g1 h1 (Nat.le_refl _) (by omega), g2, g3⟩
theorem DkD.of {lo c d e hi : Nat} {w : World} {vars : Int} {s1 s2 s3 z j y : Value} {D : Dk} (h : RD lo c w (.agg #[.int .i64 vars, s1, s2, s3]) D.rows) (l4 : c ≤ d) (l5 : d ≤ e) (l6 : e ≤ hi) (h4 : II c d w z D.sizes) (h5 : AI d e w j D.jobs) (h6 : II e hi w y D.ways) :
    DkD lo hi w (.agg #[.int .i64 vars, s1, s2, s3, z, j, y]) D := by
  obtain ⟨r1, r2, r3, a, b, l1, l2, l3, ev, g1, g2, g3⟩ := h
  simp only [Value.agg.injEq, Array.mk.injEq, List.cons.injEq, and_true] at ev
  obtain ⟨e0, rfl, rfl, rfl⟩ := ev
  exact ⟨s1, s2, s3, z, j, y, a, b, c, d, e, ⟨l1, l2, l3, l4, l5, l6⟩, by rw [e0], g1, g2, g3, h4, h5, h6⟩
theorem four {B q : Nat} {W w1 : World} (h : Below B W w1) (hq : B ≤ q) (a b c d : Value) : Below B W ((((w1.setCell ⟨q, 0, none⟩ a).setCell ⟨q, 1, none⟩ b).setCell ⟨q, 2, none⟩ c).setCell ⟨q, 3, none⟩ d) :=
  (((h.setCell (p := ⟨q, 0, none⟩) hq a).setCell (p := ⟨q, 1, none⟩) hq b).setCell (p := ⟨q, 2, none⟩) hq c).setCell (p := ⟨q, 3, none⟩) hq d
theorem fourT (q : Nat) (w1 : World) (a b c d : Value) : Turned q (q + 1) w1 ((((w1.setCell ⟨q, 0, none⟩ a).setCell ⟨q, 1, none⟩ b).setCell ⟨q, 2, none⟩ c).setCell ⟨q, 3, none⟩ d) :=
  ((((Turned.refl q (q + 1) w1).setCell (p := ⟨q, 0, none⟩) (Nat.le_refl _) (Nat.lt_succ_self _) a).setCell (p := ⟨q, 1, none⟩) (Nat.le_refl _) (Nat.lt_succ_self _) b).setCell (p := ⟨q, 2, none⟩) (Nat.le_refl _) (Nat.lt_succ_self _) c).setCell (p := ⟨q, 3, none⟩) (Nat.le_refl _) (Nat.lt_succ_self _) d
theorem oneT (q o : Nat) (w1 : World) (a : Value) : Turned q (q + 1) w1 (w1.setCell ⟨q, o, none⟩ a) := (Turned.refl q (q + 1) w1).setCell (p := ⟨q, o, none⟩) (Nat.le_refl _) (Nat.lt_succ_self _) a
set_option maxRecDepth 100000 in
set_option maxHeartbeats 4000000 in
theorem toDesk_any (v : Value) (D : Dk) (w : World) (hv : DkV w v D) (hn : D.sz ≤ 1048576) :
    Calls Try.prog 52 #[v] w (MadeDk D w) := by
  have n1 : D.rows.size ≤ 1048576 := by unfold Dk.sz at hn; omega
  have n2 : D.sizes.length ≤ 1048576 := by unfold Dk.sz at hn; omega
  have n3 : D.jobs.length ≤ 1048576 := by unfold Dk.sz at hn; omega
  have n4 : D.ways.length ≤ 1048576 := by unfold Dk.sz at hn; omega
  obtain ⟨s1, s2, s3, z, j, y, rfl, g1, g2, g3, g4, g5, g6⟩ := hv
  have G0 : Hid (∀ W, Below w.heap.size w W → RV W (.agg #[.int .i64 D.rows.vars, s1, s2, s3]) D.rows) := Lib.hid fun W h => ⟨s1, s2, s3, rfl, g1.below h (Nat.le_refl _), g2.below h (Nat.le_refl _), g3.below h (Nat.le_refl _)⟩
  have G4 : Hid (∀ W, Below w.heap.size w W → IL W z D.sizes) := Lib.hid fun W h => g4.below h (Nat.le_refl _)
  have G5 : Hid (∀ W, Below w.heap.size w W → AV W j D.jobs) := Lib.hid fun W h => g5.below h (Nat.le_refl _)
  have G6 : Hid (∀ W, Below w.heap.size w W → IL W y D.ways) := Lib.hid fun W h => g6.below h (Nat.le_refl _)
  have HB0 : Hid (∀ A B C, Below w.heap.size w (((w.alloc A).alloc B).alloc C)) := Lib.hid fun A B C => ((below_alloc w A).alloc (by simp) B).alloc (by simp; omega) C
  clear g1 g2 g3 g4 g5 g6 hn
  go_enter Try.func52, Try.ntmps52
  go_wp2_with fail
  go_at_call 95; refine (toRows_any _ D.rows _ (G0.out _ (HB0.out _ _ _)) n1).mono ?_; rintro e w1 ⟨v1, rfl, i1, b1⟩
  obtain ⟨x1, y1, x2, y2, x3, y3, rfl⟩ := i1.lits
  obtain ⟨hc1, hf1⟩ := bcell b1
  have hz1 : w.heap.size + 1 + 1 < w1.heap.size := by have := b1.size; simp at this; omega
  have hy1 : w.heap.size < w1.heap.size := by omega
  have hx1 : w.heap.size + 1 < w1.heap.size := by omega
  have I1 := Lib.hid (RD.wide0 (lo' := w.heap.size + 1 + 1 + 1) i1 (by simp))
  have B1 := Lib.hid ((HB0.out _ _ _).trans (b1.mono (by simp; omega)))
  clear i1 b1
  go_wp2_with fail
  go_at_call 34; refine (toI64_si _ D.sizes _ (G4.out _ (four B1.out (by omega) _ _ _ _)) n2).mono ?_; rintro e w2 ⟨v2, rfl, i2, b2⟩
  obtain ⟨x4, y4, rfl⟩ := SI.len i2
  obtain ⟨hc2, hf2⟩ := bcell b2
  have HS2 := Lib.hid (show w1.heap.size ≤ w2.heap.size by have := b2.size; simpa using this)
  have hz2 : w.heap.size + 1 + 1 < w2.heap.size := Nat.lt_of_lt_of_le hz1 HS2.out
  have hy2 : w.heap.size < w2.heap.size := by omega
  have hx2 : w.heap.size + 1 < w2.heap.size := by omega
  have J1 := Lib.hid ((I1.out.kept (fourT _ _ _ _ _ _) (Or.inr (Nat.le_refl _))).below b2 (Nat.le_refl _))
  have I2 := Lib.hid (SI.wide (lo' := w1.heap.size) i2 (by simp) (Nat.le_refl _) (Nat.le_refl _))
  have B2 := Lib.hid ((four B1.out (by omega) _ _ _ _).trans (b2.mono (by simp; omega)))
  clear i2 b2 I1 B1
  go_wp2_with fail
  go_at_call 96; refine (toJobS_any _ D.jobs _ (G5.out _ (B2.out.setCell (p := ⟨w.heap.size + 1 + 1, 4, none⟩) (by show _ ≤ w.heap.size + 1 + 1; omega) _)) n3).mono ?_; rintro e w3 ⟨v3, rfl, i3, b3⟩
  obtain ⟨x5, y5, rfl⟩ := i3.len'
  obtain ⟨hc3, hf3⟩ := bcell b3
  have HS3 := Lib.hid (show w2.heap.size ≤ w3.heap.size by have := b3.size; simpa using this)
  have hz3 : w.heap.size + 1 + 1 < w3.heap.size := Nat.lt_of_lt_of_le hz2 HS3.out
  have hy3 : w.heap.size < w3.heap.size := by omega
  have hx3 : w.heap.size + 1 < w3.heap.size := by omega
  have K1 := Lib.hid ((J1.out.kept (oneT _ _ _ _) (Or.inr (Nat.le_refl _))).below b3 (Nat.le_refl _))
  have K2 := Lib.hid (SI.below (SI.kept I2.out (oneT _ _ _ _) (Or.inr hz1)) b3 (Nat.le_refl _))
  have I3 := Lib.hid (i3.wide (lo' := w2.heap.size) (by simp) (Nat.le_refl _) (Nat.le_refl _))
  have B3 := Lib.hid ((B2.out.setCell (p := ⟨w.heap.size + 1 + 1, 4, none⟩) (by show _ ≤ w.heap.size + 1 + 1; omega) _).trans (b3.mono (by simp; omega)))
  clear i3 b3 J1 I2 B2
  go_wp2_with fail
  go_at_call 34; refine (toI64_si _ D.ways _ (G6.out _ (B3.out.setCell (p := ⟨w.heap.size + 1 + 1, 5, none⟩) (by show _ ≤ w.heap.size + 1 + 1; omega) _)) n4).mono ?_; rintro e w4 ⟨v4, rfl, i4, b4⟩
  obtain ⟨x6, y6, rfl⟩ := SI.len i4
  obtain ⟨hc4, hf4⟩ := bcell b4
  have HS4 := Lib.hid (show w3.heap.size ≤ w4.heap.size by have := b4.size; simpa using this)
  have hz4 : w.heap.size + 1 + 1 < w4.heap.size := Nat.lt_of_lt_of_le hz3 HS4.out
  have hx4 : w.heap.size + 1 < w4.heap.size := by omega
  have L1 := Lib.hid ((K1.out.kept (oneT _ _ _ _) (Or.inr (Nat.le_refl _))).below b4 (Nat.le_refl _))
  have L2 := Lib.hid (SI.below (SI.kept K2.out (oneT _ _ _ _) (Or.inr hz1)) b4 (Nat.le_refl _))
  have L3 := Lib.hid ((I3.out.kept' (oneT _ _ _ _) (Or.inr hz2)).below' b4 (Nat.le_refl _))
  have I4 := Lib.hid (SI.wide (lo' := w3.heap.size) i4 (by simp) (Nat.le_refl _) (Nat.le_refl _))
  have B4 := Lib.hid ((B3.out.setCell (p := ⟨w.heap.size + 1 + 1, 5, none⟩) (by show _ ≤ w.heap.size + 1 + 1; omega) _).trans (b4.mono (by simp; omega)))
  clear i4 b4 K1 K2 I3 B3
  go_wp2_with fail
  refine bodyPost_ret (v := .agg #[.int .i64 D.rows.vars, .slice x1 D.rows.N.length y1, .slice x2 D.rows.B.length y2, .slice x3 D.rows.G.length y3, .slice x4 D.sizes.length y4, .slice x5 D.jobs.length y5, .slice x6 D.ways.length y6]) (by simp [results, Try.results52, hc1, hc2, hc3, hc4, hx1, hx2, hx3, go_sem]) rfl ?_
  generalize hX : World.setCell _ _ _ = X
  have hT : Turned (w.heap.size + 1) (w.heap.size + 1 + 1 + 1) w4 X := by
    rw [← hX]
    repeat (refine Turned.setCell ?_ (by simp) (by simp) _)
    exact Turned.refl _ _ _
  clear hX
  have hTB := hT.below (by omega)
  refine ⟨_, rfl, DkD.of (c := w1.heap.size) (d := w2.heap.size) (e := w3.heap.size) ((L1.out.kept hT (Or.inr (Nat.le_refl _))).wide0 (by omega)) HS2.out HS3.out (Nat.le_trans HS4.out hT.size) ?_ ?_ ?_, B4.out.trans (hTB.mono (by omega))⟩
  · exact SI.kept L2.out hT (Or.inr hz1)
  · exact L3.out.kept' hT (Or.inr hz2)
  · exact SI.wide (SI.kept I4.out hT (Or.inr hz3)) (Nat.le_refl _) hT.size (Nat.le_refl _)
set_option maxHeartbeats 1000000 in
theorem szDesk_yes (v : Value) (D : Dk) (m : Int) (w : World) (hv : DkV w v D) (hm : (D.sz : Int) ≤ m) (hb : m ≤ 1048576) :
    Calls Try.prog 50 #[v, .int .i64 m] w fun e w' => e = .returned (.int .i64 (m - D.sz)) ∧ Below w.heap.size w w' := by
  have hs : (D.rows.size : Int) + (D.sizes.length : Int) + (D.jobs.length : Int) + (D.ways.length : Int) = (D.sz : Int) := by unfold Dk.sz; omega
  obtain ⟨s1, s2, s3, z, j, y, rfl, g1, g2, g3, g4, g5, g6⟩ := hv
  have G0 : Hid (∀ W, Below w.heap.size w W → RV W (.agg #[.int .i64 D.rows.vars, s1, s2, s3]) D.rows) := Lib.hid fun W h => ⟨s1, s2, s3, rfl, g1.below h (Nat.le_refl _), g2.below h (Nat.le_refl _), g3.below h (Nat.le_refl _)⟩
  have L4 := Lib.hid g4.len
  have G5 : Hid (∀ W, Below w.heap.size w W → AV W j D.jobs) := Lib.hid fun W h => g5.below h (Nat.le_refl _)
  have L6 := Lib.hid g6.len
  have HB0 := Lib.hid (fun A => below_alloc w A)
  have X0 := Lib.hid (Box7.mk' w (.int .i64 D.rows.vars) s1 s2 s3 z j y 64)
  clear g1 g2 g3 g4 g5 g6
  generalize D.sz = t at hs hm ⊢
  have HS := Lib.hid hs
  have m1 : ¬ m - (D.rows.size : Int) < 0 := by omega
  have e1 : 0 ≤ m - (D.rows.size : Int) := by omega
  have u1 : m - (D.rows.size : Int) ≤ 1048576 := by omega
  have m2 : ¬ m - (D.rows.size : Int) - (D.sizes.length : Int) < 0 := by omega
  have e2 : 0 ≤ m - (D.rows.size : Int) - (D.sizes.length : Int) := by omega
  have u2 : m - (D.rows.size : Int) - (D.sizes.length : Int) ≤ 1048576 := by omega
  have m3 : ¬ m - (D.rows.size : Int) - (D.sizes.length : Int) - (D.jobs.length : Int) < 0 := by omega
  have e3 : 0 ≤ m - (D.rows.size : Int) - (D.sizes.length : Int) - (D.jobs.length : Int) := by omega
  have u3 : m - (D.rows.size : Int) - (D.sizes.length : Int) - (D.jobs.length : Int) ≤ 1048576 := by omega
  have m4 : ¬ m - (D.rows.size : Int) - (D.sizes.length : Int) - (D.jobs.length : Int) - (D.ways.length : Int) < 0 := by omega
  have e4 : 0 ≤ m - (D.rows.size : Int) - (D.sizes.length : Int) - (D.jobs.length : Int) - (D.ways.length : Int) := by omega
  have u4 : m - (D.rows.size : Int) - (D.sizes.length : Int) - (D.jobs.length : Int) - (D.ways.length : Int) ≤ 1048576 := by omega
  have q1 : (D.rows.size : Int) ≤ m := by omega
  have q2 : (D.sizes.length : Int) ≤ m - (D.rows.size : Int) := by omega
  have q3 : (D.jobs.length : Int) ≤ m - (D.rows.size : Int) - (D.sizes.length : Int) := by omega
  have q4 : (D.ways.length : Int) ≤ m - (D.rows.size : Int) - (D.sizes.length : Int) - (D.jobs.length : Int) := by omega
  clear hs
  go_enter Try.func50, Try.ntmps50
  go_wp2_with fail
  go_at_call 91; refine (szRows_yes _ D.rows _ _ (G0.out _ (HB0.out _)) q1 hb).mono ?_; rintro e w1 ⟨rfl, b1⟩
  have H1 := Lib.hid ((HB0.out _).trans (b1.mono (HB0.out _).size))
  have X1 := Lib.hid (X0.out.keep b1 X0.out.lt)
  clear b1
  obtain ⟨c0, c1, c2, c3, c4, c5, c6⟩ := X1.out
  go_wp2_with fail
  go_at_call 56; refine (szI_yes _ D.sizes.length _ _ L4.out q2 u1).mono ?_; rintro e w2 ⟨rfl, rfl⟩
  go_wp2_with fail
  go_at_call 92; refine (szA_yes _ D.jobs _ _ (G5.out _ H1.out) q3 u2).mono ?_; rintro e w3 ⟨rfl, b3⟩
  have H3 := Lib.hid (H1.out.trans (b3.mono H1.out.size))
  have X3 := Lib.hid (X1.out.keep b3 X1.out.lt)
  clear b3 c0 c1 c2 c3 c4 c5 c6
  obtain ⟨c0, c1, c2, c3, c4, c5, c6⟩ := X3.out
  go_wp2_with fail
  go_at_call 56; refine (szI_yes _ D.ways.length _ _ L6.out q4 u3).mono ?_; rintro e w4 ⟨rfl, rfl⟩
  go_wp2_with fail
  go_ret
  exact ⟨ret_int (by have := HS.out; omega), H3.out⟩
set_option maxHeartbeats 2000000 in
theorem szDesk_no (v : Value) (D : Dk) (m : Int) (w : World) (hv : DkV w v D) (hm : m < (D.sz : Int)) (h0 : 0 ≤ m) (hb : m ≤ 1048576) (l1 : D.rows.N.length ≤ maxLen) (l2 : D.rows.B.length ≤ maxLen) (l3 : D.rows.G.length ≤ maxLen) (l4 : D.sizes.length ≤ maxLen) (l5 : D.jobs.length ≤ maxLen) (l6 : D.ways.length ≤ maxLen) :
    Calls Try.prog 50 #[v, .int .i64 m] w fun e w' => e = .returned (.int .i64 (-1)) ∧ Below w.heap.size w w' := by
  have hs : (D.rows.size : Int) + (D.sizes.length : Int) + (D.jobs.length : Int) + (D.ways.length : Int) = (D.sz : Int) := by unfold Dk.sz; omega
  obtain ⟨s1, s2, s3, z, j, y, rfl, g1, g2, g3, g4, g5, g6⟩ := hv
  have G0 : Hid (∀ W, Below w.heap.size w W → RV W (.agg #[.int .i64 D.rows.vars, s1, s2, s3]) D.rows) := Lib.hid fun W h => ⟨s1, s2, s3, rfl, g1.below h (Nat.le_refl _), g2.below h (Nat.le_refl _), g3.below h (Nat.le_refl _)⟩
  have L4 := Lib.hid g4.len
  have G5 : Hid (∀ W, Below w.heap.size w W → AV W j D.jobs) := Lib.hid fun W h => g5.below h (Nat.le_refl _)
  have L6 := Lib.hid g6.len
  have HB0 := Lib.hid (fun A => below_alloc w A)
  have X0 := Lib.hid (Box7.mk' w (.int .i64 D.rows.vars) s1 s2 s3 z j y 64)
  clear g1 g2 g3 g4 g5 g6
  generalize D.sz = t at hs hm
  by_cases k1 : m < (D.rows.size : Int)
  · clear hs
    go_enter Try.func50, Try.ntmps50
    go_wp2_with fail
    go_at_call 91; refine (szRows_no _ D.rows _ _ (G0.out _ (HB0.out _)) k1 h0 hb l1 l2 l3).mono ?_; rintro e w1 ⟨rfl, b1⟩
    have H1 := Lib.hid ((HB0.out _).trans (b1.mono (HB0.out _).size))
    clear b1
    go_wp2_with fail
    go_ret
    exact ⟨rfl, H1.out⟩
  have q1 : (D.rows.size : Int) ≤ m := by omega
  have m1 : ¬ m - (D.rows.size : Int) < 0 := by omega
  have e1 : 0 ≤ m - (D.rows.size : Int) := by omega
  have u1 : m - (D.rows.size : Int) ≤ 1048576 := by omega
  by_cases k2 : m - (D.rows.size : Int) < (D.sizes.length : Int)
  · clear hs
    go_enter Try.func50, Try.ntmps50
    go_wp2_with fail
    go_at_call 91; refine (szRows_yes _ D.rows _ _ (G0.out _ (HB0.out _)) q1 hb).mono ?_; rintro e w1 ⟨rfl, b1⟩
    have H1 := Lib.hid ((HB0.out _).trans (b1.mono (HB0.out _).size))
    have X1 := Lib.hid (X0.out.keep b1 X0.out.lt)
    clear b1
    obtain ⟨c0, c1, c2, c3, c4, c5, c6⟩ := X1.out
    go_wp2_with fail
    go_at_call 56; refine (szI_no _ D.sizes.length _ _ L4.out k2 e1 u1 l4).mono ?_; rintro e w2 ⟨rfl, rfl⟩
    go_wp2_with fail
    go_ret
    exact ⟨rfl, H1.out⟩
  have q2 : (D.sizes.length : Int) ≤ m - (D.rows.size : Int) := by omega
  have m2 : ¬ m - (D.rows.size : Int) - (D.sizes.length : Int) < 0 := by omega
  have e2 : 0 ≤ m - (D.rows.size : Int) - (D.sizes.length : Int) := by omega
  have u2 : m - (D.rows.size : Int) - (D.sizes.length : Int) ≤ 1048576 := by omega
  by_cases k3 : m - (D.rows.size : Int) - (D.sizes.length : Int) < (D.jobs.length : Int)
  · clear hs
    go_enter Try.func50, Try.ntmps50
    go_wp2_with fail
    go_at_call 91; refine (szRows_yes _ D.rows _ _ (G0.out _ (HB0.out _)) q1 hb).mono ?_; rintro e w1 ⟨rfl, b1⟩
    have H1 := Lib.hid ((HB0.out _).trans (b1.mono (HB0.out _).size))
    have X1 := Lib.hid (X0.out.keep b1 X0.out.lt)
    clear b1
    obtain ⟨c0, c1, c2, c3, c4, c5, c6⟩ := X1.out
    go_wp2_with fail
    go_at_call 56; refine (szI_yes _ D.sizes.length _ _ L4.out q2 u1).mono ?_; rintro e w2 ⟨rfl, rfl⟩
    go_wp2_with fail
    go_at_call 92; refine (szA_no _ D.jobs _ _ (G5.out _ H1.out) k3 e2 u2 l5).mono ?_; rintro e w3 ⟨rfl, b3⟩
    have H3 := Lib.hid (H1.out.trans (b3.mono H1.out.size))
    clear b3
    go_wp2_with fail
    go_ret
    exact ⟨rfl, H3.out⟩
  have q3 : (D.jobs.length : Int) ≤ m - (D.rows.size : Int) - (D.sizes.length : Int) := by omega
  have m3 : ¬ m - (D.rows.size : Int) - (D.sizes.length : Int) - (D.jobs.length : Int) < 0 := by omega
  have e3 : 0 ≤ m - (D.rows.size : Int) - (D.sizes.length : Int) - (D.jobs.length : Int) := by omega
  have u3 : m - (D.rows.size : Int) - (D.sizes.length : Int) - (D.jobs.length : Int) ≤ 1048576 := by omega
  have k4 : m - (D.rows.size : Int) - (D.sizes.length : Int) - (D.jobs.length : Int) < (D.ways.length : Int) := by omega
  clear hs
  go_enter Try.func50, Try.ntmps50
  go_wp2_with fail
  go_at_call 91; refine (szRows_yes _ D.rows _ _ (G0.out _ (HB0.out _)) q1 hb).mono ?_; rintro e w1 ⟨rfl, b1⟩
  have H1 := Lib.hid ((HB0.out _).trans (b1.mono (HB0.out _).size))
  have X1 := Lib.hid (X0.out.keep b1 X0.out.lt)
  clear b1
  obtain ⟨c0, c1, c2, c3, c4, c5, c6⟩ := X1.out
  go_wp2_with fail
  go_at_call 56; refine (szI_yes _ D.sizes.length _ _ L4.out q2 u1).mono ?_; rintro e w2 ⟨rfl, rfl⟩
  go_wp2_with fail
  go_at_call 92; refine (szA_yes _ D.jobs _ _ (G5.out _ H1.out) q3 u2).mono ?_; rintro e w3 ⟨rfl, b3⟩
  have H3 := Lib.hid (H1.out.trans (b3.mono H1.out.size))
  have X3 := Lib.hid (X1.out.keep b3 X1.out.lt)
  clear b3 c0 c1 c2 c3 c4 c5 c6
  obtain ⟨c0, c1, c2, c3, c4, c5, c6⟩ := X3.out
  go_wp2_with fail
  go_at_call 56; refine (szI_no _ D.ways.length _ _ L6.out k4 e3 u3 l6).mono ?_; rintro e w4 ⟨rfl, rfl⟩
  go_wp2_with fail
  go_ret
  exact ⟨rfl, H3.out⟩

/-- A desk as it comes in. -/
def FitDk (D : Dk) : Prop := FitR D.rows ∧ FitI D.sizes ∧ FitA D.jobs ∧ FitI D.ways
structure OKDk (D : Dk) : Prop where
  size : D.sz ≤ 1048576
  fit : FitDk D
theorem array7 {α : Type} {cs : Array α} (h : cs.size = 7) : ∃ c0 c1 c2 c3 c4 c5 c6, cs = #[c0, c1, c2, c3, c4, c5, c6] := by
  obtain ⟨l⟩ := cs
  match l, h with
  | [a, b, c, d, e, f, g], _ => exact ⟨a, b, c, d, e, f, g, rfl⟩
set_option maxRecDepth 100000 in
theorem open_desk {H : Type} {enc : TypeId × Value → H} {w : World} {v : Value} {d : DataW H} {ps : List MemPlace} {b0 : Nat}
    (hval : Value.okWide Try.prog w .any b0 64 v) (hd : DataW.Trod enc Try.prog w 0 (fun _ => true) true 64 v d ps) : ∃ D : Dk, DkV w v D ∧ FitDk D := by
  obtain ⟨cs, rfl, hsz⟩ := okWide_struct Try.underlying64 hval
  obtain ⟨c0, c1, c2, c3, c4, c5, c6, rfl⟩ := array7 (hsz.trans (show Try.prog.cellsOf 64 = 7 by kernel_rfl))
  obtain ⟨fuel, hf⟩ := hd
  obtain ⟨y0, y1, y2, y3, n, -, -, h0, h1, h2, h3⟩ := trod_struct4 Try.underlying64 hf
  have k0 : Try.prog.cellsOf 61 = 4 := by kernel_rfl
  have k1 : Try.prog.cellsOf 24 = 1 := by kernel_rfl
  have k2 : Try.prog.cellsOf 62 = 1 := by kernel_rfl
  simp only [k0, k1, k2, Value.cells] at h0 h1 h2 h3
  have h0' : DataW.trod enc Try.prog w 0 (fun _ => true) true n 61 [c0, c1, c2, c3] = some y0 := h0
  have h1' : DataW.trod enc Try.prog w 0 (fun _ => true) true n 24 [c4] = some y1 := h1
  have h2' : DataW.trod enc Try.prog w 0 (fun _ => true) true n 62 [c5] = some y2 := h2
  have h3' : DataW.trod enc Try.prog w 0 (fun _ => true) true n 24 [c6] = some y3 := h3
  obtain ⟨z0, z1, z2, z3, n2, -, -, t0, t1, t2, t3⟩ := trod_struct4 Try.underlying61 h0'
  have k3 : Try.prog.cellsOf 2 = 1 := by kernel_rfl
  have k4 : Try.prog.cellsOf 51 = 1 := by kernel_rfl
  simp only [k3, k4] at t0 t1 t2 t3
  have t0' : DataW.trod enc Try.prog w 0 (fun _ => true) true n2 2 [c0] = some z0 := t0
  have t1' : DataW.trod enc Try.prog w 0 (fun _ => true) true n2 51 [c1] = some z1 := t1
  have t2' : DataW.trod enc Try.prog w 0 (fun _ => true) true n2 51 [c2] = some z2 := t2
  have t3' : DataW.trod enc Try.prog w 0 (fun _ => true) true n2 51 [c3] = some z3 := t3
  obtain ⟨a, e0, -, -⟩ := DataW.trod_int Try.underlying2 t0'
  simp only [List.cons.injEq, and_true] at e0
  subst e0
  have hc : Try.prog.cellsOf 105 = 1 := by kernel_rfl
  obtain ⟨N, hN, lN, fN⟩ := open_vl (d := (0 : Nat)) Try.underlying51 hc _ (one_f32 Try.underlying105) t1'
  obtain ⟨B, hB, lB, fB⟩ := open_vl (d := (0 : Nat)) Try.underlying51 hc _ (one_f32 Try.underlying105) t2'
  obtain ⟨G, hG, lG, fG⟩ := open_vl (d := (0 : Nat)) Try.underlying51 hc _ (one_f32 Try.underlying105) t3'
  obtain ⟨S, hS, lS, fS⟩ := open_vl (d := (0 : Int)) Try.underlying24 k3 _ (one_i64 Try.underlying2) h1'
  obtain ⟨J, hJ, lJ, fJ⟩ := open_av h2'
  obtain ⟨Y, hY, lY, fY⟩ := open_vl (d := (0 : Int)) Try.underlying24 k3 _ (one_i64 Try.underlying2) h3'
  exact ⟨⟨⟨a, N, B, G⟩, S, J, Y⟩, ⟨_, _, _, _, _, _, rfl, hN, hB, hG, hS, hJ, hY⟩, ⟨lN, lB, lG, fN, fB, fG⟩, ⟨lS, fS⟩, ⟨lJ, fJ⟩, ⟨lY, fY⟩⟩
theorem DkD.wide {lo lo' hi : Nat} {w : World} {v : Value} {D : Dk} (h : DkD lo hi w v D) (h1 : lo' ≤ lo) : DkD lo' hi w v D := by
  obtain ⟨s1, s2, s3, z, j, y, a, b, c, d, e, l, ev, g1, g2, g3, g4, g5, g6⟩ := h
  obtain ⟨l1, l2, l3, l4, l5, l6⟩ := l
  have hh : a ≤ w.heap.size := g1.1
  exact ⟨s1, s2, s3, z, j, y, a, b, c, d, e, ⟨by omega, l2, l3, l4, l5, l6⟩, ev, SI.wide g1 h1 (Nat.le_refl _) hh, g2, g3, g4, g5, g6⟩
theorem DkD.split {lo hi : Nat} {w : World} {v : Value} {D : Dk} (h : DkD lo hi w v D) : ∃ x1 k1 x2 k2 x3 k3 x4 k4 x5 k5 x6 k6, v = .agg #[.int .i64 D.rows.vars, .slice x1 D.rows.N.length k1, .slice x2 D.rows.B.length k2, .slice x3 D.rows.G.length k3, .slice x4 D.sizes.length k4, .slice x5 D.jobs.length k5, .slice x6 D.ways.length k6] := by
  obtain ⟨s1, s2, s3, z, j, y, a, b, c, d, e, -, rfl, h1, h2, h3, h4, h5, h6⟩ := h
  obtain ⟨x1, k1, rfl⟩ := SI.len h1
  obtain ⟨x2, k2, rfl⟩ := SI.len h2
  obtain ⟨x3, k3, rfl⟩ := SI.len h3
  obtain ⟨x4, k4, rfl⟩ := SI.len h4
  obtain ⟨x5, k5, rfl⟩ := AI.len' h5
  obtain ⟨x6, k6, rfl⟩ := SI.len h6
  exact ⟨x1, k1, x2, k2, x3, k3, x4, k4, x5, k5, x6, k6, rfl⟩
end Go.Proofs.Ytiobbclciboggaa
