/- Rows: how they read; their copies; that copies are equal; their marks. -/
import Derived.Test.YtajekehidofkiaaSzF
import Derived.Test.YtajekehidofkiaaF2
namespace Go.Proofs.Ytajekehidofkiaa
open Go.RowKit Go.ChangeShapes Go.WideShapes

structure Rw where
  vars : Int
  N : List Nat
  B : List Nat
  G : List Nat
/-- How many numbers rows hold. -/
def Rw.size (R : Rw) : Nat := R.N.length + R.B.length + R.G.length
/-- A value that reads as rows. -/
def RV (w : World) (v : Value) (R : Rw) : Prop := ∃ s1 s2 s3, v = .agg #[.int .i64 R.vars, s1, s2, s3] ∧ SL w s1 R.N ∧ SL w s2 R.B ∧ SL w s3 R.G
/-- .. and lies in blocks from lo on, below hi. -/
def RI (lo hi : Nat) (w : World) (v : Value) (R : Rw) : Prop := ∃ s1 s2 s3, v = .agg #[.int .i64 R.vars, s1, s2, s3] ∧ FI lo hi w s1 R.N ∧ FI lo hi w s2 R.B ∧ FI lo hi w s3 R.G
/-- .. its lists in different ones. -/
def RD (lo hi : Nat) (w : World) (v : Value) (R : Rw) : Prop := ∃ s1 s2 s3 a b, lo ≤ a ∧ a ≤ b ∧ b ≤ hi ∧ v = .agg #[.int .i64 R.vars, s1, s2, s3] ∧ FI lo a w s1 R.N ∧ FI a b w s2 R.B ∧ FI b hi w s3 R.G

theorem SL.vl {w : World} {v : Value} {Z : List Nat} (h : SL w v Z) : VL (Value.float .f32) (0 : Nat) w v Z := h
theorem SL.keep {w w' : World} {v : Value} {Z : List Nat} (h : SL w v Z) {B : Nat} (hb : Below B w w') (hB : w.heap.size ≤ B) : SL w' v Z := SL.below h hb hB
theorem RV.below {w w' : World} {v : Value} {R : Rw} (h : RV w v R) {B : Nat} (hb : Below B w w') (hB : w.heap.size ≤ B) : RV w' v R := by
  obtain ⟨s1, s2, s3, e, h1, h2, h3⟩ := h
  exact ⟨s1, s2, s3, e, h1.below hb hB, h2.below hb hB, h3.below hb hB⟩
theorem RI.below {lo hi : Nat} {w w' : World} {v : Value} {R : Rw} (h : RI lo hi w v R) {B : Nat} (hb : Below B w w') (hB : w.heap.size ≤ B) : RI lo hi w' v R := by
  obtain ⟨s1, s2, s3, e, h1, h2, h3⟩ := h
  exact ⟨s1, s2, s3, e, SI.below h1 hb hB, SI.below h2 hb hB, SI.below h3 hb hB⟩
theorem RD.below {lo hi : Nat} {w w' : World} {v : Value} {R : Rw} (h : RD lo hi w v R) {B : Nat} (hb : Below B w w') (hB : w.heap.size ≤ B) : RD lo hi w' v R := by
  obtain ⟨s1, s2, s3, a, b, l1, l2, l3, e, h1, h2, h3⟩ := h
  exact ⟨s1, s2, s3, a, b, l1, l2, l3, e, SI.below h1 hb hB, SI.below h2 hb hB, SI.below h3 hb hB⟩
theorem RI.kept {lo hi lo2 hi2 : Nat} {w w' : World} {v : Value} {R : Rw} (h : RI lo hi w v R) (ht : Turned lo2 hi2 w w') (hs : hi ≤ lo2 ∨ hi2 ≤ lo) : RI lo hi w' v R := by
  obtain ⟨s1, s2, s3, e, h1, h2, h3⟩ := h
  exact ⟨s1, s2, s3, e, SI.kept h1 ht hs, SI.kept h2 ht hs, SI.kept h3 ht hs⟩
theorem RD.kept {lo hi lo2 hi2 : Nat} {w w' : World} {v : Value} {R : Rw} (h : RD lo hi w v R) (ht : Turned lo2 hi2 w w') (hs : hi ≤ lo2 ∨ hi2 ≤ lo) : RD lo hi w' v R := by
  obtain ⟨s1, s2, s3, a, b, l1, l2, l3, e, h1, h2, h3⟩ := h
  exact ⟨s1, s2, s3, a, b, l1, l2, l3, e, SI.kept h1 ht (by omega), SI.kept h2 ht (by omega), SI.kept h3 ht (by omega)⟩
theorem RD.ri {lo hi : Nat} {w : World} {v : Value} {R : Rw} (h : RD lo hi w v R) : RI lo hi w v R := by
  obtain ⟨s1, s2, s3, a, b, l1, l2, l3, e, h1, h2, h3⟩ := h
  have hh : hi ≤ w.heap.size := h3.1
  exact ⟨s1, s2, s3, e, SI.wide h1 (Nat.le_refl _) (by omega) hh, SI.wide h2 (by omega) (by omega) hh, SI.wide h3 (by omega) (Nat.le_refl _) hh⟩
theorem RI.rv {lo hi : Nat} {w : World} {v : Value} {R : Rw} (h : RI lo hi w v R) : RV w v R := by
  obtain ⟨s1, s2, s3, e, h1, h2, h3⟩ := h
  exact ⟨s1, s2, s3, e, FI.sl h1, FI.sl h2, FI.sl h3⟩
theorem RD.rv {lo hi : Nat} {w : World} {v : Value} {R : Rw} (h : RD lo hi w v R) : RV w v R := h.ri.rv
theorem RI.hi {lo hi : Nat} {w : World} {v : Value} {R : Rw} (h : RI lo hi w v R) : hi ≤ w.heap.size := by
  obtain ⟨s1, s2, s3, e, h1, h2, h3⟩ := h
  exact h1.1
theorem SL.long {w : World} {v : Value} {Z : List Nat} (h : SL w v Z) : ∃ ao cap, v = .slice ao Z.length cap := VL.len (mk := Value.float .f32) (d := (0 : Nat)) h

def MadeR (R : Rw) (w : World) (e : Ending) (w' : World) : Prop := ∃ v, e = .returned v ∧ RD w.heap.size w'.heap.size w' v R ∧ Below w.heap.size w w'

set_option maxHeartbeats 1000000 in
theorem toRows_any (v : Value) (R : Rw) (w : World) (hv : RV w v R) (hn : R.size ≤ 1048576) :
    Calls Try.prog 28 #[v] w (MadeR R w) := by
  obtain ⟨s1, s2, s3, rfl, g1, g2, g3⟩ := hv
  have hn1 : R.N.length ≤ 1048576 := by unfold Rw.size at hn; omega
  have hn2 : R.B.length ≤ 1048576 := by unfold Rw.size at hn; omega
  have hn3 : R.G.length ≤ 1048576 := by unfold Rw.size at hn; omega
  have G1 := Lib.hid g1
  have G2 := Lib.hid g2
  have G3 := Lib.hid g3
  clear g1 g2 g3 hn
  have hb0 : ∀ A B C, Below w.heap.size w (((w.alloc A).alloc B).alloc C) := fun A B C => ((below_alloc w A).alloc (by simp) B).alloc (by simp; omega) C
  have HB0 := Lib.hid hb0
  clear hb0
  go_enter Try.func28, Try.ntmps28
  go_wp2_with fail
  go_at_call 29; refine (toF32_si _ R.N _ (G1.out.below (HB0.out _ _ _) (Nat.le_refl _)) hn1).mono ?_; rintro e w1 ⟨v1, rfl, i1, b1⟩
  obtain ⟨x1, y1, rfl⟩ := SI.len i1
  obtain ⟨hc1, hf1⟩ := bcell b1
  have hz1 : w.heap.size + 1 + 1 < w1.heap.size := by have := b1.size; simp at this; omega
  have hy1 : w.heap.size < w1.heap.size := by omega
  have hx1 : w.heap.size + 1 < w1.heap.size := by omega
  have I1 := Lib.hid (fun u => SI.set (p := ⟨w.heap.size + 1 + 1, 1, none⟩) (SI.wide (lo' := w.heap.size + 1 + 1 + 1) i1 (by simp) (Nat.le_refl _) (Nat.le_refl _)) (Or.inl (Nat.lt_succ_self _)) u)
  have B1 := Lib.hid (fun u => ((HB0.out _ _ _).trans (b1.mono (by simp; omega))).setCell (p := ⟨w.heap.size + 1 + 1, 1, none⟩) (by show _ ≤ w.heap.size + 1 + 1; omega) u)
  clear i1 b1
  go_wp2_with fail
  go_at_call 29; refine (toF32_si _ R.B _ (G2.out.below (B1.out _) (Nat.le_refl _)) hn2).mono ?_; rintro e w2 ⟨v2, rfl, i2, b2⟩
  obtain ⟨x2, y2, rfl⟩ := SI.len i2
  obtain ⟨hc2, hf2⟩ := bcell b2
  have hz2 : w.heap.size + 1 + 1 < w2.heap.size := by have := b2.size; simp at this; omega
  have hy2 : w.heap.size < w2.heap.size := by omega
  have hx2 : w.heap.size + 1 < w2.heap.size := by omega
  have HS2 := Lib.hid (show w1.heap.size ≤ w2.heap.size by have := b2.size; simpa using this)
  have I1' := Lib.hid (fun u => SI.set (p := ⟨w.heap.size + 1 + 1, 2, none⟩) (SI.below (I1.out _) b2 (Nat.le_refl _)) (Or.inl (Nat.lt_succ_self _)) u)
  have I2 := Lib.hid (fun u => SI.set (p := ⟨w.heap.size + 1 + 1, 2, none⟩) (SI.wide (lo' := w1.heap.size) i2 (by simp) (Nat.le_refl _) (Nat.le_refl _)) (Or.inl hz1) u)
  have B2 := Lib.hid (fun u => ((B1.out _).trans (b2.mono (by simp; omega))).setCell (p := ⟨w.heap.size + 1 + 1, 2, none⟩) (by show _ ≤ w.heap.size + 1 + 1; omega) u)
  clear i2 b2 I1 B1
  go_wp2_with fail
  go_at_call 29; refine (toF32_si _ R.G _ (G3.out.below (B2.out _) (Nat.le_refl _)) hn3).mono ?_; rintro e w3 ⟨v3, rfl, i3, b3⟩
  obtain ⟨x3, y3, rfl⟩ := SI.len i3
  obtain ⟨hc3, hf3⟩ := bcell b3
  have hz3 : w.heap.size + 1 + 1 < w3.heap.size := by have := b3.size; simp at this; omega
  have hx3 : w.heap.size + 1 < w3.heap.size := by omega
  have HS3 := Lib.hid (show w2.heap.size ≤ w3.heap.size by have := b3.size; simpa using this)
  have I1 := Lib.hid (SI.below (I1'.out _) b3 (Nat.le_refl _))
  have I2' := Lib.hid (SI.below (I2.out _) b3 (Nat.le_refl _))
  have I3 := Lib.hid (SI.wide (lo' := w2.heap.size) i3 (by simp) (Nat.le_refl _) (Nat.le_refl _))
  have B3 := Lib.hid ((B2.out _).trans (b3.mono (by simp; omega)))
  clear i3 b3 I1' I2 B2
  go_wp2_with fail
  refine bodyPost_ret (v := .agg #[.int .i64 R.vars, .slice x1 R.N.length y1, .slice x2 R.B.length y2, .slice x3 R.G.length y3]) (by simp [results, Try.results28, hc1, hc2, hc3, hx1, hx2, go_sem]) rfl ?_
  generalize hX : World.setCell _ _ _ = X
  have hT : Turned (w.heap.size + 1) (w.heap.size + 1 + 1 + 1) w3 X := by
    rw [← hX]
    repeat (refine Turned.setCell ?_ (by simp) (by simp) _)
    exact Turned.refl _ _ _
  clear hX
  have hTB := hT.below (by omega)
  refine ⟨_, rfl, ⟨_, _, _, w1.heap.size, w2.heap.size, by omega, HS2.out, Nat.le_trans HS3.out hT.size, rfl, ?_, ?_, ?_⟩, B3.out.trans (hTB.mono (by omega))⟩
  · exact SI.wide (SI.kept I1.out hT (Or.inr (Nat.le_refl _))) (by omega) (Nat.le_refl _) (Nat.le_trans (Nat.le_trans HS2.out HS3.out) hT.size)
  · exact SI.kept I2'.out hT (Or.inr (by omega))
  · exact SI.wide (SI.kept I3.out hT (Or.inr (by omega))) (Nat.le_refl _) hT.size (Nat.le_refl _)

theorem szRows_yes (v : Value) (R : Rw) (m : Int) (w : World) (hv : RV w v R) (hm : (R.size : Int) ≤ m) (hb : m ≤ 1048576) :
    Calls Try.prog 26 #[v, .int .i64 m] w fun e w' => e = .returned (.int .i64 (m - R.size)) ∧ Below w.heap.size w w' := by
  obtain ⟨s1, s2, s3, rfl, g1, g2, g3⟩ := hv
  have G1 := Lib.hid g1.long
  have G2 := Lib.hid g2.long
  have G3 := Lib.hid g3.long
  clear g1 g2 g3
  have hS : (R.size : Int) = R.N.length + R.B.length + R.G.length := by unfold Rw.size; omega
  rw [hS] at hm ⊢
  clear hS
  go_enter Try.func26, Try.ntmps26
  go_wp2_with fail
  go_at_call 52; refine (szF32_yes _ R.N.length _ _ G1.out (by omega) (by omega)).mono ?_; rintro e w1 ⟨rfl, rfl⟩
  go_wp2_with fail
  go_at_call 52; refine (szF32_yes _ R.B.length _ _ G2.out (by omega) (by omega)).mono ?_; rintro e w1 ⟨rfl, rfl⟩
  go_wp2_with fail
  go_at_call 52; refine (szF32_yes _ R.G.length _ _ G3.out (by omega) (by omega)).mono ?_; rintro e w1 ⟨rfl, rfl⟩
  go_wp2_with fail
  go_ret
  exact ⟨ret_int (by omega), below_alloc _ _⟩
theorem szRows_no (v : Value) (R : Rw) (m : Int) (w : World) (hv : RV w v R) (hm : m < (R.size : Int)) (h0 : 0 ≤ m) (hb : m ≤ 1048576) (l1 : R.N.length ≤ maxLen) (l2 : R.B.length ≤ maxLen) (l3 : R.G.length ≤ maxLen) :
    Calls Try.prog 26 #[v, .int .i64 m] w fun e w' => e = .returned (.int .i64 (-1)) ∧ Below w.heap.size w w' := by
  obtain ⟨s1, s2, s3, rfl, g1, g2, g3⟩ := hv
  have G1 := Lib.hid g1.long
  have G2 := Lib.hid g2.long
  have G3 := Lib.hid g3.long
  clear g1 g2 g3
  have hS : (R.size : Int) = R.N.length + R.B.length + R.G.length := by unfold Rw.size; omega
  rw [hS] at hm
  clear hS
  by_cases c1 : m < R.N.length
  · go_enter Try.func26, Try.ntmps26
    go_wp2_with fail
    go_at_call 52; refine (szF32_no _ R.N.length _ _ G1.out (by omega) (by omega) (by omega) l1).mono ?_; rintro e w1 ⟨rfl, rfl⟩
    go_wp2_with fail
    go_ret
    exact ⟨rfl, below_alloc _ _⟩
  by_cases c2 : m - R.N.length < R.B.length
  · go_enter Try.func26, Try.ntmps26
    go_wp2_with fail
    go_at_call 52; refine (szF32_yes _ R.N.length _ _ G1.out (by omega) (by omega)).mono ?_; rintro e w1 ⟨rfl, rfl⟩
    go_wp2_with fail
    go_at_call 52; refine (szF32_no _ R.B.length _ _ G2.out (by omega) (by omega) (by omega) l2).mono ?_; rintro e w1 ⟨rfl, rfl⟩
    go_wp2_with fail
    go_ret
    exact ⟨rfl, below_alloc _ _⟩
  · go_enter Try.func26, Try.ntmps26
    go_wp2_with fail
    go_at_call 52; refine (szF32_yes _ R.N.length _ _ G1.out (by omega) (by omega)).mono ?_; rintro e w1 ⟨rfl, rfl⟩
    go_wp2_with fail
    go_at_call 52; refine (szF32_yes _ R.B.length _ _ G2.out (by omega) (by omega)).mono ?_; rintro e w1 ⟨rfl, rfl⟩
    go_wp2_with fail
    go_at_call 52; refine (szF32_no _ R.G.length _ _ G3.out (by omega) (by omega) (by omega) l3).mono ?_; rintro e w1 ⟨rfl, rfl⟩
    go_wp2_with fail
    go_ret
    exact ⟨rfl, below_alloc _ _⟩

theorem eqRows_any (v u : Value) (R : Rw) (w : World) (hn : R.size ≤ 1048576) (hv : RV w v R) (hu : RV w u R) :
    Calls Try.prog 31 #[v, u] w fun e w' => e = .returned (.bool true) ∧ Below w.heap.size w w' := by
  have HB0 := Lib.hid (fun A B => (below_alloc w A).alloc (by simp) B)
  obtain ⟨s1, s2, s3, rfl, g1, g2, g3⟩ := hv
  obtain ⟨t1, t2, t3, rfl, k1, k2, k3⟩ := hu
  have hn1 : R.N.length ≤ 1048576 := by unfold Rw.size at hn; omega
  have hn2 : R.B.length ≤ 1048576 := by unfold Rw.size at hn; omega
  have hn3 : R.G.length ≤ 1048576 := by unfold Rw.size at hn; omega
  have G1 := Lib.hid g1
  have G2 := Lib.hid g2
  have G3 := Lib.hid g3
  have K1 := Lib.hid k1
  have K2 := Lib.hid k2
  have K3 := Lib.hid k3
  clear g1 g2 g3 k1 k2 k3 hn
  go_enter Try.func31, Try.ntmps31
  go_wp2_with fail
  go_at_call 32; refine (eqF32_any _ _ R.N _ hn1 (G1.out.below (HB0.out _ _) (Nat.le_refl _)) (K1.out.below (HB0.out _ _) (Nat.le_refl _))).mono ?_; rintro e w1 ⟨rfl, n1, rfl⟩
  go_wp2_with fail
  go_at_call 32; refine (eqF32_any _ _ R.B _ hn2 (G2.out.below (below_drewN (HB0.out _ _) _) (Nat.le_refl _)) (K2.out.below (below_drewN (HB0.out _ _) _) (Nat.le_refl _))).mono ?_; rintro e w1 ⟨rfl, n2, rfl⟩
  go_wp2_with fail
  go_at_call 32; refine (eqF32_any _ _ R.G _ hn3 (G3.out.below (below_drewN (HB0.out _ _) _) (Nat.le_refl _)) (K3.out.below (below_drewN (HB0.out _ _) _) (Nat.le_refl _))).mono ?_; rintro e w1 ⟨rfl, n3, rfl⟩
  go_wp2_with fail
  go_ret
  exact ⟨rfl, below_drewN (HB0.out _ _) _⟩
end Go.Proofs.Ytajekehidofkiaa
