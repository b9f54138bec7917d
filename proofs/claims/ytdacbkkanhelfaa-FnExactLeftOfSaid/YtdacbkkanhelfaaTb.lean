/- Tables: how they read; their copies; that copies are equal; how one comes in. -/
import Derived.Test.YtdacbkkanhelfaaF2
import Derived.Test.YtdacbkkanhelfaaI64
import Derived.Test.YtdacbkkanhelfaaBox
import Derived.Lib.SmallJoins
namespace Go.Proofs.Ytdacbkkanhelfaa
open Go.RowKit Go.ChangeShapes Go.WideShapes Go.Joins

structure Tb where
  vars : Int
  N : List Nat
  S : List Int
/-- How many numbers a table holds. -/
def Tb.size (T : Tb) : Nat := T.N.length + T.S.length
def TV (w : World) (v : Value) (T : Tb) : Prop := ∃ s1 s2, v = .agg #[.int .i64 T.vars, s1, s2] ∧ SL w s1 T.N ∧ IL w s2 T.S
def TD (lo hi : Nat) (w : World) (v : Value) (T : Tb) : Prop := ∃ s1 s2 a, lo ≤ a ∧ a ≤ hi ∧ v = .agg #[.int .i64 T.vars, s1, s2] ∧ FI lo a w s1 T.N ∧ II a hi w s2 T.S
theorem TV.below {w w' : World} {v : Value} {T : Tb} (h : TV w v T) {B : Nat} (hb : Below B w w') (hB : w.heap.size ≤ B) : TV w' v T := by
  obtain ⟨s1, s2, e, h1, h2⟩ := h
  exact ⟨s1, s2, e, h1.below hb hB, h2.below hb hB⟩
theorem TD.below {lo hi : Nat} {w w' : World} {v : Value} {T : Tb} (h : TD lo hi w v T) {B : Nat} (hb : Below B w w') (hB : w.heap.size ≤ B) : TD lo hi w' v T := by
  obtain ⟨s1, s2, a, l1, l2, e, h1, h2⟩ := h
  exact ⟨s1, s2, a, l1, l2, e, SI.below h1 hb hB, SI.below h2 hb hB⟩
theorem TD.kept {lo hi lo2 hi2 : Nat} {w w' : World} {v : Value} {T : Tb} (h : TD lo hi w v T) (ht : Turned lo2 hi2 w w') (hs : hi ≤ lo2 ∨ hi2 ≤ lo) : TD lo hi w' v T := by
  obtain ⟨s1, s2, a, l1, l2, e, h1, h2⟩ := h
  exact ⟨s1, s2, a, l1, l2, e, SI.kept h1 ht (by omega), SI.kept h2 ht (by omega)⟩
theorem TD.tv {lo hi : Nat} {w : World} {v : Value} {T : Tb} (h : TD lo hi w v T) : TV w v T := by
  obtain ⟨s1, s2, a, l1, l2, e, h1, h2⟩ := h
  exact ⟨s1, s2, e, FI.sl h1, II.il h2⟩
theorem TD.wide {lo lo' hi : Nat} {w : World} {v : Value} {T : Tb} (h : TD lo hi w v T) (h1 : lo' ≤ lo) : TD lo' hi w v T := by
  obtain ⟨s1, s2, a, l1, l2, e, g1, g2⟩ := h
  have hh : hi ≤ w.heap.size := g2.1
  exact ⟨s1, s2, a, by omega, l2, e, SI.wide g1 h1 (Nat.le_refl _) (by omega), g2⟩
theorem TD.split {lo hi : Nat} {w : World} {v : Value} {T : Tb} (h : TD lo hi w v T) : ∃ x1 k1 x2 k2, v = .agg #[.int .i64 T.vars, .slice x1 T.N.length k1, .slice x2 T.S.length k2] := by
  obtain ⟨s1, s2, a, _, _, e, h1, h2⟩ := h
  obtain ⟨x1, k1, rfl⟩ := SI.len h1
  obtain ⟨x2, k2, rfl⟩ := SI.len h2
  exact ⟨x1, k1, x2, k2, e⟩
theorem SL.lg {w : World} {v : Value} {Z : List Nat} (h : SL w v Z) : ∃ ao cap, v = .slice ao Z.length cap := VL.len (mk := Value.float .f32) (d := (0 : Nat)) h

def MadeT (T : Tb) (w : World) (e : Ending) (w' : World) : Prop := ∃ v, e = .returned v ∧ TD w.heap.size w'.heap.size w' v T ∧ Below w.heap.size w w'

set_option maxHeartbeats 1000000 in
theorem toTable_any (v : Value) (T : Tb) (w : World) (hv : TV w v T) (hn : T.size ≤ 1048576) :
    Calls Try.prog 36 #[v] w (MadeT T w) := by
  obtain ⟨s1, s2, rfl, g1, g2⟩ := hv
  have hn1 : T.N.length ≤ 1048576 := by unfold Tb.size at hn; omega
  have hn2 : T.S.length ≤ 1048576 := by unfold Tb.size at hn; omega
  have G1 := Lib.hid g1
  have G2 := Lib.hid g2
  clear g1 g2 hn
  have hb0 : ∀ A B C, Below w.heap.size w (((w.alloc A).alloc B).alloc C) := fun A B C => ((below_alloc w A).alloc (by simp) B).alloc (by simp; omega) C
  have HB0 := Lib.hid hb0
  clear hb0
  go_enter Try.func36, Try.ntmps36
  go_wp2_with fail
  go_at_call 23; refine (toF32_si _ T.N _ (G1.out.below (HB0.out _ _ _) (Nat.le_refl _)) hn1).mono ?_; rintro e w1 ⟨v1, rfl, i1, b1⟩
  obtain ⟨x1, y1, rfl⟩ := SI.len i1
  obtain ⟨hc1, hf1⟩ := bcell b1
  have hz1 : w.heap.size + 1 + 1 < w1.heap.size := by have := b1.size; simp at this; omega
  have hy1 : w.heap.size < w1.heap.size := by omega
  have hx1 : w.heap.size + 1 < w1.heap.size := by omega
  have I1 := Lib.hid (fun u => SI.set (p := ⟨w.heap.size + 1 + 1, 1, none⟩) (SI.wide (lo' := w.heap.size + 1 + 1 + 1) i1 (by simp) (Nat.le_refl _) (Nat.le_refl _)) (Or.inl (Nat.lt_succ_self _)) u)
  have B1 := Lib.hid (fun u => ((HB0.out _ _ _).trans (b1.mono (by simp; omega))).setCell (p := ⟨w.heap.size + 1 + 1, 1, none⟩) (by show _ ≤ w.heap.size + 1 + 1; omega) u)
  clear i1 b1
  go_wp2_with fail
  go_at_call 71; refine (toI64_si _ T.S _ (G2.out.below (B1.out _) (Nat.le_refl _)) hn2).mono ?_; rintro e w2 ⟨v2, rfl, i2, b2⟩
  obtain ⟨x2, y2, rfl⟩ := SI.len i2
  obtain ⟨hc2, hf2⟩ := bcell b2
  have hz2 : w.heap.size + 1 + 1 < w2.heap.size := by have := b2.size; simp at this; omega
  have hx2 : w.heap.size + 1 < w2.heap.size := by omega
  have HS2 := Lib.hid (show w1.heap.size ≤ w2.heap.size by have := b2.size; simpa using this)
  have I1' := Lib.hid (SI.below (I1.out _) b2 (Nat.le_refl _))
  have I2 := Lib.hid (SI.wide (lo' := w1.heap.size) i2 (by simp) (Nat.le_refl _) (Nat.le_refl _))
  have B2 := Lib.hid ((B1.out _).trans (b2.mono (by simp; omega)))
  clear i2 b2 I1 B1
  go_wp2_with fail
  refine bodyPost_ret (v := .agg #[.int .i64 T.vars, .slice x1 T.N.length y1, .slice x2 T.S.length y2]) (by simp [results, Try.results36, hc1, hc2, hx1, go_sem]) rfl ?_
  generalize hX : World.setCell _ _ _ = X
  have hT : Turned (w.heap.size + 1) (w.heap.size + 1 + 1 + 1) w2 X := by
    rw [← hX]
    repeat (refine Turned.setCell ?_ (by simp) (by simp) _)
    exact Turned.refl _ _ _
  clear hX
  have hTB := hT.below (by omega)
  refine ⟨_, rfl, ⟨_, _, w1.heap.size, by omega, Nat.le_trans HS2.out hT.size, rfl, ?_, ?_⟩, B2.out.trans (hTB.mono (by omega))⟩
  · exact SI.wide (SI.kept I1'.out hT (Or.inr (Nat.le_refl _))) (by omega) (Nat.le_refl _) (Nat.le_trans HS2.out hT.size)
  · exact SI.wide (SI.kept I2.out hT (Or.inr (by omega))) (Nat.le_refl _) hT.size (Nat.le_refl _)

theorem szTable_yes (v : Value) (T : Tb) (m : Int) (w : World) (hv : TV w v T) (hm : (T.size : Int) ≤ m) (hb : m ≤ 1048576) :
    Calls Try.prog 34 #[v, .int .i64 m] w fun e w' => e = .returned (.int .i64 (m - T.size)) ∧ Below w.heap.size w w' := by
  obtain ⟨s1, s2, rfl, g1, g2⟩ := hv
  have G1 := Lib.hid g1.lg
  have G2 := Lib.hid g2.long
  clear g1 g2
  have hS : (T.size : Int) = T.N.length + T.S.length := by unfold Tb.size; omega
  rw [hS] at hm ⊢
  clear hS
  go_enter Try.func34, Try.ntmps34
  go_wp2_with fail
  go_at_call 53; refine (szF32_yes _ T.N.length _ _ G1.out (by omega) (by omega)).mono ?_; rintro e w1 ⟨rfl, rfl⟩
  go_wp2_with fail
  go_at_call 69; refine (szI64_yes _ T.S.length _ _ G2.out (by omega) (by omega)).mono ?_; rintro e w1 ⟨rfl, rfl⟩
  go_wp2_with fail
  go_ret
  exact ⟨ret_int (by omega), below_alloc _ _⟩
theorem szTable_no (v : Value) (T : Tb) (m : Int) (w : World) (hv : TV w v T) (hm : m < (T.size : Int)) (h0 : 0 ≤ m) (hb : m ≤ 1048576) (l1 : T.N.length ≤ maxLen) (l2 : T.S.length ≤ maxLen) :
    Calls Try.prog 34 #[v, .int .i64 m] w fun e w' => e = .returned (.int .i64 (-1)) ∧ Below w.heap.size w w' := by
  obtain ⟨s1, s2, rfl, g1, g2⟩ := hv
  have G1 := Lib.hid g1.lg
  have G2 := Lib.hid g2.long
  clear g1 g2
  have hS : (T.size : Int) = T.N.length + T.S.length := by unfold Tb.size; omega
  rw [hS] at hm
  clear hS
  by_cases c1 : m < T.N.length
  · go_enter Try.func34, Try.ntmps34
    go_wp2_with fail
    go_at_call 53; refine (szF32_no _ T.N.length _ _ G1.out (by omega) (by omega) (by omega) l1).mono ?_; rintro e w1 ⟨rfl, rfl⟩
    go_wp2_with fail
    go_ret
    exact ⟨rfl, below_alloc _ _⟩
  · go_enter Try.func34, Try.ntmps34
    go_wp2_with fail
    go_at_call 53; refine (szF32_yes _ T.N.length _ _ G1.out (by omega) (by omega)).mono ?_; rintro e w1 ⟨rfl, rfl⟩
    go_wp2_with fail
    go_at_call 69; refine (szI64_no _ T.S.length _ _ G2.out (by omega) (by omega) (by omega) l2).mono ?_; rintro e w1 ⟨rfl, rfl⟩
    go_wp2_with fail
    go_ret
    exact ⟨rfl, below_alloc _ _⟩

theorem eqTable_any (v u : Value) (T : Tb) (w : World) (hn : T.size ≤ 1048576) (hv : TV w v T) (hu : TV w u T) :
    Calls Try.prog 38 #[v, u] w fun e w' => e = .returned (.bool true) ∧ Below w.heap.size w w' := by
  have HB0 := Lib.hid (fun A B => (below_alloc w A).alloc (by simp) B)
  obtain ⟨s1, s2, rfl, g1, g2⟩ := hv
  obtain ⟨t1, t2, rfl, k1, k2⟩ := hu
  have hn1 : T.N.length ≤ 1048576 := by unfold Tb.size at hn; omega
  have hn2 : T.S.length ≤ 1048576 := by unfold Tb.size at hn; omega
  have G1 := Lib.hid g1
  have G2 := Lib.hid g2
  have K1 := Lib.hid k1
  have K2 := Lib.hid k2
  clear g1 g2 k1 k2 hn
  go_enter Try.func38, Try.ntmps38
  go_wp2_with fail
  go_at_call 26; refine (eqF32_any _ _ T.N _ hn1 (G1.out.below (HB0.out _ _) (Nat.le_refl _)) (K1.out.below (HB0.out _ _) (Nat.le_refl _))).mono ?_; rintro e w1 ⟨rfl, n1, rfl⟩
  go_wp2_with fail
  go_at_call 75; refine (eqI64_any _ _ T.S _ hn2 (G2.out.below (below_drewN (HB0.out _ _) _) (Nat.le_refl _)) (K2.out.below (below_drewN (HB0.out _ _) _) (Nat.le_refl _))).mono ?_; rintro e w1 ⟨rfl, n2, rfl⟩
  go_wp2_with fail
  go_ret
  exact ⟨rfl, below_drewN (HB0.out _ _) _⟩

/-- A table as it comes in. -/
def FitT (T : Tb) : Prop := T.N.length ≤ maxLen ∧ T.S.length ≤ maxLen ∧ (∀ x ∈ T.N, x < 4294967296) ∧ (∀ x ∈ T.S, -9223372036854775808 ≤ x ∧ x ≤ 9223372036854775807)
structure OKT (T : Tb) : Prop where
  size : T.size ≤ 1048576
  fit : FitT T
def FitI (Z : List Int) : Prop := Z.length ≤ maxLen ∧ ∀ x ∈ Z, -9223372036854775808 ≤ x ∧ x ≤ 9223372036854775807
structure OKI (Z : List Int) : Prop where
  size : Z.length ≤ 1048576
  fit : FitI Z
set_option maxRecDepth 100000 in
theorem open_table {H : Type} {enc : TypeId × Value → H} {w : World} {v : Value} {d : DataW H} {ps : List MemPlace} {b0 : Nat}
    (hval : Value.okWide Try.prog w .any b0 48 v) (hd : DataW.Trod enc Try.prog w 0 (fun _ => true) true 48 v d ps) : ∃ T : Tb, TV w v T ∧ FitT T := by
  obtain ⟨v0, v1, v2, y0, y1, y2, n, rfl, -, -, t0, t1, t2⟩ := open_agg3 Try.underlying48 (by kernel_rfl) (by kernel_rfl) hval hd
  obtain ⟨a, e0, -, -⟩ := DataW.trod_int Try.underlying2 t0
  simp only [List.cons.injEq, and_true] at e0
  subst e0
  have hc : Try.prog.cellsOf 32 = 1 := by kernel_rfl
  have hc2 : Try.prog.cellsOf 2 = 1 := by kernel_rfl
  obtain ⟨N, hN, lN, fN⟩ := open_vl (d := (0 : Nat)) Try.underlying22 hc _ (one_f32 Try.underlying32) t1
  obtain ⟨S, hS, lS, fS⟩ := open_vl (d := (0 : Int)) Try.underlying46 hc2 _ (one_i64 Try.underlying2) t2
  exact ⟨⟨a, N, S⟩, ⟨_, _, rfl, hN, hS⟩, lN, lS, fN, fS⟩
end Go.Proofs.Ytdacbkkanhelfaa
