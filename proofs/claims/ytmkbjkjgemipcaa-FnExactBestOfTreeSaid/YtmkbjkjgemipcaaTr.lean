/- Trees: how they read; their copies; that copies are equal; how one comes in. -/
import Derived.Test.YtmkbjkjgemipcaaIl
import Derived.Lib.SmallJoins
namespace Go.Proofs.Ytmkbjkjgemipcaa
open Go.RowKit Go.ChangeShapes Go.WideShapes Go.Joins

theorem szI64_yes (v : Value) (n : Nat) (m : Int) (w : World) (h : ∃ ao cap, v = .slice ao n cap) (hm : (n : Int) ≤ m) (hb : m ≤ 1048576) :
    Calls Try.prog 60 #[v, .int .i64 m] w fun e w' => e = .returned (.int .i64 (m - n)) ∧ w = w' := by
  obtain ⟨ao, cap, rfl⟩ := h
  go_enter Try.func60, Try.ntmps60
  go_wp2
  go_ret
  exact ⟨rfl, rfl⟩
theorem szI64_no (v : Value) (n : Nat) (m : Int) (w : World) (h : ∃ ao cap, v = .slice ao n cap) (hm : m < n) (h0 : 0 ≤ m) (hb : m ≤ 1048576) (hn : n ≤ maxLen) :
    Calls Try.prog 60 #[v, .int .i64 m] w fun e w' => e = .returned (.int .i64 (-1)) ∧ w = w' := by
  obtain ⟨ao, cap, rfl⟩ := h
  unfold maxLen at hn
  go_enter Try.func60, Try.ntmps60
  go_wp2
  go_ret
  exact ⟨rfl, rfl⟩

structure Tr where
  P : List Int
  V : List Int
/-- How many numbers a tree holds. -/
def Tr.size (T : Tr) : Nat := T.P.length + T.V.length
def TrV (w : World) (v : Value) (T : Tr) : Prop := ∃ s1 s2, v = .agg #[s1, s2] ∧ IL w s1 T.P ∧ IL w s2 T.V
def TrD (lo hi : Nat) (w : World) (v : Value) (T : Tr) : Prop := ∃ s1 s2 a, lo ≤ a ∧ a ≤ hi ∧ v = .agg #[s1, s2] ∧ II lo a w s1 T.P ∧ II a hi w s2 T.V
theorem TrV.below {w w' : World} {v : Value} {T : Tr} (h : TrV w v T) {B : Nat} (hb : Below B w w') (hB : w.heap.size ≤ B) : TrV w' v T := by
  obtain ⟨s1, s2, e, h1, h2⟩ := h
  exact ⟨s1, s2, e, h1.below hb hB, h2.below hb hB⟩
theorem TrD.below {lo hi : Nat} {w w' : World} {v : Value} {T : Tr} (h : TrD lo hi w v T) {B : Nat} (hb : Below B w w') (hB : w.heap.size ≤ B) : TrD lo hi w' v T := by
  obtain ⟨s1, s2, a, l1, l2, e, h1, h2⟩ := h
  exact ⟨s1, s2, a, l1, l2, e, SI.below h1 hb hB, SI.below h2 hb hB⟩
theorem TrD.kept {lo hi lo2 hi2 : Nat} {w w' : World} {v : Value} {T : Tr} (h : TrD lo hi w v T) (ht : Turned lo2 hi2 w w') (hs : hi ≤ lo2 ∨ hi2 ≤ lo) : TrD lo hi w' v T := by
  obtain ⟨s1, s2, a, l1, l2, e, h1, h2⟩ := h
  exact ⟨s1, s2, a, l1, l2, e, SI.kept h1 ht (by omega), SI.kept h2 ht (by omega)⟩
theorem TrD.trv {lo hi : Nat} {w : World} {v : Value} {T : Tr} (h : TrD lo hi w v T) : TrV w v T := by
  obtain ⟨s1, s2, a, l1, l2, e, h1, h2⟩ := h
  exact ⟨s1, s2, e, II.il h1, II.il h2⟩
theorem TrD.wide {lo lo' hi : Nat} {w : World} {v : Value} {T : Tr} (h : TrD lo hi w v T) (h1 : lo' ≤ lo) : TrD lo' hi w v T := by
  obtain ⟨s1, s2, a, l1, l2, e, g1, g2⟩ := h
  have hh : hi ≤ w.heap.size := g2.1
  exact ⟨s1, s2, a, by omega, l2, e, SI.wide g1 h1 (Nat.le_refl _) (by omega), g2⟩
theorem TrD.split {lo hi : Nat} {w : World} {v : Value} {T : Tr} (h : TrD lo hi w v T) : ∃ x1 k1 x2 k2, v = .agg #[.slice x1 T.P.length k1, .slice x2 T.V.length k2] := by
  obtain ⟨s1, s2, a, _, _, e, h1, h2⟩ := h
  obtain ⟨x1, k1, rfl⟩ := SI.len h1
  obtain ⟨x2, k2, rfl⟩ := SI.len h2
  exact ⟨x1, k1, x2, k2, e⟩

def MadeTr (T : Tr) (w : World) (e : Ending) (w' : World) : Prop := ∃ v, e = .returned v ∧ TrD w.heap.size w'.heap.size w' v T ∧ Below w.heap.size w w'

set_option maxHeartbeats 1000000 in
theorem toTree_any (v : Value) (T : Tr) (w : World) (hv : TrV w v T) (hn : T.size ≤ 1048576) :
    Calls Try.prog 21 #[v] w (MadeTr T w) := by
  obtain ⟨s1, s2, rfl, g1, g2⟩ := hv
  have hn1 : T.P.length ≤ 1048576 := by unfold Tr.size at hn; omega
  have hn2 : T.V.length ≤ 1048576 := by unfold Tr.size at hn; omega
  have G1 := Lib.hid g1
  have G2 := Lib.hid g2
  clear g1 g2 hn
  have hb0 : ∀ A B C, Below w.heap.size w (((w.alloc A).alloc B).alloc C) := fun A B C => ((below_alloc w A).alloc (by simp) B).alloc (by simp; omega) C
  have HB0 := Lib.hid hb0
  clear hb0
  go_enter Try.func21, Try.ntmps21
  go_wp2_with fail
  go_at_call 58; refine (toI64_si _ T.P _ (G1.out.below (HB0.out _ _ _) (Nat.le_refl _)) hn1).mono ?_; rintro e w1 ⟨v1, rfl, i1, b1⟩
  obtain ⟨x1, y1, rfl⟩ := SI.len i1
  obtain ⟨hc1, hf1⟩ := bcell b1
  have hz1 : w.heap.size + 1 + 1 < w1.heap.size := by have := b1.size; simp at this; omega
  have hy1 : w.heap.size < w1.heap.size := by omega
  have hx1 : w.heap.size + 1 < w1.heap.size := by omega
  have I1 := Lib.hid (fun u => SI.set (p := ⟨w.heap.size + 1 + 1, 0, none⟩) (SI.wide (lo' := w.heap.size + 1 + 1 + 1) i1 (by simp) (Nat.le_refl _) (Nat.le_refl _)) (Or.inl (Nat.lt_succ_self _)) u)
  have B1 := Lib.hid (fun u => ((HB0.out _ _ _).trans (b1.mono (by simp; omega))).setCell (p := ⟨w.heap.size + 1 + 1, 0, none⟩) (by show _ ≤ w.heap.size + 1 + 1; omega) u)
  clear i1 b1
  go_wp2_with fail
  go_at_call 58; refine (toI64_si _ T.V _ (G2.out.below (B1.out _) (Nat.le_refl _)) hn2).mono ?_; rintro e w2 ⟨v2, rfl, i2, b2⟩
  obtain ⟨x2, y2, rfl⟩ := SI.len i2
  obtain ⟨hc2, hf2⟩ := bcell b2
  have hz2 : w.heap.size + 1 + 1 < w2.heap.size := by have := b2.size; simp at this; omega
  have hx2 : w.heap.size + 1 < w2.heap.size := by omega
  have HS2 := Lib.hid (show w1.heap.size ≤ w2.heap.size by have := b2.size; simpa using this)
  have I1' := Lib.hid (SI.below (I1.out _) b2 (Nat.le_refl _))
  have I2 := Lib.hid (SI.wide (lo' := w1.heap.size) i2 (by simp) (Nat.le_refl _) (Nat.le_refl _))
  have B2 := Lib.hid ((B1.out _).trans (b2.mono (by simp; omega)))
  clear i2 b2 I1 B1
  go_wp2_with fail
  refine bodyPost_ret (v := .agg #[.slice x1 T.P.length y1, .slice x2 T.V.length y2]) (by simp [results, Try.results21, hc1, hc2, hx1, go_sem]) rfl ?_
  generalize hX : World.setCell _ _ _ = X
  have hT : Turned (w.heap.size + 1) (w.heap.size + 1 + 1 + 1) w2 X := by
    rw [← hX]
    repeat (refine Turned.setCell ?_ (by simp) (by simp) _)
    exact Turned.refl _ _ _
  clear hX
  have hTB := hT.below (by omega)
  refine ⟨_, rfl, ⟨_, _, w1.heap.size, by omega, Nat.le_trans HS2.out hT.size, rfl, ?_, ?_⟩, B2.out.trans (hTB.mono (by omega))⟩
  · exact SI.wide (SI.kept I1'.out hT (Or.inr (Nat.le_refl _))) (by omega) (Nat.le_refl _) (Nat.le_trans HS2.out hT.size)
  · exact SI.wide (SI.kept I2.out hT (Or.inr (by omega))) (Nat.le_refl _) hT.size (Nat.le_refl _)

theorem szTree_yes (v : Value) (T : Tr) (m : Int) (w : World) (hv : TrV w v T) (hm : (T.size : Int) ≤ m) (hb : m ≤ 1048576) :
    Calls Try.prog 19 #[v, .int .i64 m] w fun e w' => e = .returned (.int .i64 (m - T.size)) ∧ Below w.heap.size w w' := by
  obtain ⟨s1, s2, rfl, g1, g2⟩ := hv
  have G1 := Lib.hid g1.long
  have G2 := Lib.hid g2.long
  clear g1 g2
  have hS : (T.size : Int) = T.P.length + T.V.length := by unfold Tr.size; omega
  rw [hS] at hm ⊢
  clear hS
  go_enter Try.func19, Try.ntmps19
  go_wp2_with fail
  go_at_call 60; refine (szI64_yes _ T.P.length _ _ G1.out (by omega) (by omega)).mono ?_; rintro e w1 ⟨rfl, rfl⟩
  go_wp2_with fail
  go_at_call 60; refine (szI64_yes _ T.V.length _ _ G2.out (by omega) (by omega)).mono ?_; rintro e w1 ⟨rfl, rfl⟩
  go_wp2_with fail
  go_ret
  exact ⟨ret_int (by omega), below_alloc _ _⟩
theorem szTree_no (v : Value) (T : Tr) (m : Int) (w : World) (hv : TrV w v T) (hm : m < (T.size : Int)) (h0 : 0 ≤ m) (hb : m ≤ 1048576) (l1 : T.P.length ≤ maxLen) (l2 : T.V.length ≤ maxLen) :
    Calls Try.prog 19 #[v, .int .i64 m] w fun e w' => e = .returned (.int .i64 (-1)) ∧ Below w.heap.size w w' := by
  obtain ⟨s1, s2, rfl, g1, g2⟩ := hv
  have G1 := Lib.hid g1.long
  have G2 := Lib.hid g2.long
  clear g1 g2
  have hS : (T.size : Int) = T.P.length + T.V.length := by unfold Tr.size; omega
  rw [hS] at hm
  clear hS
  by_cases c1 : m < T.P.length
  · go_enter Try.func19, Try.ntmps19
    go_wp2_with fail
    go_at_call 60; refine (szI64_no _ T.P.length _ _ G1.out (by omega) (by omega) (by omega) l1).mono ?_; rintro e w1 ⟨rfl, rfl⟩
    go_wp2_with fail
    go_ret
    exact ⟨rfl, below_alloc _ _⟩
  · go_enter Try.func19, Try.ntmps19
    go_wp2_with fail
    go_at_call 60; refine (szI64_yes _ T.P.length _ _ G1.out (by omega) (by omega)).mono ?_; rintro e w1 ⟨rfl, rfl⟩
    go_wp2_with fail
    go_at_call 60; refine (szI64_no _ T.V.length _ _ G2.out (by omega) (by omega) (by omega) l2).mono ?_; rintro e w1 ⟨rfl, rfl⟩
    go_wp2_with fail
    go_ret
    exact ⟨rfl, below_alloc _ _⟩

theorem eqTree_any (v u : Value) (T : Tr) (w : World) (hn : T.size ≤ 1048576) (hv : TrV w v T) (hu : TrV w u T) :
    Calls Try.prog 23 #[v, u] w fun e w' => e = .returned (.bool true) ∧ Below w.heap.size w w' := by
  have HB0 := Lib.hid (fun A B => (below_alloc w A).alloc (by simp) B)
  obtain ⟨s1, s2, rfl, g1, g2⟩ := hv
  obtain ⟨t1, t2, rfl, k1, k2⟩ := hu
  have hn1 : T.P.length ≤ 1048576 := by unfold Tr.size at hn; omega
  have hn2 : T.V.length ≤ 1048576 := by unfold Tr.size at hn; omega
  have G1 := Lib.hid g1
  have G2 := Lib.hid g2
  have K1 := Lib.hid k1
  have K2 := Lib.hid k2
  clear g1 g2 k1 k2 hn
  go_enter Try.func23, Try.ntmps23
  go_wp2_with fail
  go_at_call 28; refine (eqI64_any _ _ T.P _ hn1 (G1.out.below (HB0.out _ _) (Nat.le_refl _)) (K1.out.below (HB0.out _ _) (Nat.le_refl _))).mono ?_; rintro e w1 ⟨rfl, n1, rfl⟩
  go_wp2_with fail
  go_at_call 28; refine (eqI64_any _ _ T.V _ hn2 (G2.out.below (below_drewN (HB0.out _ _) _) (Nat.le_refl _)) (K2.out.below (below_drewN (HB0.out _ _) _) (Nat.le_refl _))).mono ?_; rintro e w1 ⟨rfl, n2, rfl⟩
  go_wp2_with fail
  go_ret
  exact ⟨rfl, below_drewN (HB0.out _ _) _⟩

/-- A tree as it comes in. -/
def FitTr (T : Tr) : Prop := T.P.length ≤ maxLen ∧ T.V.length ≤ maxLen ∧ (∀ x ∈ T.P, -9223372036854775808 ≤ x ∧ x ≤ 9223372036854775807) ∧ (∀ x ∈ T.V, -9223372036854775808 ≤ x ∧ x ≤ 9223372036854775807)
structure OKTr (T : Tr) : Prop where
  size : T.size ≤ 1048576
  fit : FitTr T
theorem OKTr.okp {T : Tr} (o : OKTr T) : OKI T.P := ⟨by have := o.size; unfold Tr.size at this; omega, o.fit.1, o.fit.2.2.1⟩
theorem OKTr.okv {T : Tr} (o : OKTr T) : OKI T.V := ⟨by have := o.size; unfold Tr.size at this; omega, o.fit.2.1, o.fit.2.2.2⟩
set_option maxRecDepth 100000 in
theorem open_tree {H : Type} {enc : TypeId × Value → H} {w : World} {v : Value} {d : DataW H} {ps : List MemPlace} {b0 : Nat}
    (hval : Value.okWide Try.prog w .any b0 29 v) (hd : DataW.Trod enc Try.prog w 0 (fun _ => true) true 29 v d ps) : ∃ T : Tr, TrV w v T ∧ FitTr T := by
  obtain ⟨v0, v1, y0, y1, n, rfl, -, -, t0, t1⟩ := open_agg2 Try.underlying29 (by kernel_rfl) (by kernel_rfl) hval hd
  have hc2 : Try.prog.cellsOf 2 = 1 := by kernel_rfl
  obtain ⟨N, hN, lN, fN⟩ := open_vl (d := (0 : Int)) Try.underlying27 hc2 _ (one_i64 Try.underlying2) t0
  obtain ⟨S, hS, lS, fS⟩ := open_vl (d := (0 : Int)) Try.underlying27 hc2 _ (one_i64 Try.underlying2) t1
  exact ⟨⟨N, S⟩, ⟨_, _, rfl, hN, hS⟩, lN, lS, fN, fS⟩

/-- What trees hold behind marks from k on. -/
def marksTr (k : Int) (T : Tr) : Tr := ⟨marksI k T.P.length, marksI (k + (T.P.length : Nat)) T.V.length⟩
theorem marksTr_P (k : Int) (T : Tr) : (marksTr k T).P.length = T.P.length := by simp [marksTr, marksI_len]
theorem marksTr_V (k : Int) (T : Tr) : (marksTr k T).V.length = T.V.length := by simp [marksTr, marksI_len]
def MarkedTr (lo hi : Nat) (v : Value) (k : Int) (T : Tr) (w : World) (e : Ending) (w' : World) : Prop := e = .returned (.int .i64 (k + (T.size : Nat))) ∧ TrD lo hi w' v (marksTr k T) ∧ Turned lo hi w w'
theorem Turned.allocT (lo hi : Nat) (w : World) (o : Obj) : Turned lo hi w (w.alloc o) := Turned.of_below (below_alloc w o) (Nat.le_refl _)
set_option maxHeartbeats 1000000 in
theorem markTree_any (lo hi : Nat) (v : Value) (T : Tr) (k : Int) (w : World) (hv : TrD lo hi w v T) (hn : T.size ≤ 1048576) (hk0 : 0 ≤ k) (hk1 : k ≤ 549755813888) :
    Calls Try.prog 29 #[v, .int .i64 k] w (MarkedTr lo hi v k T w) := by
  obtain ⟨s1, s2, a, l1, l2, rfl, g1, g2⟩ := hv
  have hn1 : T.P.length ≤ 1048576 := by unfold Tr.size at hn; omega
  have hn2 : T.V.length ≤ 1048576 := by unfold Tr.size at hn; omega
  have hhi : hi ≤ w.heap.size := g2.1
  have X0 := Lib.hid (Box2.mk' w s1 s2 32)
  have G1 := Lib.hid (fun o => SI.below g1 (below_alloc w o) (Nat.le_refl _))
  have G2 := Lib.hid (fun o => SI.below g2 (below_alloc w o) (Nat.le_refl _))
  clear g1 g2
  go_enter Try.func29, Try.ntmps29
  go_wp2_with fail
  go_at_call 30; refine (markI64_any lo a _ T.P k _ (G1.out _) hn1 hk0 (by omega)).mono ?_; rintro e w1 ⟨rfl, i1, t1⟩
  have T1 := Lib.hid ((Turned.allocT lo hi w _).trans (t1.wide (Nat.le_refl _) l2))
  have I1 := Lib.hid i1
  have I2 := Lib.hid (SI.kept (G2.out _) t1 (Or.inr (Nat.le_refl _)))
  have X1 := Lib.hid (X0.out.kept t1 (Or.inr (by omega)))
  clear i1 t1 X0
  obtain ⟨c0, c1⟩ := X1.out
  go_wp2_with fail
  clear c0 c1
  go_at_call 30; refine (markI64_any a hi _ T.V (k + (T.P.length : Nat)) _ I2.out hn2 (by omega) (by omega)).mono ?_; rintro e w2 ⟨rfl, i2, t2⟩
  have T2 := Lib.hid (T1.out.trans (t2.wide l1 (Nat.le_refl _)))
  have J1 := Lib.hid (SI.kept I1.out t2 (Or.inl (Nat.le_refl _)))
  have J2 := Lib.hid i2
  clear i2 t2
  go_wp2_with fail
  go_ret
  exact ⟨ret_int (by unfold Tr.size; omega), ⟨s1, s2, a, l1, l2, rfl, J1.out, J2.out⟩, T2.out⟩
end Go.Proofs.Ytmkbjkjgemipcaa
