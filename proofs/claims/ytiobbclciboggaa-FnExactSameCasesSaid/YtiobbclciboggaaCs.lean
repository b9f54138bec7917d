/- Cases: how they read; their copies; that copies are equal; how one comes in. -/
import Derived.Test.YtiobbclciboggaaFm
import Derived.Lib.SmallJoins
namespace Go.Proofs.Ytiobbclciboggaa
open Go.RowKit Go.ChangeShapes Go.WideShapes Go.Joins

structure Cs where
  name : ByteArray
  form : Fm
  proof : List (List Int)
def CsV (w : World) (v : Value) (C : Cs) : Prop := ∃ s1 s2, v = .agg #[.string C.name, .int .i64 C.form.letters, s1, s2] ∧ LV w s1 C.form.cs ∧ LV w s2 C.proof
def CsD (lo hi : Nat) (w : World) (v : Value) (C : Cs) : Prop := ∃ s1 s2 a, lo ≤ a ∧ a ≤ hi ∧ v = .agg #[.string C.name, .int .i64 C.form.letters, s1, s2] ∧ LD lo a w s1 C.form.cs ∧ LD a hi w s2 C.proof
theorem CsV.below {w w' : World} {v : Value} {C : Cs} (h : CsV w v C) {B : Nat} (hb : Below B w w') (hB : w.heap.size ≤ B) : CsV w' v C := by
  obtain ⟨s1, s2, e, h1, h2⟩ := h
  exact ⟨s1, s2, e, h1.below hb hB, h2.below hb hB⟩
theorem CsD.below {lo hi : Nat} {w w' : World} {v : Value} {C : Cs} (h : CsD lo hi w v C) {B : Nat} (hb : Below B w w') (hB : w.heap.size ≤ B) : CsD lo hi w' v C := by
  obtain ⟨s1, s2, a, l1, l2, e, h1, h2⟩ := h
  exact ⟨s1, s2, a, l1, l2, e, h1.below' hb hB, h2.below' hb hB⟩
theorem CsD.kept {lo hi lo2 hi2 : Nat} {w w' : World} {v : Value} {C : Cs} (h : CsD lo hi w v C) (ht : Turned lo2 hi2 w w') (hs : hi ≤ lo2 ∨ hi2 ≤ lo) : CsD lo hi w' v C := by
  obtain ⟨s1, s2, a, l1, l2, e, h1, h2⟩ := h
  exact ⟨s1, s2, a, l1, l2, e, h1.kept' ht (by omega), h2.kept' ht (by omega)⟩
theorem CsD.cv {lo hi : Nat} {w : World} {v : Value} {C : Cs} (h : CsD lo hi w v C) : CsV w v C := by
  obtain ⟨s1, s2, a, l1, l2, e, h1, h2⟩ := h
  exact ⟨s1, s2, e, h1.lv, h2.lv⟩
theorem CsD.wide {lo lo' hi : Nat} {w : World} {v : Value} {C : Cs} (h : CsD lo hi w v C) (h1 : lo' ≤ lo) : CsD lo' hi w v C := by
  obtain ⟨s1, s2, a, l1, l2, e, g1, g2⟩ := h
  exact ⟨s1, s2, a, by omega, l2, e, g1.wide' h1, g2⟩
theorem CsD.split {lo hi : Nat} {w : World} {v : Value} {C : Cs} (h : CsD lo hi w v C) : ∃ x1 k1 x2 k2, v = .agg #[.string C.name, .int .i64 C.form.letters, .slice x1 C.form.cs.length k1, .slice x2 C.proof.length k2] := by
  obtain ⟨s1, s2, a, -, -, e, h1, h2⟩ := h
  obtain ⟨x1, k1, rfl⟩ := h1.len'
  obtain ⟨x2, k2, rfl⟩ := h2.len'
  exact ⟨x1, k1, x2, k2, e⟩
def MadeCs (C : Cs) (w : World) (e : Ending) (w' : World) : Prop := ∃ v, e = .returned v ∧ CsD w.heap.size w'.heap.size w' v C ∧ Below w.heap.size w w'
def szC (C : Cs) : Nat := C.name.size + szL C.form.cs + szL C.proof
theorem szC_form (C : Cs) : szL C.form.cs ≤ szC C := by unfold szC; omega
theorem szC_proof (C : Cs) : szL C.proof ≤ szC C := by unfold szC; omega
theorem szC_name (C : Cs) : C.name.size ≤ szC C := by unfold szC; omega

set_option maxHeartbeats 1000000 in
theorem toCase_any (v : Value) (C : Cs) (w : World) (hv : CsV w v C) (hn : szC C ≤ 1048576) :
    Calls Try.prog 75 #[v] w (MadeCs C w) := by
  have hn1 := Nat.le_trans (szC_form C) hn
  have hn2 := Nat.le_trans (szC_proof C) hn
  obtain ⟨s1, s2, rfl, g1, g2⟩ := hv
  have G1 := Lib.hid g1
  have G2 := Lib.hid g2
  clear g1 g2 hn
  have hb0 : ∀ A B C, Below w.heap.size w (((w.alloc A).alloc B).alloc C) := fun A B C => ((below_alloc w A).alloc (by simp) B).alloc (by simp; omega) C
  have HB0 := Lib.hid hb0
  clear hb0
  go_enter Try.func75, Try.ntmps75
  go_wp2_with fail
  go_at_call 121; refine (toForm_any _ C.form _ ⟨_, rfl, G1.out.below (HB0.out _ _ _) (Nat.le_refl _)⟩ hn1).mono ?_; rintro e w1 ⟨v1, rfl, i1, b1⟩
  obtain ⟨s1', rfl, i1⟩ := i1
  obtain ⟨x1, y1, rfl⟩ := i1.len'
  obtain ⟨hc1, hf1⟩ := bcell b1
  have hz1 : w.heap.size + 1 + 1 < w1.heap.size := by have := b1.size; simp at this; omega
  have hy1 : w.heap.size < w1.heap.size := by omega
  have hx1 : w.heap.size + 1 < w1.heap.size := by omega
  have I1 := Lib.hid (fun u1 u2 => LD.kept' (LD.wide (lo' := w.heap.size + 1 + 1 + 1) i1 (by simp) (Nat.le_refl _) (Nat.le_refl _)) (((Turned.refl (w.heap.size + 1 + 1) (w.heap.size + 1 + 1 + 1) w1).setCell (p := ⟨w.heap.size + 1 + 1, 1, none⟩) (Nat.le_refl _) (Nat.lt_succ_self _) u1).setCell (p := ⟨w.heap.size + 1 + 1, 2, none⟩) (Nat.le_refl _) (Nat.lt_succ_self _) u2) (Or.inr (Nat.le_refl _)))
  have B1 := Lib.hid (fun u1 u2 => (((HB0.out _ _ _).trans (b1.mono (by simp; omega))).setCell (p := ⟨w.heap.size + 1 + 1, 1, none⟩) (by show _ ≤ w.heap.size + 1 + 1; omega) u1).setCell (p := ⟨w.heap.size + 1 + 1, 2, none⟩) (by show _ ≤ w.heap.size + 1 + 1; omega) u2)
  clear i1 b1
  go_wp2_with fail
  go_at_call 17; refine (toSS_any _ C.proof _ (G2.out.below (B1.out _ _) (Nat.le_refl _)) hn2).mono ?_; rintro e w2 ⟨v2, rfl, i2, b2⟩
  obtain ⟨x2, y2, rfl⟩ := i2.len'
  obtain ⟨hc2, hf2⟩ := bcell b2
  have hz2 : w.heap.size + 1 + 1 < w2.heap.size := by have := b2.size; simp at this; omega
  have hx2 : w.heap.size + 1 < w2.heap.size := by omega
  have HS2 := Lib.hid (show w1.heap.size ≤ w2.heap.size by have := b2.size; simpa using this)
  have I1' := Lib.hid (LD.below' (I1.out _ _) b2 (Nat.le_refl _))
  have I2 := Lib.hid (LD.wide (lo' := w1.heap.size) i2 (by simp) (Nat.le_refl _) (Nat.le_refl _))
  have B2 := Lib.hid ((B1.out _ _).trans (b2.mono (by simp; omega)))
  clear i2 b2 I1 B1
  go_wp2_with fail
  refine bodyPost_ret (v := .agg #[.string C.name, .int .i64 C.form.letters, .slice x1 C.form.cs.length y1, .slice x2 C.proof.length y2]) (by simp [results, Try.results75, hc1, hc2, hx1, go_sem]) rfl ?_
  generalize hX : World.setCell _ _ _ = X
  have hT : Turned (w.heap.size + 1) (w.heap.size + 1 + 1 + 1) w2 X := by
    rw [← hX]
    repeat (refine Turned.setCell ?_ (by simp) (by simp) _)
    exact Turned.refl _ _ _
  clear hX
  have hTB := hT.below (by omega)
  refine ⟨_, rfl, ⟨_, _, w1.heap.size, by omega, Nat.le_trans HS2.out hT.size, rfl, ?_, ?_⟩, B2.out.trans (hTB.mono (by omega))⟩
  · exact LD.wide (LD.kept' I1'.out hT (Or.inr (Nat.le_refl _))) (by omega) (Nat.le_refl _) (Nat.le_trans HS2.out hT.size)
  · exact LD.wide (LD.kept' I2.out hT (Or.inr (by omega))) (Nat.le_refl _) hT.size (Nat.le_refl _)
set_option maxHeartbeats 1000000 in
theorem eqCase_any (v u : Value) (C : Cs) (w : World) (hn : szC C ≤ 1048576) (hv : CsV w v C) (hu : CsV w u C) :
    Calls Try.prog 78 #[v, u] w fun e w' => e = .returned (.bool true) ∧ Below w.heap.size w w' := by
  have n1 := Nat.le_trans (szC_form C) hn
  have n2 := Nat.le_trans (szC_proof C) hn
  have HB0 := Lib.hid (fun A B => (below_alloc w A).alloc (by simp) B)
  obtain ⟨s1, s2, rfl, g1, g2⟩ := hv
  obtain ⟨t1, t2, rfl, k1, k2⟩ := hu
  have G1 := Lib.hid g1
  have G2 := Lib.hid g2
  have K1 := Lib.hid k1
  have K2 := Lib.hid k2
  clear g1 k1 g2 k2 hn
  go_enter Try.func78, Try.ntmps78
  go_wp2_with fail
  go_at_call 124; refine (eqForm_any _ _ C.form _ n1 ⟨_, rfl, G1.out.below (HB0.out _ _) (Nat.le_refl _)⟩ ⟨_, rfl, K1.out.below (HB0.out _ _) (Nat.le_refl _)⟩).mono ?_; rintro e w1 ⟨rfl, b⟩
  have B1 := Lib.hid ((HB0.out _ _).trans (b.mono (by simp; omega)))
  obtain ⟨hc1, hf1⟩ := bcell b
  clear b
  go_wp2_with fail
  go_at_call 20; refine (eqSS_any _ _ C.proof _ n2 (G2.out.below B1.out (Nat.le_refl _)) (K2.out.below B1.out (Nat.le_refl _))).mono ?_; rintro e w2 ⟨rfl, b⟩
  have B2 := Lib.hid (B1.out.trans (b.mono B1.out.size))
  clear b
  go_wp2_with fail
  go_ret
  exact ⟨rfl, B2.out⟩

theorem szCase_yes (v : Value) (C : Cs) (m : Int) (w : World) (hv : CsV w v C) (hm : (szC C : Int) ≤ m) (hb : m ≤ 1048576) :
    Calls Try.prog 72 #[v, .int .i64 m] w fun e w' => e = .returned (.int .i64 (m - szC C)) ∧ Below w.heap.size w w' := by
  have hs : (C.name.size : Int) + (szL C.form.cs : Int) + (szL C.proof : Int) = (szC C : Int) := by unfold szC; omega
  obtain ⟨s1, s2, rfl, g1, g2⟩ := hv
  have HB0 := Lib.hid (below_alloc w)
  have G1 := Lib.hid g1
  have G2 := Lib.hid g2
  clear g1 g2
  generalize szC C = z at hs hm ⊢
  have X0 := Lib.hid hs
  have m1 : ¬ m - (C.name.size : Int) < 0 := by omega
  have m2 : ¬ m - (C.name.size : Int) - (szL C.form.cs : Int) < 0 := by omega
  have m3 : ¬ m - (C.name.size : Int) - (szL C.form.cs : Int) - (szL C.proof : Int) < 0 := by omega
  have q1 : (szL C.form.cs : Int) ≤ m - (C.name.size : Int) := by omega
  have q2 : (szL C.proof : Int) ≤ m - (C.name.size : Int) - (szL C.form.cs : Int) := by omega
  have q3 : m - (C.name.size : Int) ≤ 1048576 := by omega
  have q4 : m - (C.name.size : Int) - (szL C.form.cs : Int) ≤ 1048576 := by omega
  clear hs
  go_enter Try.func72, Try.ntmps72
  go_wp2_with fail
  go_at_call 120; refine (szForm_yes _ C.form _ _ ⟨_, rfl, G1.out.below (HB0.out _) (Nat.le_refl _)⟩ q1 q3).mono ?_; rintro e w1 ⟨rfl, b⟩
  have B1 := Lib.hid ((HB0.out _).trans (b.mono (by simp)))
  obtain ⟨hc1, hf1⟩ := bcell b
  clear b
  go_wp2_with fail
  go_at_call 15; refine (szSS_yes _ C.proof _ _ (G2.out.below B1.out (Nat.le_refl _)) q2 q4).mono ?_; rintro e w2 ⟨rfl, rfl⟩
  go_wp2_with fail
  go_ret
  exact ⟨ret_int (by have := X0.out; omega), B1.out⟩

theorem szCase_no (v : Value) (C : Cs) (m : Int) (w : World) (hv : CsV w v C) (hm : m < (szC C : Int)) (h0 : 0 ≤ m) (hb : m ≤ 1048576) (hl : C.name.size ≤ maxLen) (hf : FitL C.form.cs) (hp : FitL C.proof) :
    Calls Try.prog 72 #[v, .int .i64 m] w fun e w' => e = .returned (.int .i64 (-1)) ∧ Below w.heap.size w w' := by
  have hs : (C.name.size : Int) + (szL C.form.cs : Int) + (szL C.proof : Int) = (szC C : Int) := by unfold szC; omega
  obtain ⟨s1, s2, rfl, g1, g2⟩ := hv
  have HB0 := Lib.hid (below_alloc w)
  have G1 := Lib.hid g1
  have G2 := Lib.hid g2
  clear g1 g2
  generalize szC C = z at hs hm
  unfold maxLen at hl
  have wr1 : IntKind.i64.wrap (m - (C.name.size : Int)) = m - (C.name.size : Int) := by rw [IntKind.wrap_i64]; omega
  by_cases c1 : m - (C.name.size : Int) < 0
  · clear hs
    go_enter Try.func72, Try.ntmps72
    go_wp2_with fail
    go_ret
    exact ⟨rfl, HB0.out _⟩
  · have q3 : m - (C.name.size : Int) ≤ 1048576 := by omega
    have q0 : 0 ≤ m - (C.name.size : Int) := by omega
    by_cases c2 : m - (C.name.size : Int) < (szL C.form.cs : Int)
    · clear hs
      go_enter Try.func72, Try.ntmps72
      go_wp2_with fail
      go_at_call 120; refine (szForm_no _ C.form _ _ ⟨_, rfl, G1.out.below (HB0.out _) (Nat.le_refl _)⟩ c2 q0 q3 hf).mono ?_; rintro e w1 ⟨rfl, b⟩
      have B1 := Lib.hid ((HB0.out _).trans (b.mono (by simp)))
      clear b
      go_wp2_with fail
      go_ret
      exact ⟨rfl, B1.out⟩
    · have q1 : (szL C.form.cs : Int) ≤ m - (C.name.size : Int) := by omega
      have q4 : m - (C.name.size : Int) - (szL C.form.cs : Int) ≤ 1048576 := by omega
      have q5 : 0 ≤ m - (C.name.size : Int) - (szL C.form.cs : Int) := by omega
      have q6 : m - (C.name.size : Int) - (szL C.form.cs : Int) < (szL C.proof : Int) := by omega
      have m2 : ¬ m - (C.name.size : Int) - (szL C.form.cs : Int) < 0 := by omega
      clear hs
      go_enter Try.func72, Try.ntmps72
      go_wp2_with fail
      go_at_call 120; refine (szForm_yes _ C.form _ _ ⟨_, rfl, G1.out.below (HB0.out _) (Nat.le_refl _)⟩ q1 q3).mono ?_; rintro e w1 ⟨rfl, b⟩
      have B1 := Lib.hid ((HB0.out _).trans (b.mono (by simp)))
      obtain ⟨hc1, hf1⟩ := bcell b
      clear b
      go_wp2_with fail
      go_at_call 15; refine (szSS_no _ C.proof _ _ (G2.out.below B1.out (Nat.le_refl _)) q6 q5 q4 hp).mono ?_; rintro e w2 ⟨rfl, rfl⟩
      go_wp2_with fail
      go_ret
      exact ⟨rfl, B1.out⟩

/-- A case as it comes in. -/
def FitC (C : Cs) : Prop := C.name.size ≤ maxLen ∧ FitL C.form.cs ∧ FitL C.proof
structure OKC (C : Cs) : Prop where
  size : szC C ≤ 1048576
  fit : FitC C
set_option maxRecDepth 100000 in
theorem open_case {H : Type} {enc : TypeId × Value → H} {w : World} {v : Value} {d : DataW H} {ps : List MemPlace} {b0 : Nat}
    (hval : Value.okWide Try.prog w .any b0 93 v) (hd : DataW.Trod enc Try.prog w 0 (fun _ => true) true 93 v d ps) : ∃ C : Cs, CsV w v C ∧ FitC C := by
  obtain ⟨cs, rfl, hsz⟩ := okWide_struct Try.underlying93 hval
  obtain ⟨c0, c1, c2, c3, rfl⟩ := array4 (hsz.trans (show Try.prog.cellsOf 93 = 4 by kernel_rfl))
  obtain ⟨fuel, hf⟩ := hd
  obtain ⟨y0, y1, y2, n, -, -, h0, h1, h2⟩ := Go.Deep.trod_struct3 Try.underlying93 hf
  have k0 : Try.prog.cellsOf 9 = 1 := by kernel_rfl
  have k1 : Try.prog.cellsOf 91 = 2 := by kernel_rfl
  have k2 : Try.prog.cellsOf 22 = 1 := by kernel_rfl
  simp only [k0, k1, k2, Value.cells] at h0 h1 h2
  have h0' : DataW.trod enc Try.prog w 0 (fun _ => true) true n 9 [c0] = some y0 := h0
  have h1' : DataW.trod enc Try.prog w 0 (fun _ => true) true n 91 [c1, c2] = some y1 := h1
  have h2' : DataW.trod enc Try.prog w 0 (fun _ => true) true n 22 [c3] = some y2 := h2
  obtain ⟨s, e0, -, hs⟩ := DataW.trod_string Try.underlying9 h0'
  simp only [List.cons.injEq, and_true] at e0
  subst e0
  obtain ⟨z0, z1, n2, -, -, t0, t1⟩ := trod_struct2 Try.underlying91 h1'
  have k3 : Try.prog.cellsOf 2 = 1 := by kernel_rfl
  simp only [k3, k2] at t0 t1
  have t0' : DataW.trod enc Try.prog w 0 (fun _ => true) true n2 2 [c1] = some z0 := t0
  have t1' : DataW.trod enc Try.prog w 0 (fun _ => true) true n2 22 [c2] = some z1 := t1
  obtain ⟨a, e1, -, -⟩ := DataW.trod_int Try.underlying2 t0'
  simp only [List.cons.injEq, and_true] at e1
  subst e1
  obtain ⟨Z, hZ, lZ⟩ := open_lv t1'
  obtain ⟨Y, hY, lY⟩ := open_lv h2'
  exact ⟨⟨s, ⟨a, Z⟩, Y⟩, ⟨_, _, rfl, hZ, hY⟩, hs, lZ, lY⟩
end Go.Proofs.Ytiobbclciboggaa
