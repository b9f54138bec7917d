/- Forms: how they read; their copies; that copies are equal; their marks; how one comes in. -/
import Derived.Test.YtiobbclciboggaaLsS
import Derived.Lib.SmallJoins
namespace Go.Proofs.Ytiobbclciboggaa
open Go.RowKit Go.ChangeShapes Go.WideShapes Go.Joins

structure Fm where
  letters : Int
  cs : List (List Int)
def FmV (w : World) (v : Value) (N : Fm) : Prop := ∃ s1, v = .agg #[.int .i64 N.letters, s1] ∧ LV w s1 N.cs
def FmD (lo hi : Nat) (w : World) (v : Value) (N : Fm) : Prop := ∃ s1, v = .agg #[.int .i64 N.letters, s1] ∧ LD lo hi w s1 N.cs
theorem FmV.below {w w' : World} {v : Value} {N : Fm} (h : FmV w v N) {B : Nat} (hb : Below B w w') (hB : w.heap.size ≤ B) : FmV w' v N := by
  obtain ⟨s1, e, h1⟩ := h
  exact ⟨s1, e, h1.below hb hB⟩
theorem FmD.below {lo hi : Nat} {w w' : World} {v : Value} {N : Fm} (h : FmD lo hi w v N) {B : Nat} (hb : Below B w w') (hB : w.heap.size ≤ B) : FmD lo hi w' v N := by
  obtain ⟨s1, e, h1⟩ := h
  exact ⟨s1, e, h1.below' hb hB⟩
theorem FmD.kept {lo hi lo2 hi2 : Nat} {w w' : World} {v : Value} {N : Fm} (h : FmD lo hi w v N) (ht : Turned lo2 hi2 w w') (hs : hi ≤ lo2 ∨ hi2 ≤ lo) : FmD lo hi w' v N := by
  obtain ⟨s1, e, h1⟩ := h
  exact ⟨s1, e, h1.kept' ht hs⟩
theorem FmD.fv {lo hi : Nat} {w : World} {v : Value} {N : Fm} (h : FmD lo hi w v N) : FmV w v N := by
  obtain ⟨s1, e, h1⟩ := h
  exact ⟨s1, e, h1.lv⟩
theorem FmD.wide {lo lo' hi : Nat} {w : World} {v : Value} {N : Fm} (h : FmD lo hi w v N) (h1 : lo' ≤ lo) : FmD lo' hi w v N := by
  obtain ⟨s1, e, g1⟩ := h
  exact ⟨s1, e, g1.wide' h1⟩
theorem FmD.split {lo hi : Nat} {w : World} {v : Value} {N : Fm} (h : FmD lo hi w v N) : ∃ x1 k1, v = .agg #[.int .i64 N.letters, .slice x1 N.cs.length k1] := by
  obtain ⟨s1, e, h1⟩ := h
  obtain ⟨x1, k1, rfl⟩ := h1.len'
  exact ⟨x1, k1, e⟩
def MadeFm (N : Fm) (w : World) (e : Ending) (w' : World) : Prop := ∃ v, e = .returned v ∧ FmD w.heap.size w'.heap.size w' v N ∧ Below w.heap.size w w'

set_option maxHeartbeats 1000000 in
theorem toForm_any (v : Value) (N : Fm) (w : World) (hv : FmV w v N) (hn : szL N.cs ≤ 1048576) :
    Calls Try.prog 121 #[v] w (MadeFm N w) := by
  obtain ⟨s1, rfl, g1⟩ := hv
  have G1 := Lib.hid g1
  clear g1
  have hb0 : ∀ A B C, Below w.heap.size w (((w.alloc A).alloc B).alloc C) := fun A B C => ((below_alloc w A).alloc (by simp) B).alloc (by simp; omega) C
  have HB0 := Lib.hid hb0
  clear hb0
  go_enter Try.func121, Try.ntmps121
  go_wp2_with fail
  go_at_call 17; refine (toSS_any _ N.cs _ (G1.out.below (HB0.out _ _ _) (Nat.le_refl _)) hn).mono ?_; rintro e w1 ⟨v1, rfl, i1, b1⟩
  obtain ⟨x1, y1, rfl⟩ := i1.len'
  obtain ⟨hc1, hf1⟩ := bcell b1
  have hz1 : w.heap.size + 1 + 1 < w1.heap.size := by have := b1.size; simp at this; omega
  have I1 := Lib.hid (LD.wide (lo' := w.heap.size + 1 + 1 + 1) i1 (by simp) (Nat.le_refl _) (Nat.le_refl _))
  have B1 := Lib.hid ((HB0.out _ _ _).trans (b1.mono (by simp; omega)))
  clear i1 b1
  go_wp2_with fail
  refine bodyPost_ret (v := .agg #[.int .i64 N.letters, .slice x1 N.cs.length y1]) (by simp [results, Try.results121, hc1, go_sem]) rfl ?_
  generalize hX : World.setCell _ _ _ = X
  have hT : Turned (w.heap.size + 1) (w.heap.size + 1 + 1 + 1) w1 X := by
    rw [← hX]
    repeat (refine Turned.setCell ?_ (by simp) (by simp) _)
    exact Turned.refl _ _ _
  clear hX
  have hTB := hT.below (by omega)
  exact ⟨_, rfl, ⟨_, rfl, LD.wide (I1.out.kept' hT (Or.inr (Nat.le_refl _))) (by omega) hT.size (Nat.le_refl _)⟩, B1.out.trans (hTB.mono (by omega))⟩

theorem szForm_yes (v : Value) (N : Fm) (m : Int) (w : World) (hv : FmV w v N) (hm : (szL N.cs : Int) ≤ m) (hb : m ≤ 1048576) :
    Calls Try.prog 120 #[v, .int .i64 m] w fun e w' => e = .returned (.int .i64 (m - szL N.cs)) ∧ Below w.heap.size w w' := by
  obtain ⟨s1, rfl, g1⟩ := hv
  have G1 := Lib.hid (fun o => g1.below (below_alloc w o) (Nat.le_refl _))
  clear g1
  go_enter Try.func120, Try.ntmps120
  go_wp2_with fail
  go_at_call 15; refine (szSS_yes _ N.cs _ _ (G1.out _) (by omega) (by omega)).mono ?_; rintro e w1 ⟨rfl, rfl⟩
  go_wp2_with fail
  go_ret
  exact ⟨rfl, below_alloc _ _⟩
theorem szForm_no (v : Value) (N : Fm) (m : Int) (w : World) (hv : FmV w v N) (hm : m < (szL N.cs : Int)) (h0 : 0 ≤ m) (hb : m ≤ 1048576) (l1 : FitL N.cs) :
    Calls Try.prog 120 #[v, .int .i64 m] w fun e w' => e = .returned (.int .i64 (-1)) ∧ Below w.heap.size w w' := by
  obtain ⟨s1, rfl, g1⟩ := hv
  have G1 := Lib.hid (fun o => g1.below (below_alloc w o) (Nat.le_refl _))
  clear g1
  go_enter Try.func120, Try.ntmps120
  go_wp2_with fail
  go_at_call 15; refine (szSS_no _ N.cs _ _ (G1.out _) (by omega) (by omega) (by omega) l1).mono ?_; rintro e w1 ⟨rfl, rfl⟩
  go_wp2_with fail
  go_ret
  exact ⟨rfl, below_alloc _ _⟩

theorem eqForm_any (v u : Value) (N : Fm) (w : World) (hn : szL N.cs ≤ 1048576) (hv : FmV w v N) (hu : FmV w u N) :
    Calls Try.prog 124 #[v, u] w fun e w' => e = .returned (.bool true) ∧ Below w.heap.size w w' := by
  have HB0 := Lib.hid (fun A B => (below_alloc w A).alloc (by simp) B)
  obtain ⟨s1, rfl, g1⟩ := hv
  obtain ⟨t1, rfl, k1⟩ := hu
  have G1 := Lib.hid g1
  have K1 := Lib.hid k1
  clear g1 k1
  go_enter Try.func124, Try.ntmps124
  go_wp2_with fail
  go_at_call 20; refine (eqSS_any _ _ N.cs _ hn (G1.out.below (HB0.out _ _) (Nat.le_refl _)) (K1.out.below (HB0.out _ _) (Nat.le_refl _))).mono ?_; rintro e w1 ⟨rfl, b⟩
  have B1 := Lib.hid ((HB0.out _ _).trans (b.mono (by simp; omega)))
  clear b
  go_wp2_with fail
  go_ret
  exact ⟨rfl, B1.out⟩

/-- A form as it comes in. -/
def FitFm (N : Fm) : Prop := FitL N.cs
structure OKFm (N : Fm) : Prop where
  size : szL N.cs ≤ 1048576
  fit : FitFm N
theorem OKFm.okl {N : Fm} (o : OKFm N) : OKL N.cs := ⟨o.size, o.fit⟩
set_option maxRecDepth 100000 in
theorem open_form {H : Type} {enc : TypeId × Value → H} {w : World} {v : Value} {d : DataW H} {ps : List MemPlace} {b0 : Nat}
    (hval : Value.okWide Try.prog w .any b0 91 v) (hd : DataW.Trod enc Try.prog w 0 (fun _ => true) true 91 v d ps) : ∃ N : Fm, FmV w v N ∧ FitFm N := by
  obtain ⟨v0, v1, y0, y1, n, rfl, -, -, t0, t1⟩ := open_agg2 Try.underlying91 (by kernel_rfl) (by kernel_rfl) hval hd
  obtain ⟨a, e0, -, -⟩ := DataW.trod_int Try.underlying2 t0
  simp only [List.cons.injEq, and_true] at e0
  subst e0
  obtain ⟨Z, hZ, lZ⟩ := open_lv t1
  exact ⟨⟨a, Z⟩, ⟨_, rfl, hZ⟩, lZ⟩
end Go.Proofs.Ytiobbclciboggaa
