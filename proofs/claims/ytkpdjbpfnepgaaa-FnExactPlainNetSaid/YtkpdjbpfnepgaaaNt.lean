/- Nets: how they read; their copies; that copies are equal; their marks; how one comes in. -/
import Derived.Test.YtkpdjbpfnepgaaaArcS
namespace Go.Proofs.Ytkpdjbpfnepgaaa
open Go.RowKit Go.ChangeShapes Go.WideShapes Go.Joins

structure Nt where
  nodes : Int
  arcs : List Ac
def NV (w : World) (v : Value) (N : Nt) : Prop := ∃ s1, v = .agg #[.int .i64 N.nodes, s1] ∧ AV w s1 N.arcs
def ND (lo hi : Nat) (w : World) (v : Value) (N : Nt) : Prop := ∃ s1, v = .agg #[.int .i64 N.nodes, s1] ∧ AI lo hi w s1 N.arcs
theorem NV.below {w w' : World} {v : Value} {N : Nt} (h : NV w v N) {B : Nat} (hb : Below B w w') (hB : w.heap.size ≤ B) : NV w' v N := by
  obtain ⟨s1, e, h1⟩ := h
  exact ⟨s1, e, h1.below hb hB⟩
theorem ND.below {lo hi : Nat} {w w' : World} {v : Value} {N : Nt} (h : ND lo hi w v N) {B : Nat} (hb : Below B w w') (hB : w.heap.size ≤ B) : ND lo hi w' v N := by
  obtain ⟨s1, e, h1⟩ := h
  exact ⟨s1, e, h1.below' hb hB⟩
theorem ND.kept {lo hi lo2 hi2 : Nat} {w w' : World} {v : Value} {N : Nt} (h : ND lo hi w v N) (ht : Turned lo2 hi2 w w') (hs : hi ≤ lo2 ∨ hi2 ≤ lo) : ND lo hi w' v N := by
  obtain ⟨s1, e, h1⟩ := h
  exact ⟨s1, e, h1.kept' ht hs⟩
theorem ND.nv {lo hi : Nat} {w : World} {v : Value} {N : Nt} (h : ND lo hi w v N) : NV w v N := by
  obtain ⟨s1, e, h1⟩ := h
  exact ⟨s1, e, h1.av⟩
theorem ND.wide {lo lo' hi : Nat} {w : World} {v : Value} {N : Nt} (h : ND lo hi w v N) (h1 : lo' ≤ lo) : ND lo' hi w v N := by
  obtain ⟨s1, e, g1⟩ := h
  exact ⟨s1, e, g1.wide' h1⟩
theorem ND.split {lo hi : Nat} {w : World} {v : Value} {N : Nt} (h : ND lo hi w v N) : ∃ x1 k1, v = .agg #[.int .i64 N.nodes, .slice x1 N.arcs.length k1] := by
  obtain ⟨s1, e, h1⟩ := h
  obtain ⟨x1, k1, rfl⟩ := h1.len'
  exact ⟨x1, k1, e⟩
def MadeN (N : Nt) (w : World) (e : Ending) (w' : World) : Prop := ∃ v, e = .returned v ∧ ND w.heap.size w'.heap.size w' v N ∧ Below w.heap.size w w'

set_option maxHeartbeats 1000000 in
theorem toNet_any (v : Value) (N : Nt) (w : World) (hv : NV w v N) (hn : N.arcs.length ≤ 1048576) :
    Calls Try.prog 17 #[v] w (MadeN N w) := by
  obtain ⟨s1, rfl, g1⟩ := hv
  have G1 := Lib.hid g1
  clear g1
  have hb0 : ∀ A B C, Below w.heap.size w (((w.alloc A).alloc B).alloc C) := fun A B C => ((below_alloc w A).alloc (by simp) B).alloc (by simp; omega) C
  have HB0 := Lib.hid hb0
  clear hb0
  go_enter Try.func17, Try.ntmps17
  go_wp2_with fail
  go_at_call 24; refine (toArcS_any _ N.arcs _ (G1.out.below (HB0.out _ _ _) (Nat.le_refl _)) hn).mono ?_; rintro e w1 ⟨v1, rfl, i1, b1⟩
  obtain ⟨x1, y1, rfl⟩ := i1.len'
  obtain ⟨hc1, hf1⟩ := bcell b1
  have hz1 : w.heap.size + 1 + 1 < w1.heap.size := by have := b1.size; simp at this; omega
  have I1 := Lib.hid (AI.wide (lo' := w.heap.size + 1 + 1 + 1) i1 (by simp) (Nat.le_refl _) (Nat.le_refl _))
  have B1 := Lib.hid ((HB0.out _ _ _).trans (b1.mono (by simp; omega)))
  clear i1 b1
  go_wp2_with fail
  refine bodyPost_ret (v := .agg #[.int .i64 N.nodes, .slice x1 N.arcs.length y1]) (by simp [results, Try.results17, hc1, go_sem]) rfl ?_
  generalize hX : World.setCell _ _ _ = X
  have hT : Turned (w.heap.size + 1) (w.heap.size + 1 + 1 + 1) w1 X := by
    rw [← hX]
    repeat (refine Turned.setCell ?_ (by simp) (by simp) _)
    exact Turned.refl _ _ _
  clear hX
  have hTB := hT.below (by omega)
  exact ⟨_, rfl, ⟨_, rfl, AI.wide (I1.out.kept' hT (Or.inr (Nat.le_refl _))) (by omega) hT.size (Nat.le_refl _)⟩, B1.out.trans (hTB.mono (by omega))⟩

theorem szNet_yes (v : Value) (N : Nt) (m : Int) (w : World) (hv : NV w v N) (hm : (N.arcs.length : Int) ≤ m) (hb : m ≤ 1048576) :
    Calls Try.prog 15 #[v, .int .i64 m] w fun e w' => e = .returned (.int .i64 (m - N.arcs.length)) ∧ Below w.heap.size w w' := by
  obtain ⟨s1, rfl, g1⟩ := hv
  have G1 := Lib.hid g1.long
  clear g1
  go_enter Try.func15, Try.ntmps15
  go_wp2_with fail
  go_at_call 22; refine (szArcS_yes _ N.arcs.length _ _ G1.out (by omega) (by omega)).mono ?_; rintro e w1 ⟨rfl, rfl⟩
  go_wp2_with fail
  go_ret
  exact ⟨rfl, below_alloc _ _⟩
theorem szNet_no (v : Value) (N : Nt) (m : Int) (w : World) (hv : NV w v N) (hm : m < (N.arcs.length : Int)) (h0 : 0 ≤ m) (hb : m ≤ 1048576) (l1 : N.arcs.length ≤ maxLen) :
    Calls Try.prog 15 #[v, .int .i64 m] w fun e w' => e = .returned (.int .i64 (-1)) ∧ Below w.heap.size w w' := by
  obtain ⟨s1, rfl, g1⟩ := hv
  have G1 := Lib.hid g1.long
  clear g1
  go_enter Try.func15, Try.ntmps15
  go_wp2_with fail
  go_at_call 22; refine (szArcS_no _ N.arcs.length _ _ G1.out (by omega) (by omega) (by omega) l1).mono ?_; rintro e w1 ⟨rfl, rfl⟩
  go_wp2_with fail
  go_ret
  exact ⟨rfl, below_alloc _ _⟩

theorem eqNet_any (v u : Value) (N : Nt) (w : World) (hn : N.arcs.length ≤ 1048576) (hv : NV w v N) (hu : NV w u N) :
    Calls Try.prog 19 #[v, u] w fun e w' => e = .returned (.bool true) ∧ Below w.heap.size w w' := by
  have HB0 := Lib.hid (fun A B => (below_alloc w A).alloc (by simp) B)
  obtain ⟨s1, rfl, g1⟩ := hv
  obtain ⟨t1, rfl, k1⟩ := hu
  have G1 := Lib.hid g1
  have K1 := Lib.hid k1
  clear g1 k1
  go_enter Try.func19, Try.ntmps19
  go_wp2_with fail
  go_at_call 26; refine (eqArcS_any _ _ N.arcs _ hn (G1.out.below (HB0.out _ _) (Nat.le_refl _)) (K1.out.below (HB0.out _ _) (Nat.le_refl _))).mono ?_; rintro e w1 ⟨rfl, b⟩
  have B1 := Lib.hid ((HB0.out _ _).trans (b.mono (by simp; omega)))
  clear b
  go_wp2_with fail
  go_ret
  exact ⟨rfl, B1.out⟩

/-- A net as it comes in. -/
def FitN (N : Nt) : Prop := N.arcs.length ≤ maxLen ∧ ∀ a ∈ N.arcs, a.ok
structure OKN (N : Nt) : Prop where
  size : N.arcs.length ≤ 1048576
  fit : FitN N
set_option maxRecDepth 100000 in
theorem open_net {H : Type} {enc : TypeId × Value → H} {w : World} {v : Value} {d : DataW H} {ps : List MemPlace} {b0 : Nat}
    (hval : Value.okWide Try.prog w .any b0 24 v) (hd : DataW.Trod enc Try.prog w 0 (fun _ => true) true 24 v d ps) : ∃ N : Nt, NV w v N ∧ FitN N := by
  obtain ⟨v0, v1, y0, y1, n, rfl, -, -, t0, t1⟩ := open_agg2 Try.underlying24 (by kernel_rfl) (by kernel_rfl) hval hd
  obtain ⟨a, e0, -, -⟩ := DataW.trod_int Try.underlying2 t0
  simp only [List.cons.injEq, and_true] at e0
  subst e0
  obtain ⟨Z, hZ, lZ, fZ⟩ := open_av t1
  exact ⟨⟨a, Z⟩, ⟨_, rfl, hZ⟩, lZ, fZ⟩
/-- What nets hold behind marks from k on. -/
def marksN (k : Int) (N : Nt) : Nt := ⟨N.nodes, marksA k N.arcs.length⟩
theorem marksN_len (k : Int) (N : Nt) : (marksN k N).arcs.length = N.arcs.length := by simp [marksN, marksA_len]
def MarkedN (lo hi : Nat) (v : Value) (k : Int) (N : Nt) (w : World) (e : Ending) (w' : World) : Prop := e = .returned (.int .i64 (k + ((4 * N.arcs.length : Nat) : Int))) ∧ ND lo hi w' v (marksN k N) ∧ Turned lo hi w w'
theorem Turned.alloc' (lo hi : Nat) (w : World) (o : Obj) : Turned lo hi w (w.alloc o) := Turned.of_below (below_alloc w o) (Nat.le_refl _)
set_option maxHeartbeats 1000000 in
theorem markNet_any (lo hi : Nat) (v : Value) (N : Nt) (k : Int) (w : World) (hv : ND lo hi w v N) (hn : N.arcs.length ≤ 1048576) (hk0 : 0 ≤ k) (hk1 : k ≤ 1099511627776) :
    Calls Try.prog 28 #[v, .int .i64 k] w (MarkedN lo hi v k N w) := by
  obtain ⟨s1, rfl, g1⟩ := hv
  have G1 := Lib.hid (fun o => g1.below' (below_alloc w o) (Nat.le_refl _))
  clear g1
  go_enter Try.func28, Try.ntmps28
  go_wp2_with fail
  go_at_call 27; refine (markArcS_any lo hi _ N.arcs k _ (G1.out _) hn hk0 hk1).mono ?_; rintro e w1 ⟨rfl, i1, t1⟩
  have T1 := Lib.hid ((Turned.alloc' lo hi w _).trans t1)
  have I1 := Lib.hid i1
  clear i1 t1
  go_wp2_with fail
  go_ret
  exact ⟨rfl, ⟨s1, rfl, I1.out⟩, T1.out⟩
set_option maxHeartbeats 1000000 in
theorem heldNet_any (v : Value) (k : Int) (N : Nt) (w : World) (hv : NV w v (marksN k N)) (hn : N.arcs.length ≤ 1048576) (hk0 : 0 ≤ k) (hk1 : k ≤ 1099511627776) :
    Calls Try.prog 29 #[v, .int .i64 k] w fun e w' => e = .returned (.int .i64 (k + ((4 * N.arcs.length : Nat) : Int))) ∧ Below w.heap.size w w' := by
  obtain ⟨s1, rfl, g1⟩ := hv
  have G1 := Lib.hid (fun o => g1.below (below_alloc w o) (Nat.le_refl _))
  clear g1
  go_enter Try.func29, Try.ntmps29
  go_wp2_with fail
  go_at_call 59; refine (heldArcS_any _ k N.arcs.length _ (G1.out _) hn hk0 hk1).mono ?_; rintro e w1 ⟨rfl, rfl⟩
  go_wp2_with fail
  go_ret
  exact ⟨rfl, below_alloc _ _⟩
end Go.Proofs.Ytkpdjbpfnepgaaa
