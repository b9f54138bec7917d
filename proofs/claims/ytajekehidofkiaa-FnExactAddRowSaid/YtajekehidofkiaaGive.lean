/- Rows if they are valid: both sides. -/
import Derived.Test.YtajekehidofkiaaClo
import Derived.Test.YtajekehidofkiaaGainI
import Derived.Test.YtajekehidofkiaaGain0
namespace Go.Proofs.Ytajekehidofkiaa
open Go.RowKit Go.ChangeShapes Go.WideShapes

def zeroR : Value := .agg #[.int .i64 0, .slice none 0 0, .slice none 0 0, .slice none 0 0]
/-- A box for a result that is rows: its cells may be written. -/
structure Res4 (w : World) (g : Nat) : Prop where
  c0 : ∃ u, w.cell? ⟨g, 0, none⟩ = some u
  c1 : ∃ u, w.cell? ⟨g, 1, none⟩ = some u
  c2 : ∃ u, w.cell? ⟨g, 2, none⟩ = some u
  c3 : ∃ u, w.cell? ⟨g, 3, none⟩ = some u
  free : ∀ i, w.frozen? ⟨g, i, none⟩ = false
theorem Res4.keep {B : Nat} {w w' : World} {g : Nat} (h : Res4 w g) (hb : Below B w w') (hg : g < B) : Res4 w' g :=
  ⟨by obtain ⟨u, hu⟩ := h.c0; exact ⟨u, keep_cell hu hb hg⟩, by obtain ⟨u, hu⟩ := h.c1; exact ⟨u, keep_cell hu hb hg⟩, by obtain ⟨u, hu⟩ := h.c2; exact ⟨u, keep_cell hu hb hg⟩, by obtain ⟨u, hu⟩ := h.c3; exact ⟨u, keep_cell hu hb hg⟩, fun i => by rw [hb.frozen (p := ⟨g, i, none⟩) hg]; exact h.free i⟩
def GivesR (v : Value) (b : Bool) (w : World) (e : Ending) (w' : World) : Prop := e = .returned (.tuple #[bif b then v else zeroR, .bool b]) ∧ Below w.heap.size w w'
set_option maxHeartbeats 2000000 in
theorem implGive_is (b : Bool) (v : Value) (R : Rw) (w : World) (hv : RV w v R) (hn : R.size ≤ 1048576) (hb : okR R = b) :
    Calls Try.prog 58 #[v] w (GivesR v b w) := by
  have HB := Lib.hid (fun A B => (below_alloc w A).alloc (by simp) B)
  have HV := Lib.hid hv
  have H1 := Lib.hid hb
  obtain ⟨s1, s2, s3, rfl, g1, g2, g3⟩ := hv
  obtain ⟨ao1, cap1, rfl⟩ := g1.long
  obtain ⟨ao2, cap2, rfl⟩ := g2.long
  obtain ⟨ao3, cap3, rfl⟩ := g3.long
  have HR : Hid (∀ A a b c d, Res4 ((w.alloc A).alloc (.cells #[a, b, c, d] 49)) (w.heap.size + 1)) := Lib.hid fun A a b c d => ⟨⟨a, by go_simp⟩, ⟨b, by go_simp⟩, ⟨c, by go_simp⟩, ⟨d, by go_simp⟩, fun i => by go_simp⟩
  have HX : Hid (∀ B, Box4 ((w.alloc (.cells #[.int .i64 R.vars, .slice ao1 R.N.length cap1, .slice ao2 R.B.length cap2, .slice ao3 R.G.length cap3] 49)).alloc B) w.heap.size (.int .i64 R.vars) (.slice ao1 R.N.length cap1) (.slice ao2 R.B.length cap2) (.slice ao3 R.G.length cap3)) := Lib.hid fun B => ⟨by go_simp, by go_simp, by go_simp, by go_simp⟩
  clear hb g1 g2 g3
  go_enter Try.func58, Try.ntmps58
  go_wp2_with fail
  go_at_call 56; refine (implValid_is b _ R _ (HV.out.below (HB.out _ _) (Nat.le_refl _)) hn H1.out).mono ?_; rintro e w1 ⟨rfl, bb⟩
  have hz1 : w.heap.size + 1 < w1.heap.size := by have := bb.size; simp at this; omega
  obtain ⟨⟨u0, g0⟩, ⟨u1, g1⟩, ⟨u2, g2⟩, ⟨u3, g3⟩, hf⟩ := (HR.out _ _ _ _ _).keep bb (by simp)
  obtain ⟨x0, x1, x2, x3⟩ := (HX.out _).keep bb (by simp; omega)
  have f0 := hf 0
  have f1 := hf 1
  have f2 := hf 2
  have f3 := hf 3
  have B1 := Lib.hid ((HB.out _ _).trans (bb.mono (by simp; omega)))
  have HZ1 := Lib.hid hz1
  clear bb hf
  cases b with
  | false =>
    go_wp2_with fail
    refine bodyPost_ret (v := .tuple #[zeroR, .bool false]) (by simp [results, Try.results58, g0, g1, g2, g3, go_sem, zeroR]) rfl ?_
    generalize hX : World.setCell _ _ _ = X
    have hT : Turned (w.heap.size + 1) (w.heap.size + 2) w1 X := by
      rw [← hX]
      repeat (refine Turned.setCell ?_ (by simp) (by simp) _)
      exact Turned.refl _ _ _
    clear hX
    exact ⟨rfl, B1.out.trans ((hT.below (Nat.le_of_lt HZ1.out)).mono (by omega))⟩
  | true =>
    go_wp2_with fail
    refine bodyPost_ret (v := .tuple #[.agg #[.int .i64 R.vars, .slice ao1 R.N.length cap1, .slice ao2 R.B.length cap2, .slice ao3 R.G.length cap3], .bool true]) (by simp [results, Try.results58, g0, g1, g2, g3, go_sem]) rfl ?_
    generalize hX : World.setCell _ _ _ = X
    have hT : Turned (w.heap.size + 1) (w.heap.size + 2) w1 X := by
      rw [← hX]
      repeat (refine Turned.setCell ?_ (by simp) (by simp) _)
      exact Turned.refl _ _ _
    clear hX
    exact ⟨rfl, B1.out.trans ((hT.below (Nat.le_of_lt HZ1.out)).mono (by omega))⟩
theorem l02Is_is' (b : Bool) (g : Nat) (s1 s2 s3 : Value) (R : Rw) (w : World) (h : RP w g s1 s2 s3 R) (hn : R.size ≤ 1048576) (hb : okR R = b) :
    Calls Try.prog 63 #[.pointer (some ⟨g, 0, none⟩)] w (Says b w) := (l02Is_is b g s1 s2 s3 R w h hn hb).mono fun _ _ ⟨h1, n, h2⟩ => ⟨h1, by rw [h2]; exact below_drewN (Below.refl _ _) n⟩
set_option maxHeartbeats 2000000 in
theorem specGive_is (b : Bool) (v : Value) (R : Rw) (w : World) (hv : RV w v R) (hn : R.size ≤ 1048576) (hb : okR R = b) :
    Calls Try.prog 55 #[v] w (GivesR v b w) := by
  have HB := Lib.hid (fun A B => (below_alloc w A).alloc (by simp) B)
  have HV := Lib.hid hv
  have H1 := Lib.hid hb
  obtain ⟨s1, s2, s3, rfl, g1, g2, g3⟩ := hv
  obtain ⟨ao1, cap1, rfl⟩ := g1.long
  obtain ⟨ao2, cap2, rfl⟩ := g2.long
  obtain ⟨ao3, cap3, rfl⟩ := g3.long
  have HR : Hid (∀ A a b c d, Res4 ((w.alloc A).alloc (.cells #[a, b, c, d] 49)) (w.heap.size + 1)) := Lib.hid fun A a b c d => ⟨⟨a, by go_simp⟩, ⟨b, by go_simp⟩, ⟨c, by go_simp⟩, ⟨d, by go_simp⟩, fun i => by go_simp⟩
  have HX : Hid (∀ B, Box4 ((w.alloc (.cells #[.int .i64 R.vars, .slice ao1 R.N.length cap1, .slice ao2 R.B.length cap2, .slice ao3 R.G.length cap3] 49)).alloc B) w.heap.size (.int .i64 R.vars) (.slice ao1 R.N.length cap1) (.slice ao2 R.B.length cap2) (.slice ao3 R.G.length cap3)) := Lib.hid fun B => ⟨by go_simp, by go_simp, by go_simp, by go_simp⟩
  have HP : Hid (∀ B, RP ((w.alloc (.cells #[.int .i64 R.vars, .slice ao1 R.N.length cap1, .slice ao2 R.B.length cap2, .slice ao3 R.G.length cap3] 49)).alloc B) w.heap.size (.slice ao1 R.N.length cap1) (.slice ao2 R.B.length cap2) (.slice ao3 R.G.length cap3) R) := Lib.hid fun B => ⟨by go_simp, by go_simp, by go_simp, by go_simp, g1.below (HB.out _ B) (Nat.le_refl _), g2.below (HB.out _ B) (Nat.le_refl _), g3.below (HB.out _ B) (Nat.le_refl _)⟩
  clear hb g1 g2 g3
  go_enter Try.func55, Try.ntmps55
  go_wp2_with fail
  go_at_call 63; refine (l02Is_is' b _ _ _ _ R _ (HP.out _) hn H1.out).mono ?_; rintro e w1 ⟨rfl, bb⟩
  have hz1 : w.heap.size + 1 < w1.heap.size := by have := bb.size; simp at this; omega
  obtain ⟨⟨u0, g0⟩, ⟨u1, g1⟩, ⟨u2, g2⟩, ⟨u3, g3⟩, hf⟩ := (HR.out _ _ _ _ _).keep bb (by simp)
  obtain ⟨x0, x1, x2, x3⟩ := (HX.out _).keep bb (by simp; omega)
  have f0 := hf 0
  have f1 := hf 1
  have f2 := hf 2
  have f3 := hf 3
  have B1 := Lib.hid ((HB.out _ _).trans (bb.mono (by simp; omega)))
  have HZ1 := Lib.hid hz1
  clear bb hf
  cases b with
  | false =>
    go_wp2_with fail
    refine bodyPost_ret (v := .tuple #[zeroR, .bool false]) (by simp [results, Try.results55, g0, g1, g2, g3, go_sem, zeroR]) rfl ?_
    generalize hX : World.setCell _ _ _ = X
    have hT : Turned (w.heap.size + 1) (w.heap.size + 2) w1 X := by
      rw [← hX]
      repeat (refine Turned.setCell ?_ (by simp) (by simp) _)
      exact Turned.refl _ _ _
    clear hX
    exact ⟨rfl, B1.out.trans ((hT.below (Nat.le_of_lt HZ1.out)).mono (by omega))⟩
  | true =>
    go_wp2_with fail
    refine bodyPost_ret (v := .tuple #[.agg #[.int .i64 R.vars, .slice ao1 R.N.length cap1, .slice ao2 R.B.length cap2, .slice ao3 R.G.length cap3], .bool true]) (by simp [results, Try.results55, g0, g1, g2, g3, go_sem]) rfl ?_
    generalize hX : World.setCell _ _ _ = X
    have hT : Turned (w.heap.size + 1) (w.heap.size + 2) w1 X := by
      rw [← hX]
      repeat (refine Turned.setCell ?_ (by simp) (by simp) _)
      exact Turned.refl _ _ _
    clear hX
    exact ⟨rfl, B1.out.trans ((hT.below (Nat.le_of_lt HZ1.out)).mono (by omega))⟩
end Go.Proofs.Ytajekehidofkiaa
