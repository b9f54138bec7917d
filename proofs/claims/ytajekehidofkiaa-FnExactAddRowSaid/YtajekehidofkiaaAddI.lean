/- A row more: the program's side. -/
import Derived.Test.YtajekehidofkiaaAdd
import Derived.Test.YtajekehidofkiaaConc
import Derived.Test.YtajekehidofkiaaGainI
namespace Go.Proofs.Ytajekehidofkiaa
open Go.RowKit Go.ChangeShapes Go.WideShapes

set_option maxHeartbeats 2000000 in
theorem implAdd_no1 (v : Value) (R : Rw) (u : Value) (X : List Nat) (y : Nat) (w : World) (hv : RV w v R) (hu : SL w u X) (hn : R.size ≤ 1048576) (hf : okR R = false) :
    Calls Try.prog 30 #[v, u, .float .f32 y] w (SaysRB ⟨0, [], [], []⟩ false w) := by
  have HB := Lib.hid (fun A B => (below_alloc w A).alloc (by simp) B)
  have HV := Lib.hid hv
  have HF := Lib.hid hf
  obtain ⟨s1, s2, s3, rfl, g1, g2, g3⟩ := hv
  obtain ⟨ao1, cap1, rfl⟩ := g1.long
  obtain ⟨ao2, cap2, rfl⟩ := g2.long
  obtain ⟨ao3, cap3, rfl⟩ := g3.long
  obtain ⟨ax, cx, rfl⟩ := hu.long
  have HR : Hid (∀ A a b c d, Res4 ((w.alloc A).alloc (.cells #[a, b, c, d] 49)) (w.heap.size + 1)) := Lib.hid fun A a b c d => ⟨⟨a, by go_simp⟩, ⟨b, by go_simp⟩, ⟨c, by go_simp⟩, ⟨d, by go_simp⟩, fun i => by go_simp⟩
  clear hf g1 g2 g3 hu
  go_enter Try.func30, Try.ntmps30
  go_wp2_with fail
  go_at_call 56; refine (implValid_is false _ R _ (HV.out.below (HB.out _ _) (Nat.le_refl _)) hn HF.out).mono ?_; rintro e w1 ⟨rfl, bb⟩
  have hs1 : w.heap.size + 1 < w1.heap.size := by have := bb.size; simp at this; omega
  obtain ⟨⟨u0, g0⟩, ⟨u1, g1⟩, ⟨u2, g2⟩, ⟨u3, g3⟩, hf⟩ := (HR.out _ _ _ _ _).keep bb (by simp)
  have f0 := hf 0
  have f1 := hf 1
  have f2 := hf 2
  have f3 := hf 3
  have B1 := Lib.hid ((HB.out _ _).trans (bb.mono (by simp; omega)))
  have HZ1 := Lib.hid hs1
  clear bb hf
  go_wp2_with fail
  refine bodyPost_ret (v := .tuple #[zeroR, .bool false]) (by simp [results, Try.results30, g0, g1, g2, g3, go_sem, zeroR]) rfl ?_
  generalize hX : World.setCell _ _ _ = Y6
  have hT : Turned (w.heap.size + 1) (w.heap.size + 2) w1 Y6 := by
    rw [← hX]
    repeat (refine Turned.setCell ?_ (by simp) (by simp) _)
    exact Turned.refl _ _ _
  clear hX
  have hlt := HZ1.out
  have hs := hT.size
  exact ⟨_, rfl, (zeroR_rd (by omega)).rt, B1.out.trans ((hT.below (Nat.le_of_lt HZ1.out)).mono (by omega))⟩
set_option maxHeartbeats 2000000 in
theorem implAdd_no2 (v : Value) (R : Rw) (u : Value) (X : List Nat) (y : Nat) (w : World) (hv : RV w v R) (hu : SL w u X) (hn : R.size ≤ 1048576) (hx : X.length ≤ 1048576) (hf : okR R = true) (hp : finN R.vars X = false) :
    Calls Try.prog 30 #[v, u, .float .f32 y] w (SaysRB ⟨0, [], [], []⟩ false w) := by
  have HB := Lib.hid (fun A B => (below_alloc w A).alloc (by simp) B)
  have HV := Lib.hid hv
  have HU := Lib.hid hu
  have HF := Lib.hid hf
  have HP := Lib.hid hp
  have HRV : Hid (1 ≤ R.vars ∧ R.vars ≤ 8) := Lib.hid ⟨((okR_iff R).1 hf).v1, ((okR_iff R).1 hf).v2⟩
  obtain ⟨s1, s2, s3, rfl, g1, g2, g3⟩ := hv
  obtain ⟨ao1, cap1, rfl⟩ := g1.long
  obtain ⟨ao2, cap2, rfl⟩ := g2.long
  obtain ⟨ao3, cap3, rfl⟩ := g3.long
  obtain ⟨ax, cx, rfl⟩ := hu.long
  have HR : Hid (∀ A a b c d, Res4 ((w.alloc A).alloc (.cells #[a, b, c, d] 49)) (w.heap.size + 1)) := Lib.hid fun A a b c d => ⟨⟨a, by go_simp⟩, ⟨b, by go_simp⟩, ⟨c, by go_simp⟩, ⟨d, by go_simp⟩, fun i => by go_simp⟩
  have HX : Hid (∀ B, Box4 ((w.alloc (.cells #[.int .i64 R.vars, .slice ao1 R.N.length cap1, .slice ao2 R.B.length cap2, .slice ao3 R.G.length cap3] 49)).alloc B) w.heap.size (.int .i64 R.vars) (.slice ao1 R.N.length cap1) (.slice ao2 R.B.length cap2) (.slice ao3 R.G.length cap3)) := Lib.hid fun B => ⟨by go_simp, by go_simp, by go_simp, by go_simp⟩
  clear hf g1 g2 g3 hu hp
  go_enter Try.func30, Try.ntmps30
  go_wp2_with fail
  go_at_call 56; refine (implValid_is true _ R _ (HV.out.below (HB.out _ _) (Nat.le_refl _)) hn HF.out).mono ?_; rintro e w1 ⟨rfl, bb⟩
  have hs1 : w.heap.size + 1 < w1.heap.size := by have := bb.size; simp at this; omega
  have R1 := Lib.hid ((HR.out _ _ _ _ _).keep bb (by simp))
  have X1 := Lib.hid ((HX.out _).keep bb (by simp; omega))
  have B1 := Lib.hid ((HB.out _ _).trans (bb.mono (by simp; omega)))
  obtain ⟨c0, c1, c2, c3⟩ := X1.out
  clear bb
  go_wp2_with fail
  clear c0 c1 c2 c3
  go_at_call 57; refine (isPoint_any _ R _ X _ (HV.out.below B1.out (Nat.le_refl _)) (HU.out.below B1.out (Nat.le_refl _)) hx false HP.out HRV.out).mono ?_; rintro e w2 ⟨rfl, bb⟩
  obtain ⟨⟨u0, g0⟩, ⟨u1, g1⟩, ⟨u2, g2⟩, ⟨u3, g3⟩, hf⟩ := R1.out.keep bb hs1
  have f0 := hf 0
  have f1 := hf 1
  have f2 := hf 2
  have f3 := hf 3
  have B2 := Lib.hid (B1.out.trans (bb.mono (by omega)))
  have HZ2 := Lib.hid (show w.heap.size + 1 < w2.heap.size from Nat.lt_of_lt_of_le hs1 bb.size)
  clear bb hf
  go_wp2_with fail
  refine bodyPost_ret (v := .tuple #[zeroR, .bool false]) (by simp [results, Try.results30, g0, g1, g2, g3, go_sem, zeroR]) rfl ?_
  generalize hX : World.setCell _ _ _ = Y6
  have hT : Turned (w.heap.size + 1) (w.heap.size + 2) w2 Y6 := by
    rw [← hX]
    repeat (refine Turned.setCell ?_ (by simp) (by simp) _)
    exact Turned.refl _ _ _
  clear hX
  have hlt := HZ2.out
  have hs := hT.size
  exact ⟨_, rfl, (zeroR_rd (by omega)).rt, B2.out.trans ((hT.below (Nat.le_of_lt HZ2.out)).mono (by omega))⟩
end Go.Proofs.Ytajekehidofkiaa
