/- A row more: the program's way to its end, where the rows are not valid. -/
import Derived.Test.YtajekehidofkiaaAddR0
import Derived.Deep.RegionHeld3
namespace Go.Proofs.Ytajekehidofkiaa
open Go.RowKit Go.ChangeShapes Go.WideShapes

set_option maxRecDepth 100000 in
set_option maxHeartbeats 8000000 in
theorem implAdd_bad (v : Value) (R : Rw) (u : Value) (X : List Nat) (y : Nat) (w : World) (hv : RV w v R) (hu : SL w u X) (hn : R.size ≤ 1048576) (hx : X.length ≤ 1048576) (hf : okR R = true) (hp : finN R.vars X = true) (hb : okR (addR R X y) = false) :
    Calls Try.prog 30 #[v, u, .float .f32 y] w (SaysRB ⟨0, [], [], []⟩ false w) := by
  have HB := Lib.hid (fun A B => (below_alloc w A).alloc (by simp) B)
  have HV := Lib.hid hv
  have HU := Lib.hid hu
  have HF := Lib.hid hf
  have HP := Lib.hid hp
  have ok := (okR_iff R).1 hf
  have HRV : Hid (1 ≤ R.vars ∧ R.vars ≤ 8) := Lib.hid ⟨ok.v1, ok.v2⟩
  obtain ⟨nN, nB, nG, nX⟩ := add_lens hf hp
  obtain ⟨s1, s2, s3, rfl, g1, g2, g3⟩ := hv
  obtain ⟨ad1, cap1, rfl, l1⟩ := g1.liesC nN.1
  obtain ⟨ad2, cap2, rfl, l2⟩ := g2.liesC nB.1
  obtain ⟨ad3, cap3, rfl, l3⟩ := g3.liesC nG.1
  obtain ⟨adx, cx, rfl, lx⟩ := hu.liesC nX.1
  have HR : Hid (∀ A a b c d, Res4 ((w.alloc A).alloc (.cells #[a, b, c, d] 49)) (w.heap.size + 1)) := Lib.hid fun A a b c d => ⟨⟨a, by go_simp⟩, ⟨b, by go_simp⟩, ⟨c, by go_simp⟩, ⟨d, by go_simp⟩, fun i => by go_simp⟩
  have HX : Hid (∀ B, Box4 ((w.alloc (.cells #[.int .i64 R.vars, .slice (some ad1) R.N.length cap1, .slice (some ad2) R.B.length cap2, .slice (some ad3) R.G.length cap3] 49)).alloc B) w.heap.size (.int .i64 R.vars) (.slice (some ad1) R.N.length cap1) (.slice (some ad2) R.B.length cap2) (.slice (some ad3) R.G.length cap3)) := Lib.hid fun B => ⟨by go_simp, by go_simp, by go_simp, by go_simp⟩
  have C1 := Lib.hid (fun W gA h0 h1 (hW : Below w.heap.size w W) => concat2_any gA ad1 adx cap1 cx R.N X W ⟨h0, h1⟩ (l1.below hW) (lx.below hW) (by omega) (by omega) (by omega))
  have C2 := Lib.hid (fun W gB (h0 : W.cell? ⟨gB, 0, none⟩ = some (.slice (some ad2) R.B.length cap2)) (h1 : ∃ gy, W.cell? ⟨gB, 1, none⟩ = some (.slice (some ⟨gy, 0, none⟩) 1 1) ∧ W.cell? ⟨gy, 0, none⟩ = some (.float .f32 y)) (hW : Below w.heap.size w W) => concat2_y gB ad2 cap2 R.B y W h0 h1 (l2.below hW) (by omega) nB.1)
  have G3 := Lib.hid g3
  have CL := Lib.hid (fun W (hW : Below w.heap.size w W) => cloneF_any (.slice (some ad3) R.G.length cap3) R.G W (G3.out.below hW (Nat.le_refl _)) (by omega))
  have GV := Lib.hid (fun v W h => GivesR.no (implGive_is false v (addR R X y) W h (by show (R.N ++ X).length + (R.B ++ [y]).length + R.G.length ≤ 1048576; rw [List.length_append, List.length_append]; show _ + _ + (_ + 1) + _ ≤ _; omega) hb))
  have HN : addR R X y = ⟨R.vars, R.N ++ X, R.B ++ [y], R.G⟩ := rfl
  clear hf g1 g2 g3 hu hp hb ok l1 l2 l3 lx
  rw [HN] at GV
  clear HN
  generalize R.N ++ X = L1 at *
  generalize R.B ++ [y] = L2 at *
  go_enter Try.func30, Try.ntmps30
  go_wp2_with fail
  go_at_call 56; refine (implValid_is true _ R _ (HV.out.below (HB.out _ _) (Nat.le_refl _)) hn HF.out).mono ?_; rintro e w1 ⟨rfl, bb⟩
  have hs1 : w.heap.size + 1 < w1.heap.size := by have := bb.size; simp at this; omega
  have R1 := Lib.hid ((HR.out _ _ _ _ _).keep bb (by simp))
  have X1 := Lib.hid ((HX.out _).keep bb (by simp; omega))
  have B1 := Lib.hid ((HB.out _ _).trans (bb.mono (by simp; omega)))
  obtain ⟨c0, c1, c2, c3⟩ := X1.out
  clear bb HR HX HB
  go_wp2_with fail
  clear c0 c1 c2 c3
  go_at_call 57; refine (isPoint_any _ R _ X _ (HV.out.below B1.out (Nat.le_refl _)) (HU.out.below B1.out (Nat.le_refl _)) hx true HP.out HRV.out).mono ?_; rintro e w2 ⟨rfl, bb⟩
  have R2 := Lib.hid (R1.out.keep bb hs1)
  have X2 := Lib.hid (X1.out.keep bb (by omega))
  have B2 := Lib.hid (B1.out.trans (bb.mono (by omega)))
  have hs2 : w.heap.size + 1 < w2.heap.size := Nat.lt_of_lt_of_le hs1 bb.size
  clear bb R1 X1 B1 HV HU HF HP HRV hx hn hs1
  have H0 : Hid (Below w2.heap.size w2 (w2.drewN 1)) := Lib.hid (below_drewN (Below.refl _ _) 1)
  have HS : Hid (∀ W, Below w2.heap.size w2 W → W.cell? ⟨w.heap.size, 0, none⟩ = some (.int .i64 R.vars) ∧ W.cell? ⟨w.heap.size, 1, none⟩ = some (.slice (some ad1) R.N.length cap1) ∧ W.cell? ⟨w.heap.size, 2, none⟩ = some (.slice (some ad2) R.B.length cap2) ∧ W.cell? ⟨w.heap.size, 3, none⟩ = some (.slice (some ad3) R.G.length cap3)) := Lib.hid fun W h => by
    obtain ⟨c0, c1, c2, c3⟩ := X2.out.keep h (by omega)
    exact ⟨c0, c1, c2, c3⟩
  have HSS : Hid (∀ W a b c d, Below w2.heap.size w2 W → ((((W.setCell ⟨w.heap.size + 1, 0, none⟩ a).setCell ⟨w.heap.size + 1, 1, none⟩ b).setCell ⟨w.heap.size + 1, 2, none⟩ c).setCell ⟨w.heap.size + 1, 3, none⟩ d).cell? ⟨w.heap.size, 0, none⟩ = some (.int .i64 R.vars) ∧ ((((W.setCell ⟨w.heap.size + 1, 0, none⟩ a).setCell ⟨w.heap.size + 1, 1, none⟩ b).setCell ⟨w.heap.size + 1, 2, none⟩ c).setCell ⟨w.heap.size + 1, 3, none⟩ d).cell? ⟨w.heap.size, 1, none⟩ = some (.slice (some ad1) R.N.length cap1) ∧ ((((W.setCell ⟨w.heap.size + 1, 0, none⟩ a).setCell ⟨w.heap.size + 1, 1, none⟩ b).setCell ⟨w.heap.size + 1, 2, none⟩ c).setCell ⟨w.heap.size + 1, 3, none⟩ d).cell? ⟨w.heap.size, 2, none⟩ = some (.slice (some ad2) R.B.length cap2) ∧ ((((W.setCell ⟨w.heap.size + 1, 0, none⟩ a).setCell ⟨w.heap.size + 1, 1, none⟩ b).setCell ⟨w.heap.size + 1, 2, none⟩ c).setCell ⟨w.heap.size + 1, 3, none⟩ d).cell? ⟨w.heap.size, 3, none⟩ = some (.slice (some ad3) R.G.length cap3)) := Lib.hid fun W a b c d h => by
    obtain ⟨c0, c1, c2, c3⟩ := HS.out W h
    exact ⟨by go_simp, by go_simp, by go_simp, by go_simp⟩
  have BW : Hid (∀ W, Below w2.heap.size w2 W → Below w.heap.size w W) := Lib.hid fun W h => B2.out.trans (h.mono B2.out.size)
  have q0 := HS.out _ (Below.refl _ _)
  go_upto_region 3 with fail
  go_region_held3 (fun w' => w'.cell? ⟨w.heap.size, 0, none⟩ = some (.int .i64 R.vars) ∧ w'.cell? ⟨w.heap.size, 1, none⟩ = some (.slice (some ad1) R.N.length cap1) ∧ w'.cell? ⟨w.heap.size, 2, none⟩ = some (.slice (some ad2) R.B.length cap2) ∧ w'.cell? ⟨w.heap.size, 3, none⟩ = some (.slice (some ad3) R.G.length cap3)) (first | exact q0 | exact HS.out _ (by first | exact H0.out | exact H4.out | exact H5.out | exact H6.out | exact BT1 H0.out _ | exact BT2 H0.out _ _ | exact BT3 H0.out _ _ _ | exact BT1 H4.out _ | exact BT2 H4.out _ _) | exact HS.out _ H7.out | exact HSS.out _ _ _ _ _ H7.out) (first
    | (go_at_call 58; refine (GV.out _ _ I6.out.rv).mono ?_; rintro e w7 ⟨rfl, b⟩; have H7 := Lib.hid (H6.out.trans (b.mono H6.out.size)); have K7 := Lib.hid b; obtain ⟨⟨u0, r0⟩, ⟨u1, r1⟩, ⟨u2, r2⟩, ⟨u3, r3⟩, hfr⟩ := R2.out.keep H7.out hs2; have p0 := hfr 0; have p1 := hfr 1; have p2 := hfr 2; have p3 := hfr 3; clear b hfr)
    | (go_at_call 60; refine (CL.out _ (BW.out _ H5.out)).mono ?_; rintro e w6 ⟨v3, rfl, i, b⟩; obtain ⟨x3, y3, rfl⟩ := SI.len i; have H6 := Lib.hid (H5.out.trans (b.mono H5.out.size)); have I6 := Lib.hid (rd_made (n := R.vars) J4.out J5.out i E4.out E5.out b); clear b i)
    | (go_at_call 59; refine (C2.out _ _ ?h0 ?h1 (BW.out _ (by first | exact H4.out | exact BT1 H4.out _ | exact BT2 H4.out _ _))).mono ?_; (case h0 => (first | (go_simp <;> fail) | (refine keep_cell ?_ K4.out ?_; (go_simp <;> fail); (first | (simp <;> fail) | (simp; omega))) | (refine keep_cell (keep_cell ?_ K4.out ?_) (below_alloc w4 _) ?_; (go_simp <;> fail); (first | (simp <;> fail) | (simp; omega)); (have := K4.out.size; simp at this ⊢; omega)))); (case h1 => (first | (refine ⟨w2.heap.size, ?_, ?_⟩; (first | (go_simp <;> fail) | (refine keep_cell ?_ K4.out ?_; (go_simp <;> fail); (first | (simp <;> fail) | (simp; omega))) | (refine keep_cell (keep_cell ?_ K4.out ?_) (below_alloc w4 _) ?_; (go_simp <;> fail); (first | (simp <;> fail) | (simp; omega)); (have := K4.out.size; simp at this ⊢; omega))); (first | (go_simp <;> fail) | (refine keep_cell ?_ K4.out ?_; (go_simp <;> fail); (first | (simp <;> fail) | (simp; omega))) | (refine keep_cell (keep_cell ?_ K4.out ?_) (below_alloc w4 _) ?_; (go_simp <;> fail); (first | (simp <;> fail) | (simp; omega)); (have := K4.out.size; simp at this ⊢; omega)))) | (refine ⟨w2.heap.size + 1, ?_, ?_⟩; (first | (go_simp <;> fail) | (refine keep_cell ?_ K4.out ?_; (go_simp <;> fail); (first | (simp <;> fail) | (simp; omega))) | (refine keep_cell (keep_cell ?_ K4.out ?_) (below_alloc w4 _) ?_; (go_simp <;> fail); (first | (simp <;> fail) | (simp; omega)); (have := K4.out.size; simp at this ⊢; omega))); (first | (go_simp <;> fail) | (refine keep_cell ?_ K4.out ?_; (go_simp <;> fail); (first | (simp <;> fail) | (simp; omega))) | (refine keep_cell (keep_cell ?_ K4.out ?_) (below_alloc w4 _) ?_; (go_simp <;> fail); (first | (simp <;> fail) | (simp; omega)); (have := K4.out.size; simp at this ⊢; omega)))) | (refine ⟨w4.heap.size, ?_, ?_⟩; (first | (go_simp <;> fail) | (refine keep_cell ?_ K4.out ?_; (go_simp <;> fail); (first | (simp <;> fail) | (simp; omega))) | (refine keep_cell (keep_cell ?_ K4.out ?_) (below_alloc w4 _) ?_; (go_simp <;> fail); (first | (simp <;> fail) | (simp; omega)); (have := K4.out.size; simp at this ⊢; omega))); (first | (go_simp <;> fail) | (refine keep_cell ?_ K4.out ?_; (go_simp <;> fail); (first | (simp <;> fail) | (simp; omega))) | (refine keep_cell (keep_cell ?_ K4.out ?_) (below_alloc w4 _) ?_; (go_simp <;> fail); (first | (simp <;> fail) | (simp; omega)); (have := K4.out.size; simp at this ⊢; omega)))) | (refine ⟨w4.heap.size + 1, ?_, ?_⟩; (first | (go_simp <;> fail) | (refine keep_cell ?_ K4.out ?_; (go_simp <;> fail); (first | (simp <;> fail) | (simp; omega))) | (refine keep_cell (keep_cell ?_ K4.out ?_) (below_alloc w4 _) ?_; (go_simp <;> fail); (first | (simp <;> fail) | (simp; omega)); (have := K4.out.size; simp at this ⊢; omega))); (first | (go_simp <;> fail) | (refine keep_cell ?_ K4.out ?_; (go_simp <;> fail); (first | (simp <;> fail) | (simp; omega))) | (refine keep_cell (keep_cell ?_ K4.out ?_) (below_alloc w4 _) ?_; (go_simp <;> fail); (first | (simp <;> fail) | (simp; omega)); (have := K4.out.size; simp at this ⊢; omega)))))); rintro e w5 ⟨v2, rfl, i, b⟩; obtain ⟨x2, y2, rfl⟩ := SI.len i; have H5 := Lib.hid (Below.trans (by first | exact H4.out | exact BT1 H4.out _ | exact BT2 H4.out _ _ : Below w2.heap.size w2 _) (b.mono (by first | exact H4.out.size | exact (BT1 H4.out _).size | exact (BT2 H4.out _ _).size))); have J5 := Lib.hid (SI.wide (lo' := w4.heap.size) i (by first | exact Nat.le_refl _ | (simp; done) | (simp; omega)) (Nat.le_refl _) (Nat.le_refl _)); have E5 := Lib.hid (Below.trans (by first | exact Below.refl _ _ | exact below_alloc w4 _ | exact BT1 (below_alloc w4 _) _ : Below w4.heap.size w4 _) (b.mono (by first | exact Nat.le_refl _ | (simp; done) | (simp; omega)))); clear b i)
    | (go_at_call 59; refine (C1.out _ _ (by first | (go_simp; done) | go_simp) (by first | (go_simp; done) | go_simp) (BW.out _ (by first | exact H0.out | exact BT1 H0.out _ | exact BT2 H0.out _ _ | exact BT3 H0.out _ _ _))).mono ?_; rintro e w4 ⟨v1, rfl, i, b⟩; obtain ⟨x1, y1, rfl⟩ := SI.len i; have K4 := Lib.hid b; have H4 := Lib.hid (Below.trans ((by first | exact H0.out | exact BT1 H0.out _ | exact BT2 H0.out _ _ | exact BT3 H0.out _ _ _) : Below w2.heap.size w2 _) (b.mono (Below.size ((by first | exact H0.out | exact BT1 H0.out _ | exact BT2 H0.out _ _ | exact BT3 H0.out _ _ _) : Below w2.heap.size w2 _)))); have J4 := Lib.hid (SI.wide (lo' := w2.heap.size) i (Below.size ((by first | exact H0.out | exact BT1 H0.out _ | exact BT2 H0.out _ _ | exact BT3 H0.out _ _ _) : Below w2.heap.size w2 _)) (Nat.le_refl _) (Nat.le_refl _)); have E4 := Lib.hid H4.out.size; clear b i))
  all_goals
    go_wp2_with fail
    refine bodyPost_ret (v := .tuple #[zeroR, .bool false]) (by simp [results, Try.results30, r0, r1, r2, r3, go_sem, zeroR]) rfl ?_
    generalize hX : World.setCell _ _ _ = Y6
    have hT : Turned (w.heap.size + 1) (w.heap.size + 2) w7 Y6 := by
      rw [← hX]
      repeat (refine Turned.setCell ?_ (by simp) (by simp) _)
      exact Turned.refl _ _ _
    clear hX
    have hs := hT.size
    have hz := H7.out.size
    exact ⟨_, rfl, (zeroR_rd (by omega)).rt, (BW.out _ H7.out).trans ((hT.below (by omega)).mono (by omega))⟩
end Go.Proofs.Ytajekehidofkiaa
