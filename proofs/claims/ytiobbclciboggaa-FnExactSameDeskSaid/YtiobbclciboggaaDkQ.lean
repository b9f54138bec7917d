/- SameDesk: the model. -/
import Derived.Test.YtiobbclciboggaaDkS
import Derived.Deep.QuietTactic
namespace Go.Proofs.Ytiobbclciboggaa
open Go.RowKit Go.ChangeShapes Go.WideShapes
attribute [local go_sem high] run_neqA run_eqJob run_guardA

set_option maxRecDepth 100000 in
set_option maxHeartbeats 8000000 in
theorem specSameDesk_any (v : Value) (A : Dk) (u : Value) (B : Dk) (w : World) (hv : DkV w v A) (hu : DkV w u B) (oA : OKDk A) (oB : OKDk B) :
    Calls Try.prog 51 #[v, u] w (Says (sameDk A B) w) := by
  obtain ⟨n1, n2, n3, o4⟩ := desk_ok2 oA
  obtain ⟨m1, m2, m3, p4⟩ := desk_ok2 oB
  have oRA : OKR A.rows := ⟨n1, oA.fit.1⟩
  have oRB : OKR B.rows := ⟨m1, oB.fit.1⟩
  obtain ⟨s1, s2, s3, z, j, y, rfl, g1, g2, g3, g4, g5, g6⟩ := hv
  obtain ⟨ja, jc, rfl⟩ := g5.long
  obtain ⟨u1, u2, u3, z', j', y', rfl, k1, k2, k3, k4, k5, k6⟩ := hu
  obtain ⟨ja', jc', rfl⟩ := k5.long
  have G0 : Hid (∀ W, Below w.heap.size w W → RV W (.agg #[.int .i64 A.rows.vars, s1, s2, s3]) A.rows ∧ RV W (.agg #[.int .i64 B.rows.vars, u1, u2, u3]) B.rows) := Lib.hid fun W h =>
    ⟨⟨s1, s2, s3, rfl, g1.below h (Nat.le_refl _), g2.below h (Nat.le_refl _), g3.below h (Nat.le_refl _)⟩, ⟨u1, u2, u3, rfl, k1.below h (Nat.le_refl _), k2.below h (Nat.le_refl _), k3.below h (Nat.le_refl _)⟩⟩
  have GS : Hid (∀ W, Below w.heap.size w W → (SL W s1 A.rows.N ∧ SL W s2 A.rows.B ∧ SL W s3 A.rows.G) ∧ SL W u1 B.rows.N ∧ SL W u2 B.rows.B ∧ SL W u3 B.rows.G) := Lib.hid fun W h =>
    ⟨⟨g1.below h (Nat.le_refl _), g2.below h (Nat.le_refl _), g3.below h (Nat.le_refl _)⟩, k1.below h (Nat.le_refl _), k2.below h (Nat.le_refl _), k3.below h (Nat.le_refl _)⟩
  have G4 : Hid (∀ W, Below w.heap.size w W → IL W z A.sizes ∧ IL W z' B.sizes) := Lib.hid fun W h => ⟨g4.below h (Nat.le_refl _), k4.below h (Nat.le_refl _)⟩
  have G5 : Hid (∀ W, Below w.heap.size w W → AV W (.slice ja A.jobs.length jc) A.jobs ∧ AV W (.slice ja' B.jobs.length jc') B.jobs) := Lib.hid fun W h => ⟨g5.below h (Nat.le_refl _), k5.below h (Nat.le_refl _)⟩
  have G6 : Hid (∀ W, Below w.heap.size w W → IL W y A.ways ∧ IL W y' B.ways) := Lib.hid fun W h => ⟨g6.below h (Nat.le_refl _), k6.below h (Nat.le_refl _)⟩
  have HB0 : Hid (∀ P Q, Below w.heap.size w ((w.alloc P).alloc Q)) := Lib.hid (fun P Q => (below_alloc w P).alloc (by simp) Q)
  have X0 : Hid (∀ Q, Box7 ((w.alloc (.cells #[.int .i64 A.rows.vars, s1, s2, s3, z, .slice ja A.jobs.length jc, y] 56)).alloc Q) w.heap.size (.int .i64 A.rows.vars) s1 s2 s3 z (.slice ja A.jobs.length jc) y) := Lib.hid (fun Q => (Box7.mk' w (.int .i64 A.rows.vars) s1 s2 s3 z (.slice ja A.jobs.length jc) y 56).keep (below_alloc _ Q) (by simp))
  have Y0 : Hid (∀ P, Box7 ((w.alloc P).alloc (.cells #[.int .i64 B.rows.vars, u1, u2, u3, z', .slice ja' B.jobs.length jc', y'] 56)) (w.heap.size + 1) (.int .i64 B.rows.vars) u1 u2 u3 z' (.slice ja' B.jobs.length jc') y') := Lib.hid (fun P => by
    have h := Box7.mk' (w.alloc P) (.int .i64 B.rows.vars) u1 u2 u3 z' (.slice ja' B.jobs.length jc') y' 56
    rw [show (w.alloc P).heap.size = w.heap.size + 1 by simp] at h
    exact h)
  obtain ⟨t1, h1⟩ : ∃ t, sameR A.rows B.rows = t := ⟨_, rfl⟩
  obtain ⟨t2, h2⟩ : ∃ t, sameI A.sizes B.sizes = t := ⟨_, rfl⟩
  obtain ⟨t3, h3⟩ : ∃ t, sameA A.jobs B.jobs = t := ⟨_, rfl⟩
  obtain ⟨t4, h4⟩ : ∃ t, sameI A.ways B.ways = t := ⟨_, rfl⟩
  have e : sameDk A B = (t1 && (t2 && (t3 && t4))) := by unfold sameDk; rw [h1, h2, h3, h4]
  rw [e]
  have T1 := Lib.hid h1
  have T2 := Lib.hid h2
  have T3 := Lib.hid h3
  have T4 := Lib.hid h4
  have GA := Lib.hid g5
  have GB := Lib.hid k5
  clear g1 g2 g3 g4 g5 g6 k1 k2 k3 k4 k5 k6 oA oB e h1 h2 h3 h4
  cases t1 with
  | false =>
    go_enter Try.func51, Try.ntmps51
    go_wp2_with fail
    go_at_call 93; refine (l02Same_any _ _ _ w.heap.size (w.heap.size + 1) s1 s2 s3 u1 u2 u3 A.rows B.rows _ ((X0.out _).rp2 (GS.out _ (HB0.out _ _)).1) ((Y0.out _).rp2 (GS.out _ (HB0.out _ _)).2) oRA oRB rfl rfl rfl).mono ?_; rintro e w1 ⟨rfl, m1', rfl⟩
    rw [T1.out]
    have H1 := Lib.hid (below_drewN (HB0.out (.cells #[.int .i64 A.rows.vars, s1, s2, s3, z, .slice ja A.jobs.length jc, y] 56) (.cells #[.int .i64 B.rows.vars, u1, u2, u3, z', .slice ja' B.jobs.length jc', y'] 56)) (m1'))
    have X1 := Lib.hid ((X0.out (.cells #[.int .i64 B.rows.vars, u1, u2, u3, z', .slice ja' B.jobs.length jc', y'] 56)).keep (below_drewN (Below.refl _ _) (m1')) (X0.out (.cells #[.int .i64 B.rows.vars, u1, u2, u3, z', .slice ja' B.jobs.length jc', y'] 56)).lt)
    have Y1 := Lib.hid ((Y0.out (.cells #[.int .i64 A.rows.vars, s1, s2, s3, z, .slice ja A.jobs.length jc, y] 56)).keep (below_drewN (Below.refl _ _) (m1')) (Y0.out (.cells #[.int .i64 A.rows.vars, s1, s2, s3, z, .slice ja A.jobs.length jc, y] 56)).lt)
    obtain ⟨c0, c1, c2, c3, c4, c5, c6⟩ := X1.out
    obtain ⟨d0, d1, d2, d3, d4, d5, d6⟩ := Y1.out
    go_wp2_with fail
    go_ret
    exact says (by simp) H1.out
  | true =>
    cases t2 with
    | false =>
      go_enter Try.func51, Try.ntmps51
      go_wp2_with fail
      go_at_call 93; refine (l02Same_any _ _ _ w.heap.size (w.heap.size + 1) s1 s2 s3 u1 u2 u3 A.rows B.rows _ ((X0.out _).rp2 (GS.out _ (HB0.out _ _)).1) ((Y0.out _).rp2 (GS.out _ (HB0.out _ _)).2) oRA oRB rfl rfl rfl).mono ?_; rintro e w1 ⟨rfl, m1', rfl⟩
      rw [T1.out]
      have H1 := Lib.hid (below_drewN (HB0.out (.cells #[.int .i64 A.rows.vars, s1, s2, s3, z, .slice ja A.jobs.length jc, y] 56) (.cells #[.int .i64 B.rows.vars, u1, u2, u3, z', .slice ja' B.jobs.length jc', y'] 56)) (m1'))
      have X1 := Lib.hid ((X0.out (.cells #[.int .i64 B.rows.vars, u1, u2, u3, z', .slice ja' B.jobs.length jc', y'] 56)).keep (below_drewN (Below.refl _ _) (m1')) (X0.out (.cells #[.int .i64 B.rows.vars, u1, u2, u3, z', .slice ja' B.jobs.length jc', y'] 56)).lt)
      have Y1 := Lib.hid ((Y0.out (.cells #[.int .i64 A.rows.vars, s1, s2, s3, z, .slice ja A.jobs.length jc, y] 56)).keep (below_drewN (Below.refl _ _) (m1')) (Y0.out (.cells #[.int .i64 A.rows.vars, s1, s2, s3, z, .slice ja A.jobs.length jc, y] 56)).lt)
      obtain ⟨c0, c1, c2, c3, c4, c5, c6⟩ := X1.out
      obtain ⟨d0, d1, d2, d3, d4, d5, d6⟩ := Y1.out
      go_wp2_with fail
      clear c0 c1 c2 c3 c4 c5 c6 d0 d1 d2 d3 d4 d5 d6
      go_at_call 94; refine (l02SameBasis_any _ _ _ _ _ (G4.out _ H1.out).1 (G4.out _ H1.out).2 n2 m2).mono ?_; rintro e w2 ⟨rfl, m2', rfl⟩
      rw [T2.out, World.drewN_drewN]
      have H2 := Lib.hid (below_drewN (HB0.out (.cells #[.int .i64 A.rows.vars, s1, s2, s3, z, .slice ja A.jobs.length jc, y] 56) (.cells #[.int .i64 B.rows.vars, u1, u2, u3, z', .slice ja' B.jobs.length jc', y'] 56)) (m1' + m2'))
      have X2 := Lib.hid ((X0.out (.cells #[.int .i64 B.rows.vars, u1, u2, u3, z', .slice ja' B.jobs.length jc', y'] 56)).keep (below_drewN (Below.refl _ _) (m1' + m2')) (X0.out (.cells #[.int .i64 B.rows.vars, u1, u2, u3, z', .slice ja' B.jobs.length jc', y'] 56)).lt)
      have Y2 := Lib.hid ((Y0.out (.cells #[.int .i64 A.rows.vars, s1, s2, s3, z, .slice ja A.jobs.length jc, y] 56)).keep (below_drewN (Below.refl _ _) (m1' + m2')) (Y0.out (.cells #[.int .i64 A.rows.vars, s1, s2, s3, z, .slice ja A.jobs.length jc, y] 56)).lt)
      obtain ⟨c0, c1, c2, c3, c4, c5, c6⟩ := X2.out
      obtain ⟨d0, d1, d2, d3, d4, d5, d6⟩ := Y2.out
      go_wp2_with fail
      go_ret
      exact says (by simp) H2.out
    | true =>
      cases t4 with
      | false =>
        go_enter Try.func51, Try.ntmps51
        go_wp2_with fail
        go_at_call 93; refine (l02Same_any _ _ _ w.heap.size (w.heap.size + 1) s1 s2 s3 u1 u2 u3 A.rows B.rows _ ((X0.out _).rp2 (GS.out _ (HB0.out _ _)).1) ((Y0.out _).rp2 (GS.out _ (HB0.out _ _)).2) oRA oRB rfl rfl rfl).mono ?_; rintro e w1 ⟨rfl, m1', rfl⟩
        rw [T1.out]
        have H1 := Lib.hid (below_drewN (HB0.out (.cells #[.int .i64 A.rows.vars, s1, s2, s3, z, .slice ja A.jobs.length jc, y] 56) (.cells #[.int .i64 B.rows.vars, u1, u2, u3, z', .slice ja' B.jobs.length jc', y'] 56)) (m1'))
        have X1 := Lib.hid ((X0.out (.cells #[.int .i64 B.rows.vars, u1, u2, u3, z', .slice ja' B.jobs.length jc', y'] 56)).keep (below_drewN (Below.refl _ _) (m1')) (X0.out (.cells #[.int .i64 B.rows.vars, u1, u2, u3, z', .slice ja' B.jobs.length jc', y'] 56)).lt)
        have Y1 := Lib.hid ((Y0.out (.cells #[.int .i64 A.rows.vars, s1, s2, s3, z, .slice ja A.jobs.length jc, y] 56)).keep (below_drewN (Below.refl _ _) (m1')) (Y0.out (.cells #[.int .i64 A.rows.vars, s1, s2, s3, z, .slice ja A.jobs.length jc, y] 56)).lt)
        obtain ⟨c0, c1, c2, c3, c4, c5, c6⟩ := X1.out
        obtain ⟨d0, d1, d2, d3, d4, d5, d6⟩ := Y1.out
        go_wp2_with fail
        clear c0 c1 c2 c3 c4 c5 c6 d0 d1 d2 d3 d4 d5 d6
        go_at_call 94; refine (l02SameBasis_any _ _ _ _ _ (G4.out _ H1.out).1 (G4.out _ H1.out).2 n2 m2).mono ?_; rintro e w2 ⟨rfl, m2', rfl⟩
        rw [T2.out, World.drewN_drewN]
        have H2 := Lib.hid (below_drewN (HB0.out (.cells #[.int .i64 A.rows.vars, s1, s2, s3, z, .slice ja A.jobs.length jc, y] 56) (.cells #[.int .i64 B.rows.vars, u1, u2, u3, z', .slice ja' B.jobs.length jc', y'] 56)) (m1' + m2'))
        have X2 := Lib.hid ((X0.out (.cells #[.int .i64 B.rows.vars, u1, u2, u3, z', .slice ja' B.jobs.length jc', y'] 56)).keep (below_drewN (Below.refl _ _) (m1' + m2')) (X0.out (.cells #[.int .i64 B.rows.vars, u1, u2, u3, z', .slice ja' B.jobs.length jc', y'] 56)).lt)
        have Y2 := Lib.hid ((Y0.out (.cells #[.int .i64 A.rows.vars, s1, s2, s3, z, .slice ja A.jobs.length jc, y] 56)).keep (below_drewN (Below.refl _ _) (m1' + m2')) (Y0.out (.cells #[.int .i64 A.rows.vars, s1, s2, s3, z, .slice ja A.jobs.length jc, y] 56)).lt)
        obtain ⟨c0, c1, c2, c3, c4, c5, c6⟩ := X2.out
        obtain ⟨d0, d1, d2, d3, d4, d5, d6⟩ := Y2.out
        go_wp2_with fail
        clear c0 c1 c2 c3 c4 c5 c6 d0 d1 d2 d3 d4 d5 d6
        go_at_call 94; refine (l02SameBasis_any _ _ _ _ _ (G6.out _ H2.out).1 (G6.out _ H2.out).2 o4 p4).mono ?_; rintro e w3 ⟨rfl, m3', rfl⟩
        rw [T4.out, World.drewN_drewN]
        have H3 := Lib.hid (below_drewN (HB0.out (.cells #[.int .i64 A.rows.vars, s1, s2, s3, z, .slice ja A.jobs.length jc, y] 56) (.cells #[.int .i64 B.rows.vars, u1, u2, u3, z', .slice ja' B.jobs.length jc', y'] 56)) (m1' + m2' + m3'))
        have X3 := Lib.hid ((X0.out (.cells #[.int .i64 B.rows.vars, u1, u2, u3, z', .slice ja' B.jobs.length jc', y'] 56)).keep (below_drewN (Below.refl _ _) (m1' + m2' + m3')) (X0.out (.cells #[.int .i64 B.rows.vars, u1, u2, u3, z', .slice ja' B.jobs.length jc', y'] 56)).lt)
        have Y3 := Lib.hid ((Y0.out (.cells #[.int .i64 A.rows.vars, s1, s2, s3, z, .slice ja A.jobs.length jc, y] 56)).keep (below_drewN (Below.refl _ _) (m1' + m2' + m3')) (Y0.out (.cells #[.int .i64 A.rows.vars, s1, s2, s3, z, .slice ja A.jobs.length jc, y] 56)).lt)
        obtain ⟨c0, c1, c2, c3, c4, c5, c6⟩ := X3.out
        obtain ⟨d0, d1, d2, d3, d4, d5, d6⟩ := Y3.out
        go_wp2_with fail
        go_ret
        exact says (by simp) H3.out
      | true =>
        by_cases he : A.jobs.length = B.jobs.length
        · have hne : ((A.jobs.length : Int) != (B.jobs.length : Int)) = false := by simp; omega
          have hne2 : ¬ (A.jobs.length : Int) ≠ (B.jobs.length : Int) := by omega
          have HE := Lib.hid he
          have ga := GA.out
          have gb := GB.out
          rcases ga with ⟨hz, ao, cap, ea⟩ | ⟨b, off, cap, ea, hpos, hbl, hcell⟩
          · have h0 : A.jobs.length = 0 := by rw [hz]; rfl
            have HS := Lib.hid (sameA_yes he (fun i hi => by omega))
            have ht3 : t3 = true := by rw [← T3.out]; exact HS.out
            subst ht3
            have hn0 : ¬ ((0 : Int) < (A.jobs.length : Int)) := by omega
            have hd0 : decide ((0 : Int) < (A.jobs.length : Int)) = false := by simp; omega
            clear hz ea gb he h0
            go_enter Try.func51, Try.ntmps51
            go_wp2_with fail
            go_at_call 93; refine (l02Same_any _ _ _ w.heap.size (w.heap.size + 1) s1 s2 s3 u1 u2 u3 A.rows B.rows _ ((X0.out _).rp2 (GS.out _ (HB0.out _ _)).1) ((Y0.out _).rp2 (GS.out _ (HB0.out _ _)).2) oRA oRB rfl rfl rfl).mono ?_; rintro e w1 ⟨rfl, m1', rfl⟩
            rw [T1.out]
            have H1 := Lib.hid (below_drewN (HB0.out (.cells #[.int .i64 A.rows.vars, s1, s2, s3, z, .slice ja A.jobs.length jc, y] 56) (.cells #[.int .i64 B.rows.vars, u1, u2, u3, z', .slice ja' B.jobs.length jc', y'] 56)) (m1'))
            have X1 := Lib.hid ((X0.out (.cells #[.int .i64 B.rows.vars, u1, u2, u3, z', .slice ja' B.jobs.length jc', y'] 56)).keep (below_drewN (Below.refl _ _) (m1')) (X0.out (.cells #[.int .i64 B.rows.vars, u1, u2, u3, z', .slice ja' B.jobs.length jc', y'] 56)).lt)
            have Y1 := Lib.hid ((Y0.out (.cells #[.int .i64 A.rows.vars, s1, s2, s3, z, .slice ja A.jobs.length jc, y] 56)).keep (below_drewN (Below.refl _ _) (m1')) (Y0.out (.cells #[.int .i64 A.rows.vars, s1, s2, s3, z, .slice ja A.jobs.length jc, y] 56)).lt)
            obtain ⟨c0, c1, c2, c3, c4, c5, c6⟩ := X1.out
            obtain ⟨d0, d1, d2, d3, d4, d5, d6⟩ := Y1.out
            go_wp2_with fail
            clear c0 c1 c2 c3 c4 c5 c6 d0 d1 d2 d3 d4 d5 d6
            go_at_call 94; refine (l02SameBasis_any _ _ _ _ _ (G4.out _ H1.out).1 (G4.out _ H1.out).2 n2 m2).mono ?_; rintro e w2 ⟨rfl, m2', rfl⟩
            rw [T2.out, World.drewN_drewN]
            have H2 := Lib.hid (below_drewN (HB0.out (.cells #[.int .i64 A.rows.vars, s1, s2, s3, z, .slice ja A.jobs.length jc, y] 56) (.cells #[.int .i64 B.rows.vars, u1, u2, u3, z', .slice ja' B.jobs.length jc', y'] 56)) (m1' + m2'))
            have X2 := Lib.hid ((X0.out (.cells #[.int .i64 B.rows.vars, u1, u2, u3, z', .slice ja' B.jobs.length jc', y'] 56)).keep (below_drewN (Below.refl _ _) (m1' + m2')) (X0.out (.cells #[.int .i64 B.rows.vars, u1, u2, u3, z', .slice ja' B.jobs.length jc', y'] 56)).lt)
            have Y2 := Lib.hid ((Y0.out (.cells #[.int .i64 A.rows.vars, s1, s2, s3, z, .slice ja A.jobs.length jc, y] 56)).keep (below_drewN (Below.refl _ _) (m1' + m2')) (Y0.out (.cells #[.int .i64 A.rows.vars, s1, s2, s3, z, .slice ja A.jobs.length jc, y] 56)).lt)
            obtain ⟨c0, c1, c2, c3, c4, c5, c6⟩ := X2.out
            obtain ⟨d0, d1, d2, d3, d4, d5, d6⟩ := Y2.out
            go_wp2_with fail
            clear c0 c1 c2 c3 c4 c5 c6 d0 d1 d2 d3 d4 d5 d6
            go_at_call 94; refine (l02SameBasis_any _ _ _ _ _ (G6.out _ H2.out).1 (G6.out _ H2.out).2 o4 p4).mono ?_; rintro e w3 ⟨rfl, m3', rfl⟩
            rw [T4.out, World.drewN_drewN]
            have H3 := Lib.hid (below_drewN (HB0.out (.cells #[.int .i64 A.rows.vars, s1, s2, s3, z, .slice ja A.jobs.length jc, y] 56) (.cells #[.int .i64 B.rows.vars, u1, u2, u3, z', .slice ja' B.jobs.length jc', y'] 56)) (m1' + m2' + m3'))
            have X3 := Lib.hid ((X0.out (.cells #[.int .i64 B.rows.vars, u1, u2, u3, z', .slice ja' B.jobs.length jc', y'] 56)).keep (below_drewN (Below.refl _ _) (m1' + m2' + m3')) (X0.out (.cells #[.int .i64 B.rows.vars, u1, u2, u3, z', .slice ja' B.jobs.length jc', y'] 56)).lt)
            have Y3 := Lib.hid ((Y0.out (.cells #[.int .i64 A.rows.vars, s1, s2, s3, z, .slice ja A.jobs.length jc, y] 56)).keep (below_drewN (Below.refl _ _) (m1' + m2' + m3')) (Y0.out (.cells #[.int .i64 A.rows.vars, s1, s2, s3, z, .slice ja A.jobs.length jc, y] 56)).lt)
            obtain ⟨c0, c1, c2, c3, c4, c5, c6⟩ := X3.out
            obtain ⟨d0, d1, d2, d3, d4, d5, d6⟩ := Y3.out
            go_wp2_with fail
            refine wp_loop_rounds 1 ?_
            rw [rounds_succ]
            go_wp2
            go_ret
            exact says (by simp) H3.out
          · rcases gb with ⟨hz, ao', cap', eb⟩ | ⟨b2, off2, cap2, eb, hpos2, hbl2, hcell2⟩
            · have h0 : B.jobs.length = 0 := by rw [hz]; rfl
              omega
            injection ea with ea1 ea2 ea3
            injection eb with eb1 eb2 eb3
            subst ea1 eb1
            clear ea3 eb3
            have C1 : Hid (∀ W, Below w.heap.size w W → ∀ i, i < A.jobs.length → ArcAt W b (off + i * 4) (A.jobs.getD i zA)) := Lib.hid (fun W h i hi => (hcell i hi).keep h hbl)
            have C2 : Hid (∀ W, Below w.heap.size w W → ∀ i, i < B.jobs.length → ArcAt W b2 (off2 + i * 4) (B.jobs.getD i zA)) := Lib.hid (fun W h i hi => (hcell2 i hi).keep h hbl2)
            clear he hcell hcell2 ea2 eb2
            go_enter Try.func51, Try.ntmps51
            go_wp2_with fail
            go_at_call 93; refine (l02Same_any _ _ _ w.heap.size (w.heap.size + 1) s1 s2 s3 u1 u2 u3 A.rows B.rows _ ((X0.out _).rp2 (GS.out _ (HB0.out _ _)).1) ((Y0.out _).rp2 (GS.out _ (HB0.out _ _)).2) oRA oRB rfl rfl rfl).mono ?_; rintro e w1 ⟨rfl, m1', rfl⟩
            rw [T1.out]
            have H1 := Lib.hid (below_drewN (HB0.out (.cells #[.int .i64 A.rows.vars, s1, s2, s3, z, .slice (some ⟨b, off, none⟩) A.jobs.length jc, y] 56) (.cells #[.int .i64 B.rows.vars, u1, u2, u3, z', .slice (some ⟨b2, off2, none⟩) B.jobs.length jc', y'] 56)) (m1'))
            have X1 := Lib.hid ((X0.out (.cells #[.int .i64 B.rows.vars, u1, u2, u3, z', .slice (some ⟨b2, off2, none⟩) B.jobs.length jc', y'] 56)).keep (below_drewN (Below.refl _ _) (m1')) (X0.out (.cells #[.int .i64 B.rows.vars, u1, u2, u3, z', .slice (some ⟨b2, off2, none⟩) B.jobs.length jc', y'] 56)).lt)
            have Y1 := Lib.hid ((Y0.out (.cells #[.int .i64 A.rows.vars, s1, s2, s3, z, .slice (some ⟨b, off, none⟩) A.jobs.length jc, y] 56)).keep (below_drewN (Below.refl _ _) (m1')) (Y0.out (.cells #[.int .i64 A.rows.vars, s1, s2, s3, z, .slice (some ⟨b, off, none⟩) A.jobs.length jc, y] 56)).lt)
            obtain ⟨c0, c1, c2, c3, c4, c5, c6⟩ := X1.out
            obtain ⟨d0, d1, d2, d3, d4, d5, d6⟩ := Y1.out
            go_wp2_with fail
            clear c0 c1 c2 c3 c4 c5 c6 d0 d1 d2 d3 d4 d5 d6
            go_at_call 94; refine (l02SameBasis_any _ _ _ _ _ (G4.out _ H1.out).1 (G4.out _ H1.out).2 n2 m2).mono ?_; rintro e w2 ⟨rfl, m2', rfl⟩
            rw [T2.out, World.drewN_drewN]
            have H2 := Lib.hid (below_drewN (HB0.out (.cells #[.int .i64 A.rows.vars, s1, s2, s3, z, .slice (some ⟨b, off, none⟩) A.jobs.length jc, y] 56) (.cells #[.int .i64 B.rows.vars, u1, u2, u3, z', .slice (some ⟨b2, off2, none⟩) B.jobs.length jc', y'] 56)) (m1' + m2'))
            have X2 := Lib.hid ((X0.out (.cells #[.int .i64 B.rows.vars, u1, u2, u3, z', .slice (some ⟨b2, off2, none⟩) B.jobs.length jc', y'] 56)).keep (below_drewN (Below.refl _ _) (m1' + m2')) (X0.out (.cells #[.int .i64 B.rows.vars, u1, u2, u3, z', .slice (some ⟨b2, off2, none⟩) B.jobs.length jc', y'] 56)).lt)
            have Y2 := Lib.hid ((Y0.out (.cells #[.int .i64 A.rows.vars, s1, s2, s3, z, .slice (some ⟨b, off, none⟩) A.jobs.length jc, y] 56)).keep (below_drewN (Below.refl _ _) (m1' + m2')) (Y0.out (.cells #[.int .i64 A.rows.vars, s1, s2, s3, z, .slice (some ⟨b, off, none⟩) A.jobs.length jc, y] 56)).lt)
            obtain ⟨c0, c1, c2, c3, c4, c5, c6⟩ := X2.out
            obtain ⟨d0, d1, d2, d3, d4, d5, d6⟩ := Y2.out
            go_wp2_with fail
            clear c0 c1 c2 c3 c4 c5 c6 d0 d1 d2 d3 d4 d5 d6
            go_at_call 94; refine (l02SameBasis_any _ _ _ _ _ (G6.out _ H2.out).1 (G6.out _ H2.out).2 o4 p4).mono ?_; rintro e w3 ⟨rfl, m3', rfl⟩
            rw [T4.out, World.drewN_drewN]
            have H3 := Lib.hid (below_drewN (HB0.out (.cells #[.int .i64 A.rows.vars, s1, s2, s3, z, .slice (some ⟨b, off, none⟩) A.jobs.length jc, y] 56) (.cells #[.int .i64 B.rows.vars, u1, u2, u3, z', .slice (some ⟨b2, off2, none⟩) B.jobs.length jc', y'] 56)) (m1' + m2' + m3'))
            have X3 := Lib.hid ((X0.out (.cells #[.int .i64 B.rows.vars, u1, u2, u3, z', .slice (some ⟨b2, off2, none⟩) B.jobs.length jc', y'] 56)).keep (below_drewN (Below.refl _ _) (m1' + m2' + m3')) (X0.out (.cells #[.int .i64 B.rows.vars, u1, u2, u3, z', .slice (some ⟨b2, off2, none⟩) B.jobs.length jc', y'] 56)).lt)
            have Y3 := Lib.hid ((Y0.out (.cells #[.int .i64 A.rows.vars, s1, s2, s3, z, .slice (some ⟨b, off, none⟩) A.jobs.length jc, y] 56)).keep (below_drewN (Below.refl _ _) (m1' + m2' + m3')) (Y0.out (.cells #[.int .i64 A.rows.vars, s1, s2, s3, z, .slice (some ⟨b, off, none⟩) A.jobs.length jc, y] 56)).lt)
            obtain ⟨c0, c1, c2, c3, c4, c5, c6⟩ := X3.out
            obtain ⟨d0, d1, d2, d3, d4, d5, d6⟩ := Y3.out
            clear c0 c1 c2 c3 c4 c5 c6 d0 d1 d2 d3 d4 d5 d6
            generalize hW : World.drewN _ _ = W at H3 X3 Y3 ⊢
            clear hW
            obtain ⟨c0, c1, c2, c3, c4, c5, c6⟩ := X3.out
            obtain ⟨d0, d1, d2, d3, d4, d5, d6⟩ := Y3.out
            go_wp2_with fail
            clear c0 c1 c2 c3 c4 c5 c6 d0 d1 d2 d3 d4 d5 d6
            go_loopw [5] (fun i wr => ∃ k : Nat, k ≤ A.jobs.length ∧ i = .int .i64 k ∧ (∀ j, j < k → eqA (A.jobs.getD j zA) (B.jobs.getD j zA) = true) ∧ ∃ n, wr = W.drewN n) (fun i _ => A.jobs.length - (intOf i).toNat)
            case atStart => exact ⟨0, Nat.zero_le _, rfl, fun j hj => by omega, 0, rfl⟩
            case round =>
              obtain ⟨k, hk, rfl, hall, hwr⟩ := hrel
              have HL := Lib.hid hall
              have HW := Lib.hid (drew_more hwr)
              have hBW : Below w.heap.size w wr := by obtain ⟨n, rfl⟩ := hwr; exact below_drewN H3.out n
              have HBW := Lib.hid hBW
              have c5 : wr.cell? ⟨w.heap.size, 5, none⟩ = some (.slice (some ⟨b, off, none⟩) A.jobs.length jc) := by obtain ⟨n, rfl⟩ := hwr; exact X3.out.c5
              have d5 : wr.cell? ⟨w.heap.size + 1, 5, none⟩ = some (.slice (some ⟨b2, off2, none⟩) B.jobs.length jc') := by obtain ⟨n, rfl⟩ := hwr; exact Y3.out.c5
              clear hall hBW
              by_cases hlt : k < A.jobs.length
              · have hlt2 : k < B.jobs.length := by have := HE.out; omega
                have e1 : ArcAt wr b (off + k * 4) (A.jobs.getD k zA) := C1.out _ HBW.out k hlt
                have e2 : ArcAt wr b2 (off2 + k * 4) (B.jobs.getD k zA) := C2.out _ HBW.out k hlt2
                obtain ⟨a, ha⟩ : ∃ a, a = A.jobs.getD k zA := ⟨_, rfl⟩
                obtain ⟨c, hc⟩ : ∃ c, c = B.jobs.getD k zA := ⟨_, rfl⟩
                rw [← ha] at e1
                rw [← hc] at e2
                have HA := Lib.hid ha
                have HC := Lib.hid hc
                obtain ⟨c0, c1, c2, c3⟩ := e1
                obtain ⟨d0, d1, d2, d3⟩ := e2
                clear hwr ha hc
                cases q : eqA a c with
                | true =>
                  have Q := Lib.hid q
                  go_wp2_with fail
                  go_quiet (fail)
                  go_wp2_with fail
                  go_roundw
                  case rel => exact ⟨k + 1, by omega, by go_num, fun j hj => by
                    by_cases e : j = k
                    · subst e; rw [← HA.out, ← HC.out]; exact Q.out
                    · exact HL.out j (by omega), HW.out _⟩
                  case measure => simp [intOf]; omega
                | false =>
                  have Q := Lib.hid q
                  have ht3 : Hid (t3 = false) := Lib.hid (by rw [← T3.out]; exact sameA_no hlt (by rw [← HA.out, ← HC.out]; exact Q.out))
                  obtain rfl : t3 = false := ht3.out
                  go_wp2_with fail
                  go_quiet (fail)
                  go_wp2_with fail
                  go_ret
                  exact says (by simp) (below_drewN HBW.out _)
              · obtain rfl : k = A.jobs.length := by omega
                have ht3 : Hid (t3 = true) := Lib.hid (by rw [← T3.out]; exact sameA_yes HE.out HL.out)
                obtain rfl : t3 = true := ht3.out
                clear hwr
                go_wp2_with fail
                go_ret
                exact says (by simp) HBW.out
        · have hne : ((A.jobs.length : Int) != (B.jobs.length : Int)) = true := by simp; omega
          have hne2 : (A.jobs.length : Int) ≠ (B.jobs.length : Int) := by omega
          have ht3 : t3 = false := by rw [← T3.out]; exact sameA_lens he
          subst ht3
          clear he
          go_enter Try.func51, Try.ntmps51
          go_wp2_with fail
          go_at_call 93; refine (l02Same_any _ _ _ w.heap.size (w.heap.size + 1) s1 s2 s3 u1 u2 u3 A.rows B.rows _ ((X0.out _).rp2 (GS.out _ (HB0.out _ _)).1) ((Y0.out _).rp2 (GS.out _ (HB0.out _ _)).2) oRA oRB rfl rfl rfl).mono ?_; rintro e w1 ⟨rfl, m1', rfl⟩
          rw [T1.out]
          have H1 := Lib.hid (below_drewN (HB0.out (.cells #[.int .i64 A.rows.vars, s1, s2, s3, z, .slice ja A.jobs.length jc, y] 56) (.cells #[.int .i64 B.rows.vars, u1, u2, u3, z', .slice ja' B.jobs.length jc', y'] 56)) (m1'))
          have X1 := Lib.hid ((X0.out (.cells #[.int .i64 B.rows.vars, u1, u2, u3, z', .slice ja' B.jobs.length jc', y'] 56)).keep (below_drewN (Below.refl _ _) (m1')) (X0.out (.cells #[.int .i64 B.rows.vars, u1, u2, u3, z', .slice ja' B.jobs.length jc', y'] 56)).lt)
          have Y1 := Lib.hid ((Y0.out (.cells #[.int .i64 A.rows.vars, s1, s2, s3, z, .slice ja A.jobs.length jc, y] 56)).keep (below_drewN (Below.refl _ _) (m1')) (Y0.out (.cells #[.int .i64 A.rows.vars, s1, s2, s3, z, .slice ja A.jobs.length jc, y] 56)).lt)
          obtain ⟨c0, c1, c2, c3, c4, c5, c6⟩ := X1.out
          obtain ⟨d0, d1, d2, d3, d4, d5, d6⟩ := Y1.out
          go_wp2_with fail
          clear c0 c1 c2 c3 c4 c5 c6 d0 d1 d2 d3 d4 d5 d6
          go_at_call 94; refine (l02SameBasis_any _ _ _ _ _ (G4.out _ H1.out).1 (G4.out _ H1.out).2 n2 m2).mono ?_; rintro e w2 ⟨rfl, m2', rfl⟩
          rw [T2.out, World.drewN_drewN]
          have H2 := Lib.hid (below_drewN (HB0.out (.cells #[.int .i64 A.rows.vars, s1, s2, s3, z, .slice ja A.jobs.length jc, y] 56) (.cells #[.int .i64 B.rows.vars, u1, u2, u3, z', .slice ja' B.jobs.length jc', y'] 56)) (m1' + m2'))
          have X2 := Lib.hid ((X0.out (.cells #[.int .i64 B.rows.vars, u1, u2, u3, z', .slice ja' B.jobs.length jc', y'] 56)).keep (below_drewN (Below.refl _ _) (m1' + m2')) (X0.out (.cells #[.int .i64 B.rows.vars, u1, u2, u3, z', .slice ja' B.jobs.length jc', y'] 56)).lt)
          have Y2 := Lib.hid ((Y0.out (.cells #[.int .i64 A.rows.vars, s1, s2, s3, z, .slice ja A.jobs.length jc, y] 56)).keep (below_drewN (Below.refl _ _) (m1' + m2')) (Y0.out (.cells #[.int .i64 A.rows.vars, s1, s2, s3, z, .slice ja A.jobs.length jc, y] 56)).lt)
          obtain ⟨c0, c1, c2, c3, c4, c5, c6⟩ := X2.out
          obtain ⟨d0, d1, d2, d3, d4, d5, d6⟩ := Y2.out
          go_wp2_with fail
          clear c0 c1 c2 c3 c4 c5 c6 d0 d1 d2 d3 d4 d5 d6
          go_at_call 94; refine (l02SameBasis_any _ _ _ _ _ (G6.out _ H2.out).1 (G6.out _ H2.out).2 o4 p4).mono ?_; rintro e w3 ⟨rfl, m3', rfl⟩
          rw [T4.out, World.drewN_drewN]
          have H3 := Lib.hid (below_drewN (HB0.out (.cells #[.int .i64 A.rows.vars, s1, s2, s3, z, .slice ja A.jobs.length jc, y] 56) (.cells #[.int .i64 B.rows.vars, u1, u2, u3, z', .slice ja' B.jobs.length jc', y'] 56)) (m1' + m2' + m3'))
          have X3 := Lib.hid ((X0.out (.cells #[.int .i64 B.rows.vars, u1, u2, u3, z', .slice ja' B.jobs.length jc', y'] 56)).keep (below_drewN (Below.refl _ _) (m1' + m2' + m3')) (X0.out (.cells #[.int .i64 B.rows.vars, u1, u2, u3, z', .slice ja' B.jobs.length jc', y'] 56)).lt)
          have Y3 := Lib.hid ((Y0.out (.cells #[.int .i64 A.rows.vars, s1, s2, s3, z, .slice ja A.jobs.length jc, y] 56)).keep (below_drewN (Below.refl _ _) (m1' + m2' + m3')) (Y0.out (.cells #[.int .i64 A.rows.vars, s1, s2, s3, z, .slice ja A.jobs.length jc, y] 56)).lt)
          obtain ⟨c0, c1, c2, c3, c4, c5, c6⟩ := X3.out
          obtain ⟨d0, d1, d2, d3, d4, d5, d6⟩ := Y3.out
          go_wp2_with fail
          go_ret
          exact says (by simp) H3.out
end Go.Proofs.Ytiobbclciboggaa
