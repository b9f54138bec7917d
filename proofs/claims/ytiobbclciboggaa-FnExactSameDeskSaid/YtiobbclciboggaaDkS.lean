/- SameDesk: both sides. -/
import Derived.Test.YtiobbclciboggaaDkT
import Derived.Test.YtiobbclciboggaaSameRD
import Derived.Test.YtiobbclciboggaaSameJ
namespace Go.Proofs.Ytiobbclciboggaa
open Go.RowKit Go.ChangeShapes Go.WideShapes

def sameDk (A B : Dk) : Bool := sameR A.rows B.rows && (sameI A.sizes B.sizes && (sameA A.jobs B.jobs && sameI A.ways B.ways))
theorem desk_ok2 {D : Dk} (o : OKDk D) : D.rows.size ≤ 1048576 ∧ D.sizes.length ≤ 1048576 ∧ D.jobs.length ≤ 1048576 ∧ D.ways.length ≤ 1048576 := by
  have h := o.size
  unfold Dk.sz at h
  exact ⟨by omega, by omega, by omega, by omega⟩
theorem Box7.rp2 {w : World} {g : Nat} {s1 s2 s3 z j y : Value} {R : Rw} (h : Box7 w g (.int .i64 R.vars) s1 s2 s3 z j y) (g1 : SL w s1 R.N ∧ SL w s2 R.B ∧ SL w s3 R.G) : RP w g s1 s2 s3 R := ⟨h.c0, h.c1, h.c2, h.c3, g1.1, g1.2.1, g1.2.2⟩
set_option maxHeartbeats 4000000 in
theorem implSameDesk_any (v : Value) (A : Dk) (u : Value) (B : Dk) (w : World) (hv : DkV w v A) (hu : DkV w u B) (oA : OKDk A) (oB : OKDk B) :
    Calls Try.prog 53 #[v, u] w (Says (sameDk A B) w) := by
  obtain ⟨n1, n2, n3, o4⟩ := desk_ok2 oA
  obtain ⟨m1, m2, m3, p4⟩ := desk_ok2 oB
  have oRA : OKR A.rows := ⟨n1, oA.fit.1⟩
  have oRB : OKR B.rows := ⟨m1, oB.fit.1⟩
  obtain ⟨s1, s2, s3, z, j, y, rfl, g1, g2, g3, g4, g5, g6⟩ := hv
  obtain ⟨u1, u2, u3, z', j', y', rfl, k1, k2, k3, k4, k5, k6⟩ := hu
  have G0 : Hid (∀ W, Below w.heap.size w W → RV W (.agg #[.int .i64 A.rows.vars, s1, s2, s3]) A.rows ∧ RV W (.agg #[.int .i64 B.rows.vars, u1, u2, u3]) B.rows) := Lib.hid fun W h =>
    ⟨⟨s1, s2, s3, rfl, g1.below h (Nat.le_refl _), g2.below h (Nat.le_refl _), g3.below h (Nat.le_refl _)⟩, ⟨u1, u2, u3, rfl, k1.below h (Nat.le_refl _), k2.below h (Nat.le_refl _), k3.below h (Nat.le_refl _)⟩⟩
  have GS : Hid (∀ W, Below w.heap.size w W → (SL W s1 A.rows.N ∧ SL W s2 A.rows.B ∧ SL W s3 A.rows.G) ∧ SL W u1 B.rows.N ∧ SL W u2 B.rows.B ∧ SL W u3 B.rows.G) := Lib.hid fun W h =>
    ⟨⟨g1.below h (Nat.le_refl _), g2.below h (Nat.le_refl _), g3.below h (Nat.le_refl _)⟩, k1.below h (Nat.le_refl _), k2.below h (Nat.le_refl _), k3.below h (Nat.le_refl _)⟩
  have G4 : Hid (∀ W, Below w.heap.size w W → IL W z A.sizes ∧ IL W z' B.sizes) := Lib.hid fun W h => ⟨g4.below h (Nat.le_refl _), k4.below h (Nat.le_refl _)⟩
  have G5 : Hid (∀ W, Below w.heap.size w W → AV W j A.jobs ∧ AV W j' B.jobs) := Lib.hid fun W h => ⟨g5.below h (Nat.le_refl _), k5.below h (Nat.le_refl _)⟩
  have G6 : Hid (∀ W, Below w.heap.size w W → IL W y A.ways ∧ IL W y' B.ways) := Lib.hid fun W h => ⟨g6.below h (Nat.le_refl _), k6.below h (Nat.le_refl _)⟩
  have HB0 : Hid (∀ P Q, Below w.heap.size w ((w.alloc P).alloc Q)) := Lib.hid (fun P Q => (below_alloc w P).alloc (by simp) Q)
  have X0 : Hid (∀ Q, Box7 ((w.alloc (.cells #[.int .i64 A.rows.vars, s1, s2, s3, z, j, y] 56)).alloc Q) w.heap.size (.int .i64 A.rows.vars) s1 s2 s3 z j y) := Lib.hid (fun Q => (Box7.mk' w (.int .i64 A.rows.vars) s1 s2 s3 z j y 56).keep (below_alloc _ Q) (by simp))
  have Y0 : Hid (∀ P, Box7 ((w.alloc P).alloc (.cells #[.int .i64 B.rows.vars, u1, u2, u3, z', j', y'] 56)) (w.heap.size + 1) (.int .i64 B.rows.vars) u1 u2 u3 z' j' y') := Lib.hid (fun P => by
    have h := Box7.mk' (w.alloc P) (.int .i64 B.rows.vars) u1 u2 u3 z' j' y' 56
    rw [show (w.alloc P).heap.size = w.heap.size + 1 by simp] at h
    exact h)
  obtain ⟨t1, h1⟩ : ∃ t, sameR A.rows B.rows = t := ⟨_, rfl⟩
  obtain ⟨t2, h2⟩ : ∃ t, sameI A.sizes B.sizes = t := ⟨_, rfl⟩
  obtain ⟨t3, h3⟩ : ∃ t, sameA A.jobs B.jobs = t := ⟨_, rfl⟩
  obtain ⟨t4, h4⟩ : ∃ t, sameI A.ways B.ways = t := ⟨_, rfl⟩
  have e : sameDk A B = (t1 && (t2 && (t3 && t4))) := by unfold sameDk; rw [h1, h2, h3, h4]
  rw [e]
  have T1 := Lib.hid h1
  have T2 := Lib.hid h2
  have T3 := Lib.hid h3
  have T4 := Lib.hid h4
  clear g1 g2 g3 g4 g5 g6 k1 k2 k3 k4 k5 k6 oA oB e h1 h2 h3 h4
  cases t1 with
  | false =>
    go_enter Try.func53, Try.ntmps53
    go_wp2_with fail
    go_at_call 97; refine (implSameRows_any _ A.rows _ B.rows _ (G0.out _ (HB0.out _ _)).1 (G0.out _ (HB0.out _ _)).2 oRA oRB).mono ?_; rintro e w1 ⟨rfl, b⟩
    rw [T1.out]
    have H1 := Lib.hid ((HB0.out _ _).trans (b.mono (HB0.out _ _).size))
    have X1 := Lib.hid ((X0.out _).keep b (X0.out _).lt)
    have Y1 := Lib.hid ((Y0.out _).keep b (Y0.out _).lt)
    clear b
    obtain ⟨c0, c1, c2, c3, c4, c5, c6⟩ := X1.out
    obtain ⟨d0, d1, d2, d3, d4, d5, d6⟩ := Y1.out
    go_wp2_with fail
    go_ret
    exact says (by simp) H1.out
  | true =>
    cases t2 with
    | false =>
      go_enter Try.func53, Try.ntmps53
      go_wp2_with fail
      go_at_call 97; refine (implSameRows_any _ A.rows _ B.rows _ (G0.out _ (HB0.out _ _)).1 (G0.out _ (HB0.out _ _)).2 oRA oRB).mono ?_; rintro e w1 ⟨rfl, b⟩
      rw [T1.out]
      have H1 := Lib.hid ((HB0.out _ _).trans (b.mono (HB0.out _ _).size))
      have X1 := Lib.hid ((X0.out _).keep b (X0.out _).lt)
      have Y1 := Lib.hid ((Y0.out _).keep b (Y0.out _).lt)
      clear b
      obtain ⟨c0, c1, c2, c3, c4, c5, c6⟩ := X1.out
      obtain ⟨d0, d1, d2, d3, d4, d5, d6⟩ := Y1.out
      go_wp2_with fail
      clear c0 c1 c2 c3 c4 c5 c6 d0 d1 d2 d3 d4 d5 d6
      go_at_call 98; refine (slEqual_any _ _ _ _ _ (G4.out _ H1.out).1 (G4.out _ H1.out).2 n2 m2).mono ?_; rintro e w2 ⟨rfl, m2', rfl⟩
      rw [T2.out]
      have H2 := Lib.hid (below_drewN H1.out (m2'))
      have X2 := Lib.hid (X1.out.keep (below_drewN (Below.refl _ _) (m2')) X1.out.lt)
      have Y2 := Lib.hid (Y1.out.keep (below_drewN (Below.refl _ _) (m2')) Y1.out.lt)
      obtain ⟨c0, c1, c2, c3, c4, c5, c6⟩ := X2.out
      obtain ⟨d0, d1, d2, d3, d4, d5, d6⟩ := Y2.out
      go_wp2_with fail
      go_ret
      exact says (by simp) H2.out
    | true =>
      cases t3 with
      | false =>
        go_enter Try.func53, Try.ntmps53
        go_wp2_with fail
        go_at_call 97; refine (implSameRows_any _ A.rows _ B.rows _ (G0.out _ (HB0.out _ _)).1 (G0.out _ (HB0.out _ _)).2 oRA oRB).mono ?_; rintro e w1 ⟨rfl, b⟩
        rw [T1.out]
        have H1 := Lib.hid ((HB0.out _ _).trans (b.mono (HB0.out _ _).size))
        have X1 := Lib.hid ((X0.out _).keep b (X0.out _).lt)
        have Y1 := Lib.hid ((Y0.out _).keep b (Y0.out _).lt)
        clear b
        obtain ⟨c0, c1, c2, c3, c4, c5, c6⟩ := X1.out
        obtain ⟨d0, d1, d2, d3, d4, d5, d6⟩ := Y1.out
        go_wp2_with fail
        clear c0 c1 c2 c3 c4 c5 c6 d0 d1 d2 d3 d4 d5 d6
        go_at_call 98; refine (slEqual_any _ _ _ _ _ (G4.out _ H1.out).1 (G4.out _ H1.out).2 n2 m2).mono ?_; rintro e w2 ⟨rfl, m2', rfl⟩
        rw [T2.out]
        have H2 := Lib.hid (below_drewN H1.out (m2'))
        have X2 := Lib.hid (X1.out.keep (below_drewN (Below.refl _ _) (m2')) X1.out.lt)
        have Y2 := Lib.hid (Y1.out.keep (below_drewN (Below.refl _ _) (m2')) Y1.out.lt)
        obtain ⟨c0, c1, c2, c3, c4, c5, c6⟩ := X2.out
        obtain ⟨d0, d1, d2, d3, d4, d5, d6⟩ := Y2.out
        go_wp2_with fail
        clear c0 c1 c2 c3 c4 c5 c6 d0 d1 d2 d3 d4 d5 d6
        go_at_call 99; refine (eqJobs_any _ _ _ _ _ n3 m3 (G5.out _ H2.out).1 (G5.out _ H2.out).2).mono ?_; rintro e w3 ⟨rfl, m3', rfl⟩
        rw [T3.out, World.drewN_drewN]
        have H3 := Lib.hid (below_drewN H1.out (m2' + m3'))
        have X3 := Lib.hid (X1.out.keep (below_drewN (Below.refl _ _) (m2' + m3')) X1.out.lt)
        have Y3 := Lib.hid (Y1.out.keep (below_drewN (Below.refl _ _) (m2' + m3')) Y1.out.lt)
        obtain ⟨c0, c1, c2, c3, c4, c5, c6⟩ := X3.out
        obtain ⟨d0, d1, d2, d3, d4, d5, d6⟩ := Y3.out
        go_wp2_with fail
        go_ret
        exact says (by simp) H3.out
      | true =>
        go_enter Try.func53, Try.ntmps53
        go_wp2_with fail
        go_at_call 97; refine (implSameRows_any _ A.rows _ B.rows _ (G0.out _ (HB0.out _ _)).1 (G0.out _ (HB0.out _ _)).2 oRA oRB).mono ?_; rintro e w1 ⟨rfl, b⟩
        rw [T1.out]
        have H1 := Lib.hid ((HB0.out _ _).trans (b.mono (HB0.out _ _).size))
        have X1 := Lib.hid ((X0.out _).keep b (X0.out _).lt)
        have Y1 := Lib.hid ((Y0.out _).keep b (Y0.out _).lt)
        clear b
        obtain ⟨c0, c1, c2, c3, c4, c5, c6⟩ := X1.out
        obtain ⟨d0, d1, d2, d3, d4, d5, d6⟩ := Y1.out
        go_wp2_with fail
        clear c0 c1 c2 c3 c4 c5 c6 d0 d1 d2 d3 d4 d5 d6
        go_at_call 98; refine (slEqual_any _ _ _ _ _ (G4.out _ H1.out).1 (G4.out _ H1.out).2 n2 m2).mono ?_; rintro e w2 ⟨rfl, m2', rfl⟩
        rw [T2.out]
        have H2 := Lib.hid (below_drewN H1.out (m2'))
        have X2 := Lib.hid (X1.out.keep (below_drewN (Below.refl _ _) (m2')) X1.out.lt)
        have Y2 := Lib.hid (Y1.out.keep (below_drewN (Below.refl _ _) (m2')) Y1.out.lt)
        obtain ⟨c0, c1, c2, c3, c4, c5, c6⟩ := X2.out
        obtain ⟨d0, d1, d2, d3, d4, d5, d6⟩ := Y2.out
        go_wp2_with fail
        clear c0 c1 c2 c3 c4 c5 c6 d0 d1 d2 d3 d4 d5 d6
        go_at_call 99; refine (eqJobs_any _ _ _ _ _ n3 m3 (G5.out _ H2.out).1 (G5.out _ H2.out).2).mono ?_; rintro e w3 ⟨rfl, m3', rfl⟩
        rw [T3.out, World.drewN_drewN]
        have H3 := Lib.hid (below_drewN H1.out (m2' + m3'))
        have X3 := Lib.hid (X1.out.keep (below_drewN (Below.refl _ _) (m2' + m3')) X1.out.lt)
        have Y3 := Lib.hid (Y1.out.keep (below_drewN (Below.refl _ _) (m2' + m3')) Y1.out.lt)
        obtain ⟨c0, c1, c2, c3, c4, c5, c6⟩ := X3.out
        obtain ⟨d0, d1, d2, d3, d4, d5, d6⟩ := Y3.out
        go_wp2_with fail
        clear c0 c1 c2 c3 c4 c5 c6 d0 d1 d2 d3 d4 d5 d6
        go_at_call 98; refine (slEqual_any _ _ _ _ _ (G6.out _ H3.out).1 (G6.out _ H3.out).2 o4 p4).mono ?_; rintro e w4 ⟨rfl, m4', rfl⟩
        rw [T4.out, World.drewN_drewN]
        have H4 := Lib.hid (below_drewN H1.out (m2' + m3' + m4'))
        have X4 := Lib.hid (X1.out.keep (below_drewN (Below.refl _ _) (m2' + m3' + m4')) X1.out.lt)
        have Y4 := Lib.hid (Y1.out.keep (below_drewN (Below.refl _ _) (m2' + m3' + m4')) Y1.out.lt)
        obtain ⟨c0, c1, c2, c3, c4, c5, c6⟩ := X4.out
        obtain ⟨d0, d1, d2, d3, d4, d5, d6⟩ := Y4.out
        go_wp2_with fail
        go_ret
        exact says (by simp) H4.out
end Go.Proofs.Ytiobbclciboggaa
