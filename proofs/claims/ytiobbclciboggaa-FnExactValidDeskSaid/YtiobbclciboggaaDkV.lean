/- ValidDesk: both sides. -/
import Derived.Test.YtiobbclciboggaaDkT
import Derived.Test.YtiobbclciboggaaViD
import Derived.Test.YtiobbclciboggaaSizes
import Derived.Test.YtiobbclciboggaaJbI
import Derived.Test.YtiobbclciboggaaJbS
import Derived.Test.YtiobbclciboggaaCity
namespace Go.Proofs.Ytiobbclciboggaa
open Go.RowKit Go.ChangeShapes Go.WideShapes

def waysB (L : List Int) : Bool := decide ((L.length : Int) ≤ 64) && cityB L
def deskB (D : Dk) : Bool := okR D.rows && (sizesB D.sizes && (jobsB D.jobs && waysB D.ways))
theorem areDeskWays_any (v : Value) (L : List Int) (w : World) (hv : IL w v L) (o : OKI L) :
    Calls Try.prog 104 #[v] w (Says (waysB L) w) := by
  have HV := Lib.hid hv
  obtain ⟨ao, cap, rfl⟩ := hv.long
  have HC := Lib.hid (implAreCities_any _ L w hv o)
  have hn := o.size
  clear hv
  by_cases h : (L.length : Int) ≤ 64
  · have e : waysB L = cityB L := by unfold waysB; rw [decide_eq_true h]; rfl
    obtain ⟨t, ht⟩ : ∃ t, cityB L = t := ⟨_, rfl⟩
    have HT := Lib.hid ht
    rw [e, ht]
    rw [ht] at HC
    clear e ht
    go_enter Try.func104, Try.ntmps104
    go_wp2_with fail
    go_at_call 151; refine HC.out.mono ?_; rintro e w1 ⟨rfl, b⟩
    go_wp2_with fail
    go_ret
    exact says rfl b
  · have e : waysB L = false := by unfold waysB; rw [decide_eq_false h]; rfl
    rw [e]
    clear e HC
    go_enter Try.func104, Try.ntmps104
    go_wp2_with fail
    go_ret
    exact says rfl (Below.refl _ _)
theorem l08Ways_any (v : Value) (L : List Int) (w : World) (hv : IL w v L) (hn : L.length ≤ 1048576) :
    Calls Try.prog 144 #[v] w (Tells (waysB L) w) := by
  have HV := Lib.hid hv
  obtain ⟨ao, cap, rfl⟩ := hv.long
  have HC := Lib.hid (l04Count_any _ L w hv hn)
  have hp := cityN_pos L
  clear hv
  by_cases h : (L.length : Int) ≤ 64
  · have e : waysB L = decide (0 < cityN L) := by unfold waysB; rw [decide_eq_true h, hp]; rfl
    obtain ⟨z, hz⟩ : ∃ z, cityN L = z := ⟨_, rfl⟩
    rw [e, hz]
    rw [hz] at HC
    clear e hz hp
    obtain ⟨t, ht⟩ : ∃ t, decide (0 < z) = t := ⟨_, rfl⟩
    rw [ht]
    have HT := Lib.hid ht
    clear ht
    go_enter Try.func144, Try.ntmps144
    go_wp2_with fail
    go_at_call 166; refine HC.out.mono ?_; rintro e w1 ⟨rfl, m, rfl⟩
    go_wp2_with fail
    go_ret
    exact tells _ HT.out
  · have e : waysB L = false := by unfold waysB; rw [decide_eq_false h]; rfl
    rw [e]
    clear e HC hp
    go_enter Try.func144, Try.ntmps144
    go_wp2_with fail
    go_ret
    exact tells 0 rfl
theorem desk_ok {D : Dk} (o : OKDk D) : D.rows.size ≤ 1048576 ∧ D.sizes.length ≤ 1048576 ∧ D.jobs.length ≤ 1048576 ∧ OKI D.ways := by
  have h := o.size
  unfold Dk.sz at h
  exact ⟨by omega, by omega, by omega, ⟨by omega, o.fit.2.2.2⟩⟩
set_option maxHeartbeats 4000000 in
theorem implValidDesk_any (v : Value) (D : Dk) (w : World) (hv : DkV w v D) (o : OKDk D) :
    Calls Try.prog 55 #[v] w (Says (deskB D) w) := by
  obtain ⟨n1, n2, n3, o4⟩ := desk_ok o
  obtain ⟨s1, s2, s3, z, j, y, rfl, g1, g2, g3, g4, g5, g6⟩ := hv
  have G0 : Hid (∀ W, Below w.heap.size w W → RV W (.agg #[.int .i64 D.rows.vars, s1, s2, s3]) D.rows) := Lib.hid fun W h => ⟨s1, s2, s3, rfl, g1.below h (Nat.le_refl _), g2.below h (Nat.le_refl _), g3.below h (Nat.le_refl _)⟩
  have G4 : Hid (∀ W, Below w.heap.size w W → IL W z D.sizes) := Lib.hid fun W h => g4.below h (Nat.le_refl _)
  have G5 : Hid (∀ W, Below w.heap.size w W → AV W j D.jobs) := Lib.hid fun W h => g5.below h (Nat.le_refl _)
  have G6 : Hid (∀ W, Below w.heap.size w W → IL W y D.ways) := Lib.hid fun W h => g6.below h (Nat.le_refl _)
  have HB0 := Lib.hid (fun A => below_alloc w A)
  have X0 := Lib.hid (Box7.mk' w (.int .i64 D.rows.vars) s1 s2 s3 z j y 56)
  obtain ⟨t1, h1⟩ : ∃ t, okR D.rows = t := ⟨_, rfl⟩
  obtain ⟨t2, h2⟩ : ∃ t, sizesB D.sizes = t := ⟨_, rfl⟩
  obtain ⟨t3, h3⟩ : ∃ t, jobsB D.jobs = t := ⟨_, rfl⟩
  obtain ⟨t4, h4⟩ : ∃ t, waysB D.ways = t := ⟨_, rfl⟩
  have e : deskB D = (t1 && (t2 && (t3 && t4))) := by unfold deskB; rw [h1, h2, h3, h4]
  rw [e]
  have T1 := Lib.hid h1
  have T2 := Lib.hid h2
  have T3 := Lib.hid h3
  have T4 := Lib.hid h4
  clear g1 g2 g3 g4 g5 g6 o e h1 h2 h3 h4
  cases t1 with
  | false =>
    go_enter Try.func55, Try.ntmps55
    go_wp2_with fail
    go_at_call 101; refine (implValid_any _ D.rows _ (G0.out _ (HB0.out _)) n1).mono ?_; rintro e w1 ⟨rfl, b⟩
    rw [T1.out]
    have H1 := Lib.hid ((HB0.out _).trans (b.mono (HB0.out _).size))
    have X1 := Lib.hid (X0.out.keep b X0.out.lt)
    clear b
    obtain ⟨c0, c1, c2, c3, c4, c5, c6⟩ := X1.out
    go_wp2_with fail
    go_ret
    exact says (by simp) H1.out
  | true =>
    cases t2 with
    | false =>
      go_enter Try.func55, Try.ntmps55
      go_wp2_with fail
      go_at_call 101; refine (implValid_any _ D.rows _ (G0.out _ (HB0.out _)) n1).mono ?_; rintro e w1 ⟨rfl, b⟩
      rw [T1.out]
      have H1 := Lib.hid ((HB0.out _).trans (b.mono (HB0.out _).size))
      have X1 := Lib.hid (X0.out.keep b X0.out.lt)
      clear b
      obtain ⟨c0, c1, c2, c3, c4, c5, c6⟩ := X1.out
      go_wp2_with fail
      go_at_call 102; refine (implSizes_any _ D.sizes _ (G4.out _ H1.out) n2).mono ?_; rintro e w2 ⟨rfl, m2, rfl⟩
      rw [T2.out]
      have H2 := Lib.hid (below_drewN H1.out m2)
      have X2 := Lib.hid (X1.out.keep (below_drewN (Below.refl w1.heap.size w1) m2) X1.out.lt)
      clear c0 c1 c2 c3 c4 c5 c6
      obtain ⟨c0, c1, c2, c3, c4, c5, c6⟩ := X2.out
      go_wp2_with fail
      go_ret
      exact says (by simp) H2.out
    | true =>
      cases t3 with
      | false =>
        go_enter Try.func55, Try.ntmps55
        go_wp2_with fail
        go_at_call 101; refine (implValid_any _ D.rows _ (G0.out _ (HB0.out _)) n1).mono ?_; rintro e w1 ⟨rfl, b⟩
        rw [T1.out]
        have H1 := Lib.hid ((HB0.out _).trans (b.mono (HB0.out _).size))
        have X1 := Lib.hid (X0.out.keep b X0.out.lt)
        clear b
        obtain ⟨c0, c1, c2, c3, c4, c5, c6⟩ := X1.out
        go_wp2_with fail
        go_at_call 102; refine (implSizes_any _ D.sizes _ (G4.out _ H1.out) n2).mono ?_; rintro e w2 ⟨rfl, m2, rfl⟩
        rw [T2.out]
        have H2 := Lib.hid (below_drewN H1.out m2)
        have X2 := Lib.hid (X1.out.keep (below_drewN (Below.refl w1.heap.size w1) m2) X1.out.lt)
        clear c0 c1 c2 c3 c4 c5 c6
        obtain ⟨c0, c1, c2, c3, c4, c5, c6⟩ := X2.out
        go_wp2_with fail
        go_at_call 103; refine (areJobs_any _ D.jobs _ (G5.out _ H2.out) n3).mono ?_; rintro e w3 ⟨rfl, b⟩
        rw [T3.out]
        have H3 := Lib.hid (H2.out.trans (b.mono H2.out.size))
        have X3 := Lib.hid (X2.out.keep b X2.out.lt)
        clear b c0 c1 c2 c3 c4 c5 c6
        obtain ⟨c0, c1, c2, c3, c4, c5, c6⟩ := X3.out
        go_wp2_with fail
        go_ret
        exact says (by simp) H3.out
      | true =>
        go_enter Try.func55, Try.ntmps55
        go_wp2_with fail
        go_at_call 101; refine (implValid_any _ D.rows _ (G0.out _ (HB0.out _)) n1).mono ?_; rintro e w1 ⟨rfl, b⟩
        rw [T1.out]
        have H1 := Lib.hid ((HB0.out _).trans (b.mono (HB0.out _).size))
        have X1 := Lib.hid (X0.out.keep b X0.out.lt)
        clear b
        obtain ⟨c0, c1, c2, c3, c4, c5, c6⟩ := X1.out
        go_wp2_with fail
        go_at_call 102; refine (implSizes_any _ D.sizes _ (G4.out _ H1.out) n2).mono ?_; rintro e w2 ⟨rfl, m2, rfl⟩
        rw [T2.out]
        have H2 := Lib.hid (below_drewN H1.out m2)
        have X2 := Lib.hid (X1.out.keep (below_drewN (Below.refl w1.heap.size w1) m2) X1.out.lt)
        clear c0 c1 c2 c3 c4 c5 c6
        obtain ⟨c0, c1, c2, c3, c4, c5, c6⟩ := X2.out
        go_wp2_with fail
        go_at_call 103; refine (areJobs_any _ D.jobs _ (G5.out _ H2.out) n3).mono ?_; rintro e w3 ⟨rfl, b⟩
        rw [T3.out]
        have H3 := Lib.hid (H2.out.trans (b.mono H2.out.size))
        have X3 := Lib.hid (X2.out.keep b X2.out.lt)
        clear b c0 c1 c2 c3 c4 c5 c6
        obtain ⟨c0, c1, c2, c3, c4, c5, c6⟩ := X3.out
        go_wp2_with fail
        go_at_call 104; refine (areDeskWays_any _ D.ways _ (G6.out _ H3.out) o4).mono ?_; rintro e w4 ⟨rfl, b⟩
        rw [T4.out]
        have H4 := Lib.hid (H3.out.trans (b.mono H3.out.size))
        clear b c0 c1 c2 c3 c4 c5 c6
        go_wp2_with fail
        go_ret
        exact says (by simp) H4.out
theorem Box7.rp {w : World} {g : Nat} {s1 s2 s3 z j y : Value} {R : Rw} (h : Box7 w g (.int .i64 R.vars) s1 s2 s3 z j y) (g1 : SL w s1 R.N) (g2 : SL w s2 R.B) (g3 : SL w s3 R.G) : RP w g s1 s2 s3 R := ⟨h.c0, h.c1, h.c2, h.c3, g1, g2, g3⟩
set_option maxHeartbeats 4000000 in
theorem l08Is_any (g : Nat) (s1 s2 s3 z j y : Value) (D : Dk) (w : World) (X : Box7 w g (.int .i64 D.rows.vars) s1 s2 s3 z j y) (hv : DkV w (.agg #[.int .i64 D.rows.vars, s1, s2, s3, z, j, y]) D) (o : OKDk D) :
    Calls Try.prog 100 #[.pointer (some ⟨g, 0, none⟩)] w (Tells (deskB D) w) := by
  obtain ⟨n1, n2, n3, o4⟩ := desk_ok o
  obtain ⟨r1, r2, r3, rz, rj, ry, ev, g1, g2, g3, g4, g5, g6⟩ := hv
  simp only [Value.agg.injEq, Array.mk.injEq, List.cons.injEq, and_true, true_and] at ev
  obtain ⟨rfl, rfl, rfl, rfl, rfl, rfl⟩ := ev
  have XD : Hid (∀ m, Box7 (w.drewN m) g (.int .i64 D.rows.vars) s1 s2 s3 z j y) := Lib.hid fun m => X.keep (below_drewN (Below.refl w.heap.size w) m) X.lt
  have G0 := Lib.hid (X.rp g1 g2 g3)
  have G4 : Hid (∀ m, IL (w.drewN m) z D.sizes) := Lib.hid fun m => VL.drewN g4 m
  have G5 : Hid (∀ m, AV (w.drewN m) j D.jobs) := Lib.hid fun m => g5.dn m
  have G6 : Hid (∀ m, IL (w.drewN m) y D.ways) := Lib.hid fun m => VL.drewN g6 m
  obtain ⟨t1, h1⟩ : ∃ t, okR D.rows = t := ⟨_, rfl⟩
  obtain ⟨t2, h2⟩ : ∃ t, sizesB D.sizes = t := ⟨_, rfl⟩
  obtain ⟨t3, h3⟩ : ∃ t, jobsB D.jobs = t := ⟨_, rfl⟩
  obtain ⟨t4, h4⟩ : ∃ t, waysB D.ways = t := ⟨_, rfl⟩
  have e : deskB D = (t1 && (t2 && (t3 && t4))) := by unfold deskB; rw [h1, h2, h3, h4]
  rw [e]
  have T1 := Lib.hid h1
  have T2 := Lib.hid h2
  have T3 := Lib.hid h3
  have T4 := Lib.hid h4
  have o4s := o4.size
  have XX := Lib.hid X
  clear g1 g2 g3 g4 g5 g6 o e h1 h2 h3 h4 X
  cases t1 with
  | false =>
    go_enter Try.func100, Try.ntmps100
    go_wp2_with fail
    go_at_call 141; refine (l02Is_any g s1 s2 s3 D.rows _ G0.out n1).mono ?_; rintro e w1 ⟨rfl, m1, rfl⟩
    rw [T1.out]
    obtain ⟨c0, c1, c2, c3, c4, c5, c6⟩ := XX.out
    go_wp2_with fail
    go_ret
    exact tells _ (by simp) -- 1
  | true =>
    cases t2 with
    | false =>
      go_enter Try.func100, Try.ntmps100
      go_wp2_with fail
      go_at_call 141; refine (l02Is_any g s1 s2 s3 D.rows _ G0.out n1).mono ?_; rintro e w1 ⟨rfl, m1, rfl⟩
      rw [T1.out]
      obtain ⟨c0, c1, c2, c3, c4, c5, c6⟩ := XX.out
      go_wp2_with fail
      go_at_call 142; refine (l04Sizes_any _ D.sizes _ (G4.out _) n2).mono ?_; rintro e w2 ⟨rfl, m2, rfl⟩
      rw [T2.out, World.drewN_drewN]
      go_wp2_with fail
      go_ret
      exact tells _ (by simp) -- 2
    | true =>
      cases t3 with
      | false =>
        go_enter Try.func100, Try.ntmps100
        go_wp2_with fail
        go_at_call 141; refine (l02Is_any g s1 s2 s3 D.rows _ G0.out n1).mono ?_; rintro e w1 ⟨rfl, m1, rfl⟩
        rw [T1.out]
        obtain ⟨c0, c1, c2, c3, c4, c5, c6⟩ := XX.out
        go_wp2_with fail
        go_at_call 142; refine (l04Sizes_any _ D.sizes _ (G4.out _) n2).mono ?_; rintro e w2 ⟨rfl, m2, rfl⟩
        rw [T2.out, World.drewN_drewN]
        go_wp2_with fail
        go_at_call 143; refine (l06Are_any _ D.jobs _ (G5.out _) n3).mono ?_; rintro e w3 ⟨rfl, m3, rfl⟩
        rw [T3.out, World.drewN_drewN]
        go_wp2_with fail
        go_ret
        exact tells _ (by simp) -- 3
      | true =>
        go_enter Try.func100, Try.ntmps100
        go_wp2_with fail
        go_at_call 141; refine (l02Is_any g s1 s2 s3 D.rows _ G0.out n1).mono ?_; rintro e w1 ⟨rfl, m1, rfl⟩
        rw [T1.out]
        obtain ⟨c0, c1, c2, c3, c4, c5, c6⟩ := XX.out
        go_wp2_with fail
        go_at_call 142; refine (l04Sizes_any _ D.sizes _ (G4.out _) n2).mono ?_; rintro e w2 ⟨rfl, m2, rfl⟩
        rw [T2.out, World.drewN_drewN]
        go_wp2_with fail
        go_at_call 143; refine (l06Are_any _ D.jobs _ (G5.out _) n3).mono ?_; rintro e w3 ⟨rfl, m3, rfl⟩
        rw [T3.out, World.drewN_drewN]
        go_wp2_with fail
        go_at_call 144; refine (l08Ways_any _ D.ways _ (G6.out _) o4s).mono ?_; rintro e w4 ⟨rfl, m4, rfl⟩
        rw [T4.out, World.drewN_drewN]
        go_wp2_with fail
        go_ret
        exact tells _ (by simp) -- 4
set_option maxHeartbeats 1000000 in
theorem specValidDesk_any (v : Value) (D : Dk) (w : World) (hv : DkV w v D) (o : OKDk D) :
    Calls Try.prog 54 #[v] w (Says (deskB D) w) := by
  have hv0 := hv
  obtain ⟨s1, s2, s3, z, j, y, rfl, -⟩ := hv
  have HV : Hid (∀ A, DkV (w.alloc A) (.agg #[.int .i64 D.rows.vars, s1, s2, s3, z, j, y]) D) := Lib.hid fun A => hv0.below (below_alloc w A) (Nat.le_refl _)
  have HB0 := Lib.hid (fun A => below_alloc w A)
  have X0 := Lib.hid (Box7.mk' w (.int .i64 D.rows.vars) s1 s2 s3 z j y 56)
  clear hv0
  go_enter Try.func54, Try.ntmps54
  go_wp2_with fail
  go_at_call 100; refine (l08Is_any _ s1 s2 s3 z j y D _ X0.out (HV.out _) o).mono ?_; rintro e w1 ⟨rfl, m, rfl⟩
  go_wp2_with fail
  go_ret
  exact says rfl (below_drewN (HB0.out _) m)
end Go.Proofs.Ytiobbclciboggaa
