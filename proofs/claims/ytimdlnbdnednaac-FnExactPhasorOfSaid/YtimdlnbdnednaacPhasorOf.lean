/- PhasorOf answers as its model, for every double. -/
import Derived.Test.YtimdlnbdnednaacTenthsOf
namespace Go.Proofs.Ytimdlnbdnednaac
open Go.ChangeShapes Go.WideShapes Go.ChangeAt Go.RowKit Go.ChangeMaps Ieee
attribute [local go_sem] run_add run_sub run_mul Fl.cls_ares Fl.ord_bits Fl.run_narrow call_f64from call_f32from

theorem run_ff {P : Program} (w : World) (b : Nat) : (Conv.floatToFloat .f32 b .f64).run P w = .ok (.float .f64 (Fl.wres w b)) (w.drewN (Fl.wdr b)) := by
  unfold Fl.wres Fl.wdr
  have e0 : FloatKind.f32.decode b = single.read b := rfl
  rcases Fl.read_cases Fl.single_ok b with h | h | h
  · have hn := Fl.fin_nan h
    have hw := (Fl.wide_fin h).1
    have hi := Fl.fin_inf hw
    have hr := Fl.read_fin h
    rw [hn]
    simp only [Bool.false_eq_true, if_false]
    have e1 : (FloatKind.f64.decode (FloatKind.f64.encode (single.read b))).isInfinity = false := hi
    rw [hr] at e1 ⊢
    simp [Conv.floatToFloat, e0, hr, e1]
    exact ⟨rfl, rfl⟩
  · rw [h]
    simp only [Datum.isNaN, Bool.false_eq_true, if_false]
    simp [Conv.floatToFloat, e0, h]
    exact ⟨rfl, rfl⟩
  · rw [h]
    simp only [if_true]
    cases hd : single.read b with
    | nan s t => simp [Conv.floatToFloat, e0, hd, choose, Fl.nanAt, World.drewN]; rfl
    | number s m e => rw [hd] at h; cases h
    | infinity s => rw [hd] at h; cases h
theorem run_cwide {P : Program} (w : World) (src dst : TypeId) (a b : Nat) (hs : (P.underlying src).isSome = true) (hd : P.underlying dst = some (.complex .f64)) :
    (convert src dst (.complex .f32 a b)).run P w = .ok (.complex .f64 (Fl.wres w a) (Fl.wres (w.drewN (Fl.wdr a)) b)) (w.drewN (Fl.wdr a + Fl.wdr b)) := by
  obtain ⟨u, hs'⟩ := Option.isSome_iff_exists.1 hs
  have h1 := run_ff (P := P) w a
  have h2 := run_ff (P := P) (w.drewN (Fl.wdr a)) b
  cases u <;> simp [convert, run_underlying hs', run_underlying hd, Conv.complexToComplex, h1, h2, World.drewN_drewN]

/-- The part of a turn, less j quarters. -/
def qC : Option Nat := litC 4598175219545276416
def phC (x : Nat) : Nat → Option Nat
  | 0 => partC x
  | j + 1 => subC (phC x j) qC
def Turn (x j : Nat) : Prop := (∀ i, i < j → geC (phC x i) qC = true) ∧ geC (phC x j) qC = false
theorem Turn.one {x j k : Nat} (h : Turn x j) (g : Turn x k) : j = k := by
  rcases Nat.lt_trichotomy j k with h1 | h1 | h1
  · have := g.1 j h1; rw [h.2] at this; cases this
  · exact h1
  · have := h.1 k h1; rw [g.2] at this; cases this
theorem rv_34 : Fl.rv double 4604930618986332160 = 3 / 4 := by
  rw [show (4604930618986332160 : Nat) = 1021 * double.binade + 6755399441055744 by decide, Fl.rv_of double (by decide) (by decide)]
  rw [Fl.double_lp]; decide +kernel
theorem quarter_off {C : Option Nat} {hi : Rat} {R : Nat} (h : BC C 0 hi) (hg : geC C qC = true) (hR : R < double.infRung) (hv : hi - 1 / 4 ≤ Fl.rv double R) : BC (subC C qC) 0 (Fl.rv double R) := by
  have h1 := (BC.ge_case h lit_quarter).1 hg
  obtain ⟨r, v, e, hn, i1, i2⟩ := BC.sub_near h1 lit_quarter
  show BC (subC C (litC 4598175219545276416)) _ _
  rw [e]
  exact near_pos hn hR (by grind) (by grind)
theorem ph0 {x : Nat} (h : BC (partC x) 0 1) : BC (phC x 0) 0 1 := h
theorem ph1 {x : Nat} (h : BC (partC x) 0 1) (g : geC (phC x 0) qC = true) : BC (phC x 1) 0 (3 / 4) := by
  have := quarter_off (R := 4604930618986332160) (ph0 h) g (by decide) (by rw [rv_34]; grind)
  rw [rv_34] at this; exact this
theorem ph2 {x : Nat} (h : BC (partC x) 0 1) (g0 : geC (phC x 0) qC = true) (g : geC (phC x 1) qC = true) : BC (phC x 2) 0 (1 / 2) := by
  have := quarter_off (R := 4602678819172646912) (ph1 h g0) g (by decide) (by rw [rv_half]; grind)
  rw [rv_half] at this; exact this
theorem ph3 {x : Nat} (h : BC (partC x) 0 1) (g0 : geC (phC x 0) qC = true) (g1 : geC (phC x 1) qC = true) (g : geC (phC x 2) qC = true) : BC (phC x 3) 0 (1 / 4) := by
  have := quarter_off (R := 4598175219545276416) (ph2 h g0 g1) g (by decide) (by rw [rv_quarter]; grind)
  rw [rv_quarter] at this; exact this
theorem ph4 {x : Nat} (h : BC (partC x) 0 1) (g0 : geC (phC x 0) qC = true) (g1 : geC (phC x 1) qC = true) (g2 : geC (phC x 2) qC = true) (g : geC (phC x 3) qC = true) : BC (phC x 4) 0 0 := by
  have := quarter_off (R := 0) (ph3 h g0 g1 g2) g (by decide) (by rw [Fl.rv_zero]; grind)
  rw [Fl.rv_zero] at this; exact this
theorem ph_few {x j : Nat} (h : BC (partC x) 0 1) (hj : ∀ i, i < j → geC (phC x i) qC = true) : j ≤ 4 := by
  rcases Nat.lt_or_ge 4 j with h1 | h1
  · exfalso
    have h4 := ph4 h (hj 0 (by omega)) (hj 1 (by omega)) (hj 2 (by omega)) (hj 3 (by omega))
    obtain ⟨r, _, _, a, b⟩ := (BC.ge_case h4 lit_quarter).1 (hj 4 (by omega))
    have : (1 / 4 : Rat) ≤ 0 := Rat.le_trans a b
    revert this; decide +kernel
  · exact h1
theorem ph_end {x j : Nat} (h : BC (partC x) 0 1) (t : Turn x j) : BC (phC x j) 0 (1 / 4) := by
  have hj := ph_few h t.1
  have hb : ∃ hi, BC (phC x j) 0 hi := by
    rcases (by omega : j = 0 ∨ j = 1 ∨ j = 2 ∨ j = 3 ∨ j = 4) with rfl | rfl | rfl | rfl | rfl
    · exact ⟨_, ph0 h⟩
    · exact ⟨_, ph1 h (t.1 0 (by omega))⟩
    · exact ⟨_, ph2 h (t.1 0 (by omega)) (t.1 1 (by omega))⟩
    · exact ⟨_, ph3 h (t.1 0 (by omega)) (t.1 1 (by omega)) (t.1 2 (by omega))⟩
    · exact ⟨_, ph4 h (t.1 0 (by omega)) (t.1 1 (by omega)) (t.1 2 (by omega)) (t.1 3 (by omega))⟩
  obtain ⟨hi, hb⟩ := hb
  exact (BC.ge_case hb lit_quarter).2 t.2
theorem ph_rest {C : Option Nat} (h : BC C 0 (1 / 4)) : BC (subC qC C) 0 (1 / 4) := by
  obtain ⟨r, v, e, hn, i1, i2⟩ := BC.sub_near lit_quarter h
  show BC (subC (litC 4598175219545276416) C) _ _
  rw [e]
  have := near_pos hn (R := 4598175219545276416) (by decide) (by grind) (by rw [rv_quarter]; grind)
  rw [rv_quarter] at this; exact this
/-- Small turns, from a class. -/
theorem bc_small {C : Option Nat} (h : BC C 0 (1 / 4)) : ∃ b, C = some b ∧ Small b ∧ BC (partC b) 0 1 := by
  obtain ⟨b, e, hf, a, c⟩ := h
  have hw : whole b = false := by
    cases hc : whole b with
    | false => rfl
    | true =>
      exfalso
      have h1 := (whole_iff hf).1 hc
      have hv : Fl.rv double (Fl.rg double b) ≤ 1 / 4 := by
        have := Fl.rv_nonneg double (Fl.rg double b)
        unfold Fl.sv at a c
        split at a <;> grind
      have : (2 : Rat) ^ 52 ≤ 1 / 4 := Rat.le_trans h1 hv
      revert this; decide +kernel
  exact ⟨b, e, small_of hf hw, partC_of_small hf hw⟩

/-- The point's parts. -/
def phR (j : Nat) (c s : Option Nat) : Option Nat := if j = 1 then Fl.narrowC (subC (litC 0) s) else if j = 2 then Fl.narrowC (subC (litC 0) c) else if j = 3 then Fl.narrowC s else Fl.narrowC c
def phI (j : Nat) (c s : Option Nat) : Option Nat := if j = 1 then Fl.narrowC c else if j = 2 then Fl.narrowC (subC (litC 0) s) else if j = 3 then Fl.narrowC (subC (litC 0) c) else Fl.narrowC s
def PhOf (x : Nat) (A B : Option Nat) : Prop :=
  (¬ Fl.Fin double x ∧ A = none ∧ B = none) ∨ (Fl.Fin double x ∧ whole x = true ∧ A = some 1065353216 ∧ B = some 0) ∨
  (Fl.Fin double x ∧ whole x = false ∧ ∃ j f g, Turn x j ∧ phC x j = some f ∧ subC qC (phC x j) = some g ∧ A = phR j (sineC g) (sineC f) ∧ B = phI j (sineC g) (sineC f))
theorem PhOf.one {x : Nat} {A B A' B' : Option Nat} (h : PhOf x A B) (k : PhOf x A' B') : A = A' ∧ B = B' := by
  rcases h with ⟨h1, rfl, rfl⟩ | ⟨h1, h2, rfl, rfl⟩ | ⟨h1, h2, j, f, g, t, e1, e2, rfl, rfl⟩ <;> rcases k with ⟨k1, rfl, rfl⟩ | ⟨k1, k2, rfl, rfl⟩ | ⟨k1, k2, j', f', g', t', d1, d2, rfl, rfl⟩
  · exact ⟨rfl, rfl⟩
  · exact absurd k1 h1
  · exact absurd k1 h1
  · exact absurd h1 k1
  · exact ⟨rfl, rfl⟩
  · rw [h2] at k2; cases k2
  · exact absurd h1 k1
  · rw [h2] at k2; cases k2
  · obtain rfl := t.one t'
    rw [e1] at d1; rw [e2] at d2
    injection d1 with d1; injection d2 with d2
    subst d1; subst d2
    exact ⟨rfl, rfl⟩
def PhAns (x : Nat) (w : World) (e : Ending) (w' : World) : Prop := ∃ A B a b n, PhOf x A B ∧ e = .returned (.complex .f32 a b) ∧ w' = w.drewN n ∧ Fl.cls .f32 a = A ∧ Fl.cls .f32 b = B

theorem wideSine_of (y b : Nat) (h : Fl.cls .f64 y = some b) (hs : Small b) (w : World) : Calls Try.prog 42 #[.float .f64 y] w (Ans64 (sineC b) w) := by
  obtain rfl := cls_inj h; exact wideSine_any y hs.int w
theorem specSine_of (y b : Nat) (h : Fl.cls .f64 y = some b) (hs : Small b) (w : World) : Calls Try.prog 62 #[.float .f64 y] w (Ans64 (sineC b) w) := by
  obtain rfl := cls_inj h; exact l01SineWide_any y hs w
/-- Four parts, narrowed. -/
structure Narrowed (g f c s : Nat) : Prop where
  c1 : ∀ W, Fl.cls .f32 (Fl.nres W c) = Fl.narrowC (sineC g)
  s1 : ∀ W, Fl.cls .f32 (Fl.nres W s) = Fl.narrowC (sineC f)
  c2 : ∀ W W', Fl.cls .f32 (Fl.nres W (Fl.ares W' .sub .f64 0 c)) = Fl.narrowC (subC (litC 0) (sineC g))
  s2 : ∀ W W', Fl.cls .f32 (Fl.nres W (Fl.ares W' .sub .f64 0 s)) = Fl.narrowC (subC (litC 0) (sineC f))
theorem narrowed {g f c s : Nat} (hg : BC (partC g) 0 1) (hf : BC (partC f) 0 1) (hc : Fl.cls .f64 c = sineC g) (hs : Fl.cls .f64 s = sineC f) : Narrowed g f c s := by
  have pg := sineC_pc hg
  have pf := sineC_pc hf
  have pz : PC (litC 0) 67 := BC.mono lit_zero (by decide +kernel) (by decide +kernel)
  refine ⟨fun W => nres_pc W hc pg (by decide), fun W => nres_pc W hs pf (by decide), fun W W' => nres_pc W ?_ (PC.sub pz pg (by decide)) (by decide), fun W W' => nres_pc W ?_ (PC.sub pz pf (by decide)) (by decide)⟩
  · rw [Fl.cls_ares, hc]; rfl
  · rw [Fl.cls_ares, hs]; rfl

set_option maxHeartbeats 4000000 in
theorem implPh_part (x : Nat) (hf : Fl.Fin double x) (hw : whole x = false) (hx : x < 18446744073709551616) (w : World) : Calls Try.prog 13 #[.float .f64 x] w (PhAns x w) := by
  have HX := Lib.hid hx
  have HF := Lib.hid hf
  have HW := Lib.hid hw
  have HP := Lib.hid (partC_of_small hf hw)
  have HI := Lib.hid (small_of hf hw).int
  have H64 := Lib.hid (fin64_yes hf)
  clear hx hf hw
  go_enter Try.func13, Try.ntmps13
  go_wp2_with fail
  go_at_call 37; refine (isFinite64_any _ HX.out _).mono ?_; rw [H64.out]; rintro e w' ⟨rfl, rfl⟩
  go_wp2_with fail
  go_at_call 40; refine (isWhole_any _ HX.out _).mono ?_; rw [HW.out]; rintro e w' ⟨rfl, rfl⟩
  go_wp2_with fail
  go_at_call 41; refine (partOfTurn_any x HI.out _).mono ?_; rintro e w' ⟨r, n, rfl, rfl, hc⟩
  have HR := Lib.hid hc
  clear hc
  go_wp2
  go_loopw [3, 4] (fun f q wr => ∃ j : Nat, j ≤ 4 ∧ q = .int .i64 j ∧ Is (phC x j) f ∧ (∀ i, i < j → geC (phC x i) qC = true) ∧ ∃ n, wr = w.drewN n) (fun _ q _ => 4 - (intOf q).toNat)
  case atStart => exact ⟨0, by omega, rfl, ⟨_, rfl, HR.out⟩, fun i hi => by omega, _, rfl⟩
  case round =>
    obtain ⟨j, hj, rfl, ⟨f, rfl, hf⟩, hall, m, rfl⟩ := hrel
    have HF1 := Lib.hid hf
    have HA := Lib.hid hall
    clear hall
    cases hg : geC (phC x j) qC with
    | true =>
      have HA2 : Hid (∀ i, i < j + 1 → geC (phC x i) qC = true) := Lib.hid (fun i hi => by
        rcases Nat.lt_or_ge i j with h1 | h1
        · exact HA.out i h1
        · obtain rfl : i = j := by omega
          exact hg)
      have hj4 : j + 1 ≤ 4 := ph_few HP.out HA2.out
      simp only [geC, qC, litC] at hg
      go_wp2
      clear hf hg
      go_roundw
      case rel => exact ⟨j + 1, by omega, by go_num, ⟨_, rfl, by rw [Fl.cls_ares, HF1.out]; rfl⟩, HA2.out, _, rfl⟩
      case measure => simp [intOf]; omega
    | false =>
      have t : Turn x j := ⟨HA.out, hg⟩
      have hb := ph_end HP.out t
      obtain ⟨fb, e1, sm1, pb1⟩ := bc_small hb
      obtain ⟨gb, e2, sm2, pb2⟩ := bc_small (ph_rest hb)
      have HT := Lib.hid t
      have HE1 := Lib.hid e1
      have HE2 := Lib.hid e2
      have HS1 := Lib.hid sm1
      have HS2 := Lib.hid sm2
      have HPB := Lib.hid (show BC (partC gb) 0 1 ∧ BC (partC fb) 0 1 from ⟨pb2, pb1⟩)
      simp only [geC, qC, litC] at hg
      clear t hb e1 e2 sm1 sm2 pb1 pb2
      go_wp2_with fail
      clear hf hg
      go_at_call 42; refine (wideSine_of _ gb (by rw [Fl.cls_ares, HF1.out]; exact HE2.out) HS2.out _).mono ?_; rintro e w' ⟨c, n1, rfl, rfl, hc⟩
      have HC := Lib.hid hc
      clear hc
      go_wp2_with fail
      go_at_call 42; refine (wideSine_of _ fb (by rw [HF1.out]; exact HE1.out) HS1.out _).mono ?_; rintro e w' ⟨s, n2, rfl, rfl, hs⟩
      have HN := Lib.hid (narrowed HPB.out.1 HPB.out.2 HC.out hs)
      clear hs
      rcases (by omega : j = 1 ∨ j = 2 ∨ j = 3 ∨ (j = 0 ∨ j = 4)) with rfl | rfl | rfl | h04
      · go_wp2
        refine bodyPost_ret (results_tmp rfl _ _ _) rfl ?_
        exact ⟨_, _, _, _, _, Or.inr (Or.inr ⟨HF.out, HW.out, 1, fb, gb, HT.out, HE1.out, HE2.out, rfl, rfl⟩), rfl, rfl, HN.out.s2 _ _, HN.out.c1 _⟩
      · go_wp2
        refine bodyPost_ret (results_tmp rfl _ _ _) rfl ?_
        exact ⟨_, _, _, _, _, Or.inr (Or.inr ⟨HF.out, HW.out, 2, fb, gb, HT.out, HE1.out, HE2.out, rfl, rfl⟩), rfl, rfl, HN.out.c2 _ _, HN.out.s2 _ _⟩
      · go_wp2
        refine bodyPost_ret (results_tmp rfl _ _ _) rfl ?_
        exact ⟨_, _, _, _, _, Or.inr (Or.inr ⟨HF.out, HW.out, 3, fb, gb, HT.out, HE1.out, HE2.out, rfl, rfl⟩), rfl, rfl, HN.out.s1 _, HN.out.c2 _ _⟩
      · rcases h04 with rfl | rfl
        · go_wp2
          refine bodyPost_ret (results_tmp rfl _ _ _) rfl ?_
          exact ⟨_, _, _, _, _, Or.inr (Or.inr ⟨HF.out, HW.out, 0, fb, gb, HT.out, HE1.out, HE2.out, rfl, rfl⟩), rfl, rfl, HN.out.c1 _, HN.out.s1 _⟩
        · go_wp2
          refine bodyPost_ret (results_tmp rfl _ _ _) rfl ?_
          exact ⟨_, _, _, _, _, Or.inr (Or.inr ⟨HF.out, HW.out, 4, fb, gb, HT.out, HE1.out, HE2.out, rfl, rfl⟩), rfl, rfl, HN.out.c1 _, HN.out.s1 _⟩

set_option maxHeartbeats 4000000 in
theorem specPh_part (x : Nat) (hf : Fl.Fin double x) (hw : whole x = false) (w : World) : Calls Try.prog 36 #[.float .f64 x] w (PhAns x w) := by
  have HF := Lib.hid hf
  have HW := Lib.hid hw
  have HP := Lib.hid (partC_of_small hf hw)
  obtain ⟨hself, hup, hdown, hv⟩ := small_of hf hw
  have hcv := conv_int x hv
  clear hf hw hv
  cases h0 : ltC (part0 x) (litC 0)
  all_goals
    have HPC := Lib.hid (partC_of x h0)
    simp only [ltC, litC, subC, intC, part0] at h0
    go_enter Try.func36, Try.ntmps36
    go_wp2
    have hph : Hid (∀ W W', Fl.cls .f64 (Fl.ares W .sub .f64 x (floatOfInt .f64 (toI x))) = part0 x ∧ Fl.cls .f64 (Fl.ares W' .add .f64 (Fl.ares W .sub .f64 x (floatOfInt .f64 (toI x))) 4607182418800017408) = addC (part0 x) (litC 4607182418800017408)) := Lib.hid (fun W W' => ⟨by rw [Fl.cls_ares]; rfl, by rw [Fl.cls_ares, Fl.cls_ares]; rfl⟩)
    clear h0 hself hup hdown hcv
    go_loopw [3, 4] (fun f q wr => ∃ j : Nat, j ≤ 4 ∧ q = .int .i64 j ∧ Is (phC x j) f ∧ (∀ i, i < j → geC (phC x i) qC = true) ∧ ∃ n, wr = w.drewN n) (fun _ q _ => 4 - (intOf q).toNat)
    case atStart => exact ⟨0, by omega, rfl, ⟨_, rfl, by rw [show phC x 0 = partC x from rfl, HPC.out]; first | exact (hph.out _ default).1 | exact (hph.out _ _).2⟩, fun i hi => by omega, _, rfl⟩
    case round =>
      obtain ⟨j, hj, rfl, ⟨f, rfl, hf⟩, hall, m, rfl⟩ := hrel
      have HF1 := Lib.hid hf
      have HA := Lib.hid hall
      clear hall
      cases hg : geC (phC x j) qC with
      | true =>
        have HA2 : Hid (∀ i, i < j + 1 → geC (phC x i) qC = true) := Lib.hid (fun i hi => by
          rcases Nat.lt_or_ge i j with h1 | h1
          · exact HA.out i h1
          · obtain rfl : i = j := by omega
            exact hg)
        have hj4 : j + 1 ≤ 4 := ph_few HP.out HA2.out
        simp only [geC, qC, litC] at hg
        go_wp2
        clear hf hg
        go_roundw
        case rel => exact ⟨j + 1, by omega, by go_num, ⟨_, rfl, by rw [Fl.cls_ares, HF1.out]; rfl⟩, HA2.out, _, rfl⟩
        case measure => simp [intOf]; omega
      | false =>
        have t : Turn x j := ⟨HA.out, hg⟩
        have hb := ph_end HP.out t
        obtain ⟨fb, e1, sm1, pb1⟩ := bc_small hb
        obtain ⟨gb, e2, sm2, pb2⟩ := bc_small (ph_rest hb)
        have HT := Lib.hid t
        have HE1 := Lib.hid e1
        have HE2 := Lib.hid e2
        have HS1 := Lib.hid sm1
        have HS2 := Lib.hid sm2
        have HPB := Lib.hid (show BC (partC gb) 0 1 ∧ BC (partC fb) 0 1 from ⟨pb2, pb1⟩)
        simp only [geC, qC, litC] at hg
        clear t hb e1 e2 sm1 sm2 pb1 pb2
        go_wp2_with fail
        clear hf hg
        go_at_call 62; refine (specSine_of _ gb (by rw [Fl.cls_ares, HF1.out]; exact HE2.out) HS2.out _).mono ?_; rintro e w' ⟨c, n1, rfl, rfl, hc⟩
        have HC := Lib.hid hc
        clear hc
        go_wp2_with fail
        go_at_call 62; refine (specSine_of _ fb (by rw [HF1.out]; exact HE1.out) HS1.out _).mono ?_; rintro e w' ⟨s, n2, rfl, rfl, hs⟩
        have HN := Lib.hid (narrowed HPB.out.1 HPB.out.2 HC.out hs)
        clear hs
        rcases (by omega : j = 1 ∨ j = 2 ∨ j = 3 ∨ (j = 0 ∨ j = 4)) with rfl | rfl | rfl | h04
        · go_wp2
          refine bodyPost_ret (results_tmp rfl _ _ _) rfl ?_
          exact ⟨_, _, _, _, _, Or.inr (Or.inr ⟨HF.out, HW.out, 1, fb, gb, HT.out, HE1.out, HE2.out, rfl, rfl⟩), rfl, rfl, HN.out.s2 _ _, HN.out.c1 _⟩
        · go_wp2
          refine bodyPost_ret (results_tmp rfl _ _ _) rfl ?_
          exact ⟨_, _, _, _, _, Or.inr (Or.inr ⟨HF.out, HW.out, 2, fb, gb, HT.out, HE1.out, HE2.out, rfl, rfl⟩), rfl, rfl, HN.out.c2 _ _, HN.out.s2 _ _⟩
        · go_wp2
          refine bodyPost_ret (results_tmp rfl _ _ _) rfl ?_
          exact ⟨_, _, _, _, _, Or.inr (Or.inr ⟨HF.out, HW.out, 3, fb, gb, HT.out, HE1.out, HE2.out, rfl, rfl⟩), rfl, rfl, HN.out.s1 _, HN.out.c2 _ _⟩
        · rcases h04 with rfl | rfl
          · go_wp2
            refine bodyPost_ret (results_tmp rfl _ _ _) rfl ?_
            exact ⟨_, _, _, _, _, Or.inr (Or.inr ⟨HF.out, HW.out, 0, fb, gb, HT.out, HE1.out, HE2.out, rfl, rfl⟩), rfl, rfl, HN.out.c1 _, HN.out.s1 _⟩
          · go_wp2
            refine bodyPost_ret (results_tmp rfl _ _ _) rfl ?_
            exact ⟨_, _, _, _, _, Or.inr (Or.inr ⟨HF.out, HW.out, 4, fb, gb, HT.out, HE1.out, HE2.out, rfl, rfl⟩), rfl, rfl, HN.out.c1 _, HN.out.s1 _⟩

theorem quiet_nan : Fl.cls .f32 2143289344 = none := by decide
theorem implPh_nan (x : Nat) (h : ¬ Fl.Fin double x) (hx : x < 18446744073709551616) (w : World) : Calls Try.prog 13 #[.float .f64 x] w (PhAns x w) := by
  have HF : Hid (fin64 x = false) := Lib.hid (by unfold fin64; unfold Fl.Fin at h; rw [Fl.double_inf] at h; simpa using h)
  have HN := Lib.hid h
  clear h
  go_enter Try.func13, Try.ntmps13
  go_wp2_with fail
  go_at_call 37; refine (isFinite64_any _ hx _).mono ?_; rw [HF.out]; rintro e w' ⟨rfl, rfl⟩
  go_wp2
  refine bodyPost_ret (results_tmp rfl _ _ _) rfl ?_
  exact ⟨_, _, _, _, _, Or.inl ⟨HN.out, rfl, rfl⟩, rfl, rfl, nres_nan _ nanC, nres_nan _ nanC⟩
theorem implPh_whole (x : Nat) (hf : Fl.Fin double x) (hw : whole x = true) (hx : x < 18446744073709551616) (w : World) : Calls Try.prog 13 #[.float .f64 x] w (PhAns x w) := by
  have HX := Lib.hid hx
  have HF := Lib.hid hf
  have HW := Lib.hid hw
  have H64 := Lib.hid (fin64_yes hf)
  clear hx hf hw
  go_enter Try.func13, Try.ntmps13
  go_wp2_with fail
  go_at_call 37; refine (isFinite64_any _ HX.out _).mono ?_; rw [H64.out]; rintro e w' ⟨rfl, rfl⟩
  go_wp2_with fail
  go_at_call 40; refine (isWhole_any _ HX.out _).mono ?_; rw [HW.out]; rintro e w' ⟨rfl, rfl⟩
  go_wp2
  refine bodyPost_ret (results_tmp rfl _ _ _) rfl ?_
  exact ⟨_, _, _, _, 0, Or.inr (Or.inl ⟨HF.out, HW.out, rfl, rfl⟩), rfl, rfl, by decide, by decide⟩
theorem specPh_nan (x : Nat) (h : ¬ Fl.Fin double x) (w : World) : Calls Try.prog 36 #[.float .f64 x] w (PhAns x w) := by
  have hs := self_none (sub_not_fin h)
  have HN := Lib.hid h
  clear h
  go_enter Try.func36, Try.ntmps36
  go_wp2
  refine bodyPost_ret (results_tmp rfl _ _ _) rfl ?_
  exact ⟨_, _, _, _, _, Or.inl ⟨HN.out, rfl, rfl⟩, rfl, rfl, quiet_nan, quiet_nan⟩
/-- Whole turns, as the model's guard has them. -/
theorem whole_guard {x : Nat} (hf : Fl.Fin double x) (hw : whole x = true) :
    (Fl.ordC .f64 (Fl.cls .f64 x) (Fl.cls .f64 4841369599423283200) == some Ordering.gt || Fl.ordC .f64 (Fl.cls .f64 x) (Fl.cls .f64 4841369599423283200) == some Ordering.eq) = true ∨
    ((Fl.ordC .f64 (Fl.cls .f64 x) (Fl.cls .f64 4841369599423283200) == some Ordering.gt || Fl.ordC .f64 (Fl.cls .f64 x) (Fl.cls .f64 4841369599423283200) == some Ordering.eq) = false ∧
     (Fl.ordC .f64 (Fl.cls .f64 x) (Fl.cls .f64 14064741636278059008) == some Ordering.lt || Fl.ordC .f64 (Fl.cls .f64 x) (Fl.cls .f64 14064741636278059008) == some Ordering.eq) = true) := by
  have hb := (whole_iff hf).1 hw
  obtain ⟨b, hb1, fb, b1, b2⟩ := lit52
  obtain ⟨c, hc1, fc, c1, c2⟩ := litm52
  have hc : Fl.cls .f64 x = some x := Fl.cls_some (k := .f64) (Fl.fin_nan hf)
  have e1 : Fl.cls .f64 4841369599423283200 = some b := hb1
  have e2 : Fl.cls .f64 14064741636278059008 = some c := hc1
  rw [hc, e1, e2]
  cases hsg : Fl.sg double x with
  | false =>
    left
    show (double.order x b == some .gt || double.order x b == some .eq) = true
    have hv : Fl.sv double x = Fl.rv double (Fl.rg double x) := by unfold Fl.sv; rw [hsg]; rfl
    by_cases heq : Fl.sv double x = Fl.sv double b
    · rw [(Fl.order_fin hf fb).2.1.2 heq]; rfl
    · rw [(Fl.order_fin hf fb).2.2.2 (by grind)]; rfl
  | true =>
    right
    have hv : Fl.sv double x = -(Fl.rv double (Fl.rg double x)) := by unfold Fl.sv; rw [hsg]; rfl
    have hlt : Fl.sv double x < Fl.sv double b := by
      have : (0 : Rat) < (2 : Rat) ^ 52 := Rat.pow_pos (by decide)
      grind
    constructor
    · show (double.order x b == some .gt || double.order x b == some .eq) = false
      rw [(Fl.order_fin hf fb).1.2 hlt]; rfl
    · show (double.order x c == some .lt || double.order x c == some .eq) = true
      by_cases heq : Fl.sv double x = Fl.sv double c
      · rw [(Fl.order_fin hf fc).2.1.2 heq]; rfl
      · rw [(Fl.order_fin hf fc).1.2 (by grind)]; rfl
theorem specPh_whole (x : Nat) (hf : Fl.Fin double x) (hw : whole x = true) (w : World) : Calls Try.prog 36 #[.float .f64 x] w (PhAns x w) := by
  have hs := self_zero hf
  have HF := Lib.hid hf
  have HW := Lib.hid hw
  rcases whole_guard hf hw with h1 | ⟨h1, h2⟩
  all_goals
    clear hf hw
    go_enter Try.func36, Try.ntmps36
    go_wp2
    refine bodyPost_ret (results_tmp rfl _ _ _) rfl ?_
    exact ⟨_, _, _, _, _, Or.inr (Or.inl ⟨HF.out, HW.out, rfl, rfl⟩), rfl, rfl, by decide, by decide⟩
theorem specPh_any (x : Nat) (w : World) : Calls Try.prog 36 #[.float .f64 x] w (PhAns x w) := by
  by_cases hf : Fl.Fin double x
  · cases hw : whole x with
    | true => exact specPh_whole x hf hw w
    | false => exact specPh_part x hf hw w
  · exact specPh_nan x hf w
theorem implPh_any (x : Nat) (hx : x < 18446744073709551616) (w : World) : Calls Try.prog 13 #[.float .f64 x] w (PhAns x w) := by
  by_cases hf : Fl.Fin double x
  · cases hw : whole x with
    | true => exact implPh_whole x hf hw hx w
    | false => exact implPh_part x hf hw hx w
  · exact implPh_nan x hf hx w
theorem sameComplex_any (a b c d : Nat) (h1 : Fl.cls .f64 a = Fl.cls .f64 c) (h2 : Fl.cls .f64 b = Fl.cls .f64 d) (w : World) :
    Calls Try.prog 14 #[.complex .f64 a b, .complex .f64 c d] w fun e w' => e = .returned (.bool true) ∧ ∃ n, w' = w.drewN n := by
  have H1 := Lib.hid h1
  have H2 := Lib.hid h2
  clear h1 h2
  go_enter Try.func14, Try.ntmps14
  go_wp2_with fail
  go_at_call 19; refine (same_any _ _ H1.out _).mono ?_; rintro e w' ⟨rfl, n, rfl⟩
  go_wp2_with fail
  go_at_call 19; refine (same_any _ _ H2.out _).mono ?_; rintro e w' ⟨rfl, n2, rfl⟩
  go_wp2
  go_ret
  exact ⟨rfl, _, rfl⟩
attribute [local go_sem] run_cwide
theorem fnExactPhasorOf_any (x : Nat) (hx : x < 18446744073709551616) (w : World) :
    Calls Try.prog 3 #[.float .f64 x] w fun e w' => e = .returned (.bool true) ∧ Below w.heap.size w w' := by
  have HX := Lib.hid hx
  clear hx
  go_enter Try.func3, Try.ntmps3
  go_wp2_with (go_at_call 12; go_in)
  go_at_call 36; refine (specPh_any _ _).mono ?_; rintro e w' ⟨A, B, a, b, n, hp, rfl, rfl, ha, hb⟩
  have HP := Lib.hid hp
  have HA := Lib.hid ha
  have HB := Lib.hid hb
  clear hp ha hb
  go_wp2_with fail
  go_at_call 13; refine (implPh_any _ HX.out _).mono ?_; rintro e w' ⟨C, D, c, d, n2, hp, rfl, rfl, hc, hd⟩
  have HC : Hid (Fl.cls .f32 c = Fl.cls .f32 a ∧ Fl.cls .f32 d = Fl.cls .f32 b) := Lib.hid ⟨by rw [hc, HA.out]; exact (hp.one HP.out).1, by rw [hd, HB.out]; exact (hp.one HP.out).2⟩
  clear hp hc hd
  go_wp2_with (go_at_call 14; refine (sameComplex_any _ _ _ _ (by rw [Fl.cls_wres, Fl.cls_wres, HC.out.1]) (by rw [Fl.cls_wres, Fl.cls_wres, HC.out.2]) _).mono ?_; rintro e w' ⟨rfl, n, rfl⟩)
  go_ret
  exact ⟨rfl, below_drewN (Below.refl _ _) _⟩


set_option maxRecDepth 100000 in
theorem fnExactPhasorOf_lifted (os : Os) (started : os.Started) (H : Type) (enc : TypeId × Value → H) :
    ReturnsInHanded {} Try.checked os 3 .any (Rows.fnExactPhasorOfSpec.pre6 enc Try.prog Try.f3 [] false) (Rows.fnExactPhasorOfSpec.post enc Try.prog Try.f3 false true false false) := by
  refine Frame.law_lifted (tb := 4) Try.own started (by kernel_rfl) Try.func3
    (ChangeSpec.witness6 (enc := enc) (C := Try.checked) false ⟨#[], #[.float .f64 0], []⟩ 8 (by kernel_rfl) (by kernel_rfl) (by kernel_rfl) (by kernel_rfl))
    Try.laidOut (by kernel_rfl) rfl (by kernel_rfl) Try.underlying4 (fun ds hd => ?_) ?_
  · rw [Try.params3] at hd
    match ds, hd with
    | [_], _ => exact ⟨rfl, rfl, rfl⟩
  intro W base args ds p hval0 hA0 hlt hsz0
  have hval : ∀ (j : Nat) t v, Try.f3.params[j]? = some t → args[j]? = some v → Value.okWide Try.prog W .any base t v := hval0
  have hA : DataW.TrodAll enc Try.prog W 0 (fun _ => true) true Try.f3.params.toList args.toList ds p := hA0
  have hsz : (DataW.weightsEach Try.prog Try.f3.params.toList ds).all (· ≤ reachBytes) = true := hsz0
  rw [Try.params3] at hA hval hsz
  clear hval0 hA0 hsz0
  obtain ⟨v0, d0, rfl, rfl, h0⟩ := trodAll_one hA
  obtain ⟨a0, rfl, rfl, rfl, w0⟩ := open_float Try.underlying22 (hval 0 22 v0 rfl rfl) h0
  have b0 := f64_lt w0
  exact fnExactPhasorOf_any a0 b0 W

theorem fnExactPhasorOf_holds : Rows.FnExactPhasorOfSaid :=
  OpenClaim.holds_of_wide 3 Try.f3 rfl rfl rfl rfl rfl rfl rfl ⟨rfl, rfl, rfl, rfl, rfl⟩ rfl rfl rfl rfl rfl (by kernel_rfl) Try.func3 (by kernel_rfl)
    (of_decide_eq_true (by kernel_rfl)) (by unfold Func.isWrapper; first | (rw [if_pos (by decide +kernel)]; kernel_rfl) | (rw [if_neg (by decide +kernel)]; exact ⟨rfl, rfl⟩))
    (fun os started H enc _ => fnExactPhasorOf_lifted os started H enc)
end Go.Proofs.Ytimdlnbdnednaac
