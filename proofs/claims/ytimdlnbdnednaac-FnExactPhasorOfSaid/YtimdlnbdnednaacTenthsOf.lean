/- TenthsOf answers as its model, for every number. -/
import Derived.Test.YtimdlnbdnednaacLogNumber
namespace Go.Proofs.Ytimdlnbdnednaac
open Go.ChangeShapes Go.WideShapes Go.ChangeAt Go.RowKit Go.ChangeMaps Ieee
attribute [local go_sem] run_add run_sub run_mul Fl.cls_ares Fl.ord_bits Fl.run_widen

/-- A double, made whole downwards. -/
def floorB (t : Nat) : Nat := double.write ((double.read t).integral .down)
theorem call_floor (t : Nat) (h : Fl.Fin double t) (w : World) : (callFunc 69 #[.float .f64 t]).run Try.prog w = .ok (.value (.float .f64 (floorB t))) w := by
  rw [run_callFunc_extern (e := Extern.MathFloor.toIntegral "math.archFloor" .down) Try.func69 (by kernel_rfl) (by kernel_rfl) (by kernel_rfl) (by kernel_rfl)]
  change ((match FloatKind.f64.decode t with
    | .nan s u =>
      if FloatKind.f64.format.quiet u = u then pure (.float .f64 t) else do
      let kept ← choose (.extern "math.Floor,Ceil,Trunc,RoundToEven.signallingNaN kept" 2)
      pure (.float .f64 (if kept == 1 then t else FloatKind.f64.encode (.nan s (FloatKind.f64.format.quiet u))))
    | d => pure (.float .f64 (FloatKind.f64.encode (d.integral .down))) : Sem Value).run _ w).andThen _ = _
  have hr : FloatKind.f64.decode t = .number (Fl.sg double t) (Fl.rk double (Fl.rg double t)) (double.leastPlace + (Fl.rq double (Fl.rg double t) : Nat)) := Fl.read_fin h
  have e : floorB t = FloatKind.f64.encode ((FloatKind.f64.decode t).integral .down) := rfl
  rw [e, hr]
  rfl
theorem floor_any (x t : Nat) (hx : Fl.cls .f64 x = some t) (h : Fl.Fin double t) (w : World) : Calls Try.prog 47 #[.float .f64 x] w fun e w' => e = .returned (.float .f64 (floorB t)) ∧ w = w' := by
  obtain rfl := cls_inj hx
  have hc := call_floor x h
  clear h hx
  go_enter Try.func47, Try.ntmps47
  go_wp2
  go_ret
  exact ⟨rfl, rfl⟩

theorem cutd_le {s : Bool} {n d K : Nat} (h : n ≤ K * 2 ^ d) : Toward.down.cut s n d ≤ K + 1 := by
  unfold Toward.cut
  simp only [Nat.one_shiftLeft]
  have hb : ∀ b : Bool, b.toNat ≤ 1 := fun b => by cases b <;> decide
  have h1 : n / 2 ^ min d (n.log2 + 2) ≤ K := by
    by_cases hd : d ≤ n.log2 + 2
    · rw [Nat.min_eq_left hd]
      exact Nat.div_le_of_le_mul (by rw [Nat.mul_comm]; exact h)
    · rw [Nat.min_eq_right (by omega)]
      have hn : n < 2 ^ (n.log2 + 1) := Nat.lt_log2_self
      have h2 : 2 ^ (n.log2 + 1) ≤ 2 ^ (n.log2 + 2) := Nat.pow_le_pow_right (by omega) (by omega)
      rw [Nat.div_eq_of_lt (by omega)]
      omega
  have := hb (s && n % 2 ^ min d (n.log2 + 2) != 0)
  omega
theorem floor_int {t : Nat} (h : Fl.Fin double t) (hb : Fl.rv double (Fl.rg double t) ≤ (2 : Rat) ^ 50) : floatToIntVal .f64 (floorB t) .i64 = some (toI (floorB t)) := by
  have hr := Fl.read_fin h
  obtain ⟨m, hm⟩ : ∃ m, m = Fl.rk double (Fl.rg double t) := ⟨_, rfl⟩
  obtain ⟨e, he⟩ : ∃ e : Int, e = double.leastPlace + (Fl.rq double (Fl.rg double t) : Nat) := ⟨_, rfl⟩
  have hv : Fl.rv double (Fl.rg double t) = Fl.qv m e := by unfold Fl.rv; rw [hm, he]
  rw [← hm, ← he] at hr
  rw [hv] at hb
  have h50 : (2 : Rat) ^ 50 = Fl.qv (2 ^ 50) 0 := by rw [qv_nat, Rat.natCast_pow]; rfl
  rw [h50, Fl.qv_le] at hb
  obtain ⟨M, hM⟩ : ∃ M, M = Toward.down.cut (Fl.sg double t) (m <<< e.toNat) (-e).toNat := ⟨_, rfl⟩
  have hM2 : M ≤ 2 ^ 50 + 1 := by
    rw [hM]
    apply cutd_le
    rw [Nat.shiftLeft_eq]
    rw [show (e - 0).toNat = e.toNat by omega, show (0 - e).toNat = (-e).toNat by omega] at hb
    exact hb
  have hfl : floorB t = double.write (.number (Fl.sg double t) M 0) := by
    unfold floorB
    rw [hr, hM]; rfl
  obtain ⟨R, hR, hRv⟩ := int_rung (m := M) (by omega)
  have hw := Fl.write_exact (s := Fl.sg double t) hR hRv
  have hrg : Fl.rg double (floorB t) = R := by
    rw [hfl, Fl.write_rg]
    exact Fl.nrung_exact double _ (Nat.le_of_lt hR) hRv
  refine (trunc_facts (by rw [hfl]; exact hw.1) ?_).1
  rw [hrg, ← hRv, qv_nat]
  have : ((M : Nat) : Rat) ≤ ((2 ^ 52 : Nat) : Rat) := Rat.natCast_le_natCast.2 (by omega)
  rw [Rat.natCast_pow] at this
  exact this

/-- The tenths, before they are made whole. -/
def tenC (b : Nat) (n : Int) : Option Nat := addC (mulC (logC b n) (litC 4631308968768463603)) (litC 4602678819172646912)
theorem tenC_pc {b : Nat} (h : b < 4609434218613702656) {n : Int} (h0 : -512 ≤ n) (h1 : n ≤ 512) : PC (tenC b n) 50 := by
  have hl := logC_pc h h0 h1
  have hc : PC (litC 4631308968768463603) 6 := by
    have h := lit_bc (b := 4631308968768463603) (by omega)
    have h2 : Fl.rv double 4631308968768463603 ≤ Fl.rv double (pw 6) := Fl.rv_le_of _ (by decide) (by decide)
    rw [rv_pw] at h2
    have h3 := Fl.rv_nonneg double 4631308968768463603
    have h4 := pow_nonneg 6
    exact BC.mono h (by grind) h2
  have hh : PC (litC 4602678819172646912) 49 := BC.mono lit_half (by decide +kernel) (by decide +kernel)
  exact PC.add (PC.mul hl hc (by decide)) hh (by decide)
theorem pc_bits {C : Option Nat} {j : Nat} (h : PC C j) : ∃ t, C = some t ∧ Fl.Fin double t ∧ Fl.rv double (Fl.rg double t) ≤ (2 : Rat) ^ j := by
  obtain ⟨t, e, f, a, b⟩ := h
  refine ⟨t, e, f, ?_⟩
  unfold Fl.sv at a b
  split at a <;> grind
/-- The tenths of decibels of a positive double. -/
def TenOf (x : Nat) (n : Int) : Prop := ∃ j i t, Steps (double.write (single.read x)) j i ∧ tenC (double.write (single.read x) - j * 4503599627370496 + i * 4503599627370496) ((j : Int) - (i : Int)) = some t ∧ n = toI (floorB t)
theorem TenOf.one {x : Nat} {n m : Int} (h : TenOf x n) (k : TenOf x m) : n = m := by
  obtain ⟨j, i, t, hs, ht, rfl⟩ := h
  obtain ⟨j', i', t', hs', ht', rfl⟩ := k
  obtain ⟨rfl, rfl⟩ := hs.one hs'
  rw [ht] at ht'
  injection ht' with ht'
  rw [ht']

theorem self32 (x : Nat) : (Fl.ordC .f32 (Fl.arC .sub .f32 (Fl.cls .f32 x) (Fl.cls .f32 x)) (Fl.cls .f32 0) == some Ordering.eq) = decide (Fl.rg single x < single.infRung) := by
  rcases Fl.read_cases Fl.single_ok x with h | h | h
  · obtain ⟨r, hr, near⟩ := Fl.sub_near h h
    have hc : Fl.cls .f32 x = some x := Fl.cls_some (k := .f32) (Fl.fin_nan h)
    rw [Rat.sub_self] at near
    have b := near.bound 0 (by decide) (by rw [Fl.rv_zero]; decide) (by rw [Fl.rv_zero]; decide)
    rw [Fl.rv_zero] at b
    have h0 : Fl.Fin single 0 := by unfold Fl.Fin; decide
    have hz : Fl.sv single 0 = 0 := by unfold Fl.sv; rw [show Fl.sg single 0 = false by decide, show Fl.rg single 0 = 0 by decide, Fl.rv_zero]; rfl
    have e : Fl.arC .sub .f32 (Fl.cls .f32 x) (Fl.cls .f32 x) = some r := by rw [hc]; exact hr
    rw [e, show Fl.cls .f32 0 = some 0 by decide, decide_eq_true (show Fl.rg single x < single.infRung from h)]
    show (single.order r 0 == some .eq) = true
    rw [(Fl.order_fin b.1 h0).2.1.2 (by rw [hz]; grind)]; rfl
  · have hc : Fl.cls .f32 x = some x := Fl.cls_some (k := .f32) (by show (single.read x).isNaN = false; rw [h]; rfl)
    have hf : ¬ Fl.rg single x < single.infRung := fun hl => by have := Fl.fin_inf (f := single) (b := x) hl; rw [h] at this; cases this
    have e : Fl.arC .sub .f32 (some x) (some x) = none := by
      show single.sub x x = none
      unfold Format.sub
      rw [h]
      cases Fl.sg single x <;> rfl
    rw [hc, e, decide_eq_false hf]; rfl
  · have hf : ¬ Fl.rg single x < single.infRung := fun hl => by have := Fl.fin_nan (f := single) (b := x) hl; rw [h] at this; cases this
    rw [Fl.cls_none (k := .f32) h, decide_eq_false hf]; rfl
theorem l01Finite_any (x : Nat) (w : World) : Calls Try.prog 43 #[.float .f32 x] w fun e w' => e = .returned (.bool (decide (Fl.rg single x < single.infRung))) ∧ ∃ n, w' = w.drewN n := by
  have H := Lib.hid (self32 x)
  go_enter Try.func43, Try.ntmps43
  go_wp2
  go_ret
  exact ⟨by rw [← H.out]; rfl, _, rfl⟩
theorem fin_dec (x : Nat) (w : World) : fin64 (Fl.wres w x) = decide (Fl.rg single x < single.infRung) := by
  rcases Fl.read_cases Fl.single_ok x with h | h | h
  · rw [(wide_one h).1 w, fin64_yes (Fl.wide_fin h).1, decide_eq_true (show Fl.rg single x < single.infRung from h)]
  · have hf : ¬ Fl.rg single x < single.infRung := fun hl => by have := Fl.fin_inf (f := single) (b := x) hl; rw [h] at this; cases this
    rw [decide_eq_false hf]
    have e : Fl.wres w x = double.write (.infinity (Fl.sg single x)) := by unfold Fl.wres; rw [h]; rfl
    rw [e]
    cases Fl.sg single x <;> decide
  · have hf : ¬ Fl.rg single x < single.infRung := fun hl => by have := Fl.fin_nan (f := single) (b := x) hl; rw [h] at this; cases this
    rw [decide_eq_false hf]
    have hc := Fl.cls_wres w x
    rw [Fl.cls_none (k := .f32) h] at hc
    unfold fin64
    apply decide_eq_false
    intro hl
    have : Fl.Fin double (Fl.wres w x) := by unfold Fl.Fin; rw [Fl.double_inf]; exact hl
    rw [Fl.cls_some (k := .f64) (Fl.fin_nan this)] at hc; cases hc
theorem implFin_any (x : Nat) (w : World) : Calls Try.prog 45 #[.float .f32 x] w fun e w' => e = .returned (.bool (decide (Fl.rg single x < single.infRung))) ∧ ∃ n, w' = w.drewN n := by
  have := implFinite_any x w
  rw [fin_dec] at this
  exact this

theorem notf {b : Bool} (h : (true && !b) = false) : b = true := by cases b <;> first | rfl | cases h
/-- Is a single finite and greater than zero? -/
def posB (x : Nat) : Bool := decide (Fl.rg single x < single.infRung) && !(Fl.ordC .f32 (Fl.cls .f32 x) (Fl.cls .f32 0) == some Ordering.lt || Fl.ordC .f32 (Fl.cls .f32 x) (Fl.cls .f32 0) == some Ordering.eq)
def TenAns (x : Nat) (w : World) (e : Ending) (w' : World) : Prop :=
  (posB x = true ∧ ∃ n k, TenOf x n ∧ e = .returned (.tuple #[.int .i64 n, .bool true]) ∧ w' = w.drewN k) ∨ (posB x = false ∧ ∃ k, e = .returned (.tuple #[.int .i64 0, .bool false]) ∧ w' = w.drewN k)
theorem pos_true {x : Nat} (h : posB x = true) : Fl.Fin single x ∧ 0 < Fl.sv single x := by
  unfold posB at h
  simp only [Bool.and_eq_true, decide_eq_true_eq, Bool.not_eq_true', Bool.or_eq_false_iff] at h
  obtain ⟨hf, h1, h2⟩ := h
  refine ⟨hf, ?_⟩
  have c1 : Fl.cls .f32 x = some x := Fl.cls_some (k := .f32) (Fl.fin_nan hf)
  have z1 : Fl.Fin Ieee.single 0 := by unfold Fl.Fin; decide
  have s1 : Fl.sv Ieee.single 0 = 0 := by unfold Fl.sv; rw [show Fl.sg Ieee.single 0 = false by decide, show Fl.rg Ieee.single 0 = 0 by decide, Fl.rv_zero]; rfl
  have o1 := Fl.order_fin hf z1
  rw [s1] at o1
  rw [c1, show Fl.cls .f32 0 = some 0 by decide] at h1 h2
  have g1 : ¬ Fl.sv single x < 0 := fun hc => by
    have : (single.order x 0 == some Ordering.lt) = false := h1
    rw [o1.1.2 hc] at this; cases this
  have g2 : ¬ Fl.sv single x = 0 := fun hc => by
    have : (single.order x 0 == some Ordering.eq) = false := h2
    rw [o1.2.1.2 hc] at this; cases this
  grind
theorem conv_floor {t : Nat} (h : floatToIntVal .f64 (floorB t) .i64 = some (toI (floorB t))) (W : World) : (convert 22 2 (.float .f64 (floorB t))).run Try.prog W = .ok (.int .i64 (toI (floorB t))) W := conv_int _ h W

theorem specTen_pos (x : Nat) (h : Fl.Fin single x) (hp : 0 < Fl.sv single x) (w : World) : Calls Try.prog 44 #[.float .f32 x] w fun e w' => ∃ n k, TenOf x n ∧ e = .returned (.int .i64 n) ∧ w' = w.drewN k := by
  obtain ⟨h1, h2⟩ := wide_one h
  have HM := Lib.hid (mid_of h hp)
  clear h hp
  go_enter Try.func44, Try.ntmps44
  go_wp2_with fail
  go_at_call 68; refine (l01LogWide_any _ HM.out _).mono ?_; rintro e w' ⟨j, i, r, n, hst, hj, hi, rfl, rfl, hc⟩
  obtain ⟨t, ht, ft, vt⟩ := pc_bits (tenC_pc hst.high (n := (j : Int) - (i : Int)) (by omega) (by omega))
  have HT : Hid (∀ W W' : World, Fl.cls .f64 (Fl.ares W .add .f64 (Fl.ares W' .mul .f64 r 4631308968768463603) 4602678819172646912) = some t) := Lib.hid (fun W W' => by rw [Fl.cls_ares, Fl.cls_ares, hc]; exact ht)
  have HF := Lib.hid ft
  have hcv := conv_floor (floor_int ft vt)
  have HR : Hid (TenOf x (toI (floorB t))) := Lib.hid ⟨j, i, t, hst, ht, rfl⟩
  clear hc hst hj hi ht ft vt
  go_wp2_with (go_at_call 47; refine (floor_any _ t (HT.out _ _) HF.out _).mono ?_; rintro e w' ⟨rfl, rfl⟩)
  refine bodyPost_ret (results_tmp rfl _ _ _) rfl ?_
  exact ⟨_, _, HR.out, rfl, rfl⟩
set_option maxHeartbeats 1000000 in
theorem specTen_any (x : Nat) (w : World) : Calls Try.prog 15 #[.float .f32 x] w (TenAns x w) := by
  cases hp : posB x with
  | true =>
    obtain ⟨hf, h0⟩ := pos_true hp
    have HP := Lib.hid hp
    have hle : (Fl.ordC .f32 (Fl.cls .f32 x) (Fl.cls .f32 0) == some Ordering.lt || Fl.ordC .f32 (Fl.cls .f32 x) (Fl.cls .f32 0) == some Ordering.eq) = false := by
      unfold posB at hp; simp only [Bool.and_eq_true, Bool.not_eq_true'] at hp; exact hp.2
    have HD : Hid (decide (Fl.rg single x < single.infRung) = true) := Lib.hid (decide_eq_true hf)
    have HF := Lib.hid hf
    have H0 := Lib.hid h0
    clear hp hf h0
    go_enter Try.func15, Try.ntmps15
    go_wp2_with fail
    go_at_call 43; refine (l01Finite_any _ _).mono ?_; rw [HD.out]; rintro e w' ⟨rfl, n0, rfl⟩
    go_wp2_with fail
    go_at_call 44; refine (specTen_pos _ HF.out H0.out _).mono ?_; rintro e w' ⟨n, k, ht, rfl, rfl⟩
    have HT := Lib.hid ht
    clear ht
    go_wp2
    refine bodyPost_ret (results_tmp2 rfl _ _ _) rfl ?_
    exact Or.inl ⟨HP.out, _, _, HT.out, rfl, rfl⟩
  | false =>
    have HP := Lib.hid hp
    cases hd : decide (Fl.rg single x < single.infRung) with
    | true =>
      have hle : (Fl.ordC .f32 (Fl.cls .f32 x) (Fl.cls .f32 0) == some Ordering.lt || Fl.ordC .f32 (Fl.cls .f32 x) (Fl.cls .f32 0) == some Ordering.eq) = true := by
        unfold posB at hp; rw [hd] at hp; exact notf hp
      have HD := Lib.hid hd
      clear hp hd
      go_enter Try.func15, Try.ntmps15
      go_wp2_with fail
      go_at_call 43; refine (l01Finite_any _ _).mono ?_; rw [HD.out]; rintro e w' ⟨rfl, n0, rfl⟩
      go_wp2
      refine bodyPost_ret (results_tmp2 rfl _ _ _) rfl ?_
      exact Or.inr ⟨HP.out, _, rfl, rfl⟩
    | false =>
      have HD := Lib.hid hd
      clear hp hd
      go_enter Try.func15, Try.ntmps15
      go_wp2_with fail
      go_at_call 43; refine (l01Finite_any _ _).mono ?_; rw [HD.out]; rintro e w' ⟨rfl, n0, rfl⟩
      go_wp2
      refine bodyPost_ret (results_tmp2 rfl _ _ _) rfl ?_
      exact Or.inr ⟨HP.out, _, rfl, rfl⟩
set_option maxHeartbeats 1000000 in
theorem implTen_any (x : Nat) (w : World) : Calls Try.prog 16 #[.float .f32 x] w (TenAns x w) := by
  cases hp : posB x with
  | true =>
    obtain ⟨hf, h0⟩ := pos_true hp
    obtain ⟨h1, h2⟩ := wide_one hf
    have HM := Lib.hid (mid_of hf h0)
    have HP := Lib.hid hp
    have hle : (Fl.ordC .f32 (Fl.cls .f32 x) (Fl.cls .f32 0) == some Ordering.lt || Fl.ordC .f32 (Fl.cls .f32 x) (Fl.cls .f32 0) == some Ordering.eq) = false := by
      unfold posB at hp; simp only [Bool.and_eq_true, Bool.not_eq_true'] at hp; exact hp.2
    have HD : Hid (decide (Fl.rg single x < single.infRung) = true) := Lib.hid (decide_eq_true hf)
    clear hp hf h0
    go_enter Try.func16, Try.ntmps16
    go_wp2_with fail
    go_at_call 45; refine (implFin_any _ _).mono ?_; rw [HD.out]; rintro e w' ⟨rfl, n0, rfl⟩
    go_wp2_with fail
    go_at_call 46; refine (wideLog_any _ HM.out _).mono ?_; rintro e w' ⟨j, i, r, n, hst, hj, hi, rfl, rfl, hc⟩
    obtain ⟨t, ht, ft, vt⟩ := pc_bits (tenC_pc hst.high (n := (j : Int) - (i : Int)) (by omega) (by omega))
    have HT : Hid (∀ W W' : World, Fl.cls .f64 (Fl.ares W .add .f64 (Fl.ares W' .mul .f64 r 4631308968768463603) 4602678819172646912) = some t) := Lib.hid (fun W W' => by rw [Fl.cls_ares, Fl.cls_ares, hc]; exact ht)
    have HF := Lib.hid ft
    have hcv := conv_floor (floor_int ft vt)
    have HR : Hid (TenOf x (toI (floorB t))) := Lib.hid ⟨j, i, t, hst, ht, rfl⟩
    clear hc hst hj hi ht ft vt
    go_wp2_with (go_at_call 47; refine (floor_any _ t (HT.out _ _) HF.out _).mono ?_; rintro e w' ⟨rfl, rfl⟩)
    refine bodyPost_ret (results_tmp2 rfl _ _ _) rfl ?_
    exact Or.inl ⟨HP.out, _, _, HR.out, rfl, rfl⟩
  | false =>
    have HP := Lib.hid hp
    cases hd : decide (Fl.rg single x < single.infRung) with
    | true =>
      have hle : (Fl.ordC .f32 (Fl.cls .f32 x) (Fl.cls .f32 0) == some Ordering.lt || Fl.ordC .f32 (Fl.cls .f32 x) (Fl.cls .f32 0) == some Ordering.eq) = true := by
        unfold posB at hp; rw [hd] at hp; exact notf hp
      have HD := Lib.hid hd
      clear hp hd
      go_enter Try.func16, Try.ntmps16
      go_wp2_with fail
      go_at_call 45; refine (implFin_any _ _).mono ?_; rw [HD.out]; rintro e w' ⟨rfl, n0, rfl⟩
      go_wp2
      refine bodyPost_ret (results_tmp2 rfl _ _ _) rfl ?_
      exact Or.inr ⟨HP.out, _, rfl, rfl⟩
    | false =>
      have HD := Lib.hid hd
      clear hp hd
      go_enter Try.func16, Try.ntmps16
      go_wp2_with fail
      go_at_call 45; refine (implFin_any _ _).mono ?_; rw [HD.out]; rintro e w' ⟨rfl, n0, rfl⟩
      go_wp2
      refine bodyPost_ret (results_tmp2 rfl _ _ _) rfl ?_
      exact Or.inr ⟨HP.out, _, rfl, rfl⟩
theorem TenAns.both {x : Nat} {w w1 w' w2 : World} {e e2 : Ending} (h : TenAns x w e w') (k : TenAns x w1 e2 w2) : ∃ n b k1 k2, e = .returned (.tuple #[.int .i64 n, .bool b]) ∧ e2 = .returned (.tuple #[.int .i64 n, .bool b]) ∧ w' = w.drewN k1 ∧ w2 = w1.drewN k2 := by
  rcases h with ⟨hp, n, k1, ht, rfl, rfl⟩ | ⟨hp, k1, rfl, rfl⟩ <;> rcases k with ⟨hq, m, k2, hu, rfl, rfl⟩ | ⟨hq, k2, rfl, rfl⟩
  · obtain rfl := ht.one hu; exact ⟨_, _, _, _, rfl, rfl, rfl, rfl⟩
  · rw [hp] at hq; cases hq
  · rw [hp] at hq; cases hq
  · exact ⟨_, _, _, _, rfl, rfl, rfl, rfl⟩
theorem fnExactTenthsOf_any (x : Nat) (w : World) :
    Calls Try.prog 4 #[.float .f32 x] w fun e w' => e = .returned (.bool true) ∧ Below w.heap.size w w' := by
  go_enter Try.func4, Try.ntmps4
  go_wp2_with fail
  go_at_call 15; refine (specTen_any _ _).mono ?_; intro e w1 h1
  have H1 := Lib.hid h1
  have hsh : ∃ n b k, e = .returned (.tuple #[.int .i64 n, .bool b]) ∧ w1 = w.drewN k := by
    obtain ⟨n, b, k1, _, he, _, hw, _⟩ := h1.both h1; exact ⟨n, b, k1, he, hw⟩
  clear h1
  obtain ⟨n, b, k, rfl, rfl⟩ := hsh
  go_wp2_with fail
  go_at_call 16; refine (implTen_any _ _).mono ?_; intro e2 w2 h2
  obtain ⟨n', b', _, k2, he, he2, _, hw2⟩ := H1.out.both h2
  simp only [Ending.returned.injEq, Value.tuple.injEq, Array.mk.injEq, List.cons.injEq, Value.int.injEq, Value.bool.injEq, true_and, and_true] at he
  obtain ⟨rfl, rfl⟩ := he
  subst he2; subst hw2
  clear h2 H1
  go_wp2
  go_ret
  exact ⟨rfl, below_drewN (Below.refl _ _) _⟩


set_option maxRecDepth 100000 in
theorem fnExactTenthsOf_lifted (os : Os) (started : os.Started) (H : Type) (enc : TypeId × Value → H) :
    ReturnsInHanded {} Try.checked os 4 .any (Rows.fnExactTenthsOfSpec.pre6 enc Try.prog Try.f4 [] false) (Rows.fnExactTenthsOfSpec.post enc Try.prog Try.f4 false true false false) := by
  refine Frame.law_lifted (tb := 4) Try.own started (by kernel_rfl) Try.func4
    (ChangeSpec.witness6 (enc := enc) (C := Try.checked) false ⟨#[], #[.float .f32 0], []⟩ 8 (by kernel_rfl) (by kernel_rfl) (by kernel_rfl) (by kernel_rfl))
    Try.laidOut (by kernel_rfl) rfl (by kernel_rfl) Try.underlying4 (fun ds hd => ?_) ?_
  · rw [Try.params4] at hd
    match ds, hd with
    | [_], _ => exact ⟨rfl, rfl, rfl⟩
  intro W base args ds p hval0 hA0 hlt hsz0
  have hval : ∀ (j : Nat) t v, Try.f4.params[j]? = some t → args[j]? = some v → Value.okWide Try.prog W .any base t v := hval0
  have hA : DataW.TrodAll enc Try.prog W 0 (fun _ => true) true Try.f4.params.toList args.toList ds p := hA0
  have hsz : (DataW.weightsEach Try.prog Try.f4.params.toList ds).all (· ≤ reachBytes) = true := hsz0
  rw [Try.params4] at hA hval hsz
  clear hval0 hA0 hsz0
  obtain ⟨v0, d0, rfl, rfl, h0⟩ := trodAll_one hA
  obtain ⟨a0, rfl, rfl, rfl, w0⟩ := open_float Try.underlying28 (hval 0 28 v0 rfl rfl) h0
  have b0 := f32_lt w0
  exact fnExactTenthsOf_any a0 W

theorem fnExactTenthsOf_holds : Rows.FnExactTenthsOfSaid :=
  OpenClaim.holds_of_wide 4 Try.f4 rfl rfl rfl rfl rfl rfl rfl ⟨rfl, rfl, rfl, rfl, rfl⟩ rfl rfl rfl rfl rfl (by kernel_rfl) Try.func4 (by kernel_rfl)
    (of_decide_eq_true (by kernel_rfl)) (by unfold Func.isWrapper; first | (rw [if_pos (by decide +kernel)]; kernel_rfl) | (rw [if_neg (by decide +kernel)]; exact ⟨rfl, rfl⟩))
    (fun os started H enc _ => fnExactTenthsOf_lifted os started H enc)
end Go.Proofs.Ytimdlnbdnednaac
