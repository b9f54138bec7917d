/- LogNumber answers as its model, for every number. -/
import Derived.Test.YtimdlnbdnednaacLogS
import Derived.Test.YtimdlnbdnednaacFrame
import Derived.ProofKit
namespace Go.Proofs.Ytimdlnbdnednaac
open Go.ChangeShapes Go.WideShapes Go.ChangeAt Go.RowKit Go.ChangeMaps Ieee
attribute [local go_sem] run_sub run_quo run_neg Fl.cls_ares Fl.ord_bits Fl.run_widen Fl.run_narrow call_f64from Fl.cls_wres

theorem rv_le_two {b : Nat} (h : b < 4609434218613702656) : 0 ≤ Fl.rv double b ∧ Fl.rv double b ≤ 2 := by
  refine ⟨Fl.rv_nonneg _ _, ?_⟩
  have h2 : Fl.rv double b ≤ Fl.rv double (pw 1) := Fl.rv_le_of _ (by unfold pw; omega) (Nat.le_of_lt (pw_lt (by decide)))
  rw [rv_pw] at h2
  exact Rat.le_trans h2 (by decide +kernel)
theorem sL_pc {b : Nat} (h : b < 4609434218613702656) : PC (sL (some b)) 1 := by
  obtain ⟨_, _, hf, hv, _⟩ := word_facts (b := b) (by omega)
  have hb := rv_le_two h
  have hx : BC (some b) 0 2 := ⟨b, rfl, hf, by rw [hv]; exact hb.1, by rw [hv]; exact hb.2⟩
  obtain ⟨r, v, e, hn, i1, i2⟩ := BC.sub_near hx lit_one
  have h1 := near_bc hn (R := 4607182418800017408) (by decide) (by rw [rv_one]; grind) (by rw [rv_one]; grind)
  rw [rv_one] at h1
  obtain ⟨r2, v2, e2, hn2, k1, k2⟩ := BC.add_near hx lit_one
  have h2 := near_ge hn2 (pw_lt (j := 2) (by decide)) (Q := 4607182418800017408) (by decide) (by decide) (by rw [rv_one]; grind) (by rw [rv_pw, show (2 : Rat) ^ 2 = 4 by decide +kernel]; grind)
  rw [rv_one] at h2
  unfold sL
  show PC (quoC (subC _ (litC 4607182418800017408)) (addC _ (litC 4607182418800017408))) 1
  rw [e, e2]
  have h3 : PC (some r) 0 := BC.mono h1 (by decide +kernel) (by decide +kernel)
  exact PC.quo h3 h2 Rat.le_refl (by decide)
theorem odd25_bc {j : Nat} (h : j < 13) : BC (intC (25 - 2 * (j : Int))) 1 30 := by
  rcases (by omega : j = 0 ∨ j = 1 ∨ j = 2 ∨ j = 3 ∨ j = 4 ∨ j = 5 ∨ j = 6 ∨ j = 7 ∨ j = 8 ∨ j = 9 ∨ j = 10 ∨ j = 11 ∨ j = 12) with rfl | rfl | rfl | rfl | rfl | rfl | rfl | rfl | rfl | rfl | rfl | rfl | rfl
  all_goals exact BC.mono (intC_bc (by decide)) (by decide +kernel) (by decide +kernel)
theorem qL_pc {u : Option Nat} (h : PC u 2) : ∀ j, j ≤ 13 → PC (qL u j) (3 * j)
  | 0, _ => BC.mono lit_zero (by decide +kernel) (by decide +kernel)
  | j + 1, hj => by
    have ih := qL_pc h j (by omega)
    have h1 := PC.mul h ih (by omega)
    have h2 := PC.quo pc_one (odd25_bc (j := j) (by omega)) Rat.le_refl (by omega)
    have h3 := PC.add (h2.mono (j := 2 + 3 * j) (by omega)) h1 (by omega)
    exact h3.mono (by omega)
theorem lit_two : PC (litC 4611686018427387904) 1 := by
  have h := lit_bc (b := 4611686018427387904) (by omega)
  rw [show (4611686018427387904 : Nat) = pw 1 by decide, rv_pw] at h
  exact BC.mono h (by decide +kernel) Rat.le_refl
theorem lit_ln : PC (litC 4604418534313441775) 0 := by
  have h := lit_bc (b := 4604418534313441775) (by omega)
  have h2 : Fl.rv double 4604418534313441775 ≤ Fl.rv double (pw 0) := Fl.rv_le_of _ (by decide) (by decide)
  rw [rv_pw] at h2
  have h3 := Fl.rv_nonneg double 4604418534313441775
  have h4 := pow_nonneg 0
  exact BC.mono h (by grind) h2
theorem int_pc {n : Int} (h0 : -512 ≤ n) (h1 : n ≤ 512) : PC (intC n) 9 := by
  have h := intC_bc (n := n) (by omega)
  have e : (2 : Rat) ^ 9 = ((512 : Int) : Rat) := by decide +kernel
  have e2 : -((2 : Rat) ^ 9) = ((-512 : Int) : Rat) := by decide +kernel
  refine BC.mono h ?_ ?_
  · rw [e2]; exact Rat.intCast_le_intCast.2 h0
  · rw [e]; exact Rat.intCast_le_intCast.2 h1
theorem logC_pc {b : Nat} (h : b < 4609434218613702656) {n : Int} (h0 : -512 ≤ n) (h1 : n ≤ 512) : PC (logC b n) 43 := by
  have hs := sL_pc h
  have hu := PC.mul hs hs (by decide)
  have hq := qL_pc hu 13 (by decide)
  have hm := PC.mul lit_two (PC.mul hs hq (by decide)) (by decide)
  have hn := PC.mul (int_pc h0 h1) lit_ln (by decide)
  exact PC.mono (PC.add (hm.mono (j := 42) (by decide)) (hn.mono (j := 42) (by decide)) (by decide)) (by decide)

/-- A positive finite single, as a double. -/
theorem mid_of {x : Nat} (h : Fl.Fin single x) (hp : 0 < Fl.sv single x) : Mid (double.write (single.read x)) := by
  obtain ⟨f2, v2⟩ := Fl.wide_fin h
  have hr := Fl.read_fin h
  have hs : Fl.sg single x = false := by
    have := Fl.rv_nonneg single (Fl.rg single x)
    unfold Fl.sv at hp
    cases hc : Fl.sg single x with
    | false => rfl
    | true => rw [hc] at hp; simp only [if_true] at hp; grind
  have hs2 : Fl.sg double (double.write (single.read x)) = false := by rw [hr, hs]; exact Fl.write_sg _ _ _ _
  have hw : double.write (single.read x) < 2 ^ double.width := Format.write_lt _ _
  rw [show (2 : Nat) ^ double.width = 18446744073709551616 by decide] at hw
  have hv : Fl.rv double (Fl.rg double (double.write (single.read x))) = Fl.rv single (Fl.rg single x) := by
    unfold Fl.sv at v2
    rw [hs2, hs] at v2
    exact v2
  have hrg : Fl.rg double (double.write (single.read x)) = double.write (single.read x) := by
    unfold Fl.sg at hs2; unfold Fl.rg
    rw [Fl.double_S] at *
    have : double.write (single.read x) / 9223372036854775808 = 0 ∨ double.write (single.read x) / 9223372036854775808 = 1 := by omega
    rcases this with h1 | h1
    · omega
    · rw [h1] at hs2; cases hs2
  rw [hrg] at hv
  unfold Fl.Fin at f2
  rw [hrg, Fl.double_inf] at f2
  generalize double.write (single.read x) = b at *
  have hr1 : 1 ≤ Fl.rg single x := by
    rcases Nat.eq_zero_or_pos (Fl.rg single x) with h0 | h0
    · unfold Fl.sv at hp; rw [h0, Fl.rv_zero] at hp; simp at hp
    · exact h0
  have lo : Fl.rv double 3936146074321813504 ≤ Fl.rv double b := by
    rw [hv]
    refine Rat.le_trans ?_ (Fl.rv_le_of single hr1 (Nat.le_of_lt h))
    rw [show (3936146074321813504 : Nat) = 873 * double.binade + 4503599627370496 by decide, Fl.rv_of double (by decide) (by decide),
      show (1 : Nat) = 0 * single.binade + 1 by decide, Fl.rv_of single (by decide) (by decide)]
    rw [Fl.qv_le]; decide
  have hi : Fl.rv double b ≤ Fl.rv double 5188146770730811392 := by
    rw [hv]
    have h5 := Fl.single_place h
    have e5 : Fl.rv double 5188146770730811392 = Fl.qv 1 129 := by
      rw [show (5188146770730811392 : Nat) = 1151 * double.binade + 4503599627370496 by decide, Fl.rv_of double (by decide) (by decide)]
      apply Rat.le_antisymm <;> (rw [Fl.qv_le]; decide)
    rw [e5]
    unfold Fl.rv
    refine Rat.le_trans (Fl.qv_le_same.2 (Nat.le_of_lt h5.1)) ?_
    rw [Fl.qv_le, ← Nat.pow_add, Nat.one_mul]
    exact Nat.pow_le_pow_right (by omega) (by omega)
  have l1 := (Fl.rv_le_iff double (by decide) (by rw [Fl.double_inf]; omega)).1 lo
  have l2 := (Fl.rv_le_iff double (by rw [Fl.double_inf]; omega) (by decide)).1 hi
  exact ⟨by omega, by omega⟩

def Ans32 (C : Option Nat) (w : World) (e : Ending) (w' : World) : Prop := ∃ r n, e = .returned (.float .f32 r) ∧ w' = w.drewN n ∧ Fl.cls .f32 r = C
theorem wide_one {x : Nat} (h : Fl.Fin Ieee.single x) : (∀ w, Fl.wres w x = Ieee.double.write (Ieee.single.read x)) ∧ Fl.wdr x = 0 := by
  have hn := Fl.fin_nan h
  refine ⟨fun w => ?_, ?_⟩
  · unfold Fl.wres; rw [hn]; rfl
  · unfold Fl.wdr; rw [hn]; rfl
theorem fin64_yes {y : Nat} (h : Fl.Fin Ieee.double y) : fin64 y = true := by
  unfold fin64; unfold Fl.Fin at h; rw [Fl.double_inf] at h; simpa using h
theorem nres_nan (w : World) {r : Nat} (h : Fl.cls .f64 r = none) : Fl.cls .f32 (Fl.nres w r) = none := by
  rw [Fl.cls_nres w (ovfC_nan h), h]; rfl
theorem nres_pc (w : World) {r : Nat} {C : Option Nat} {j : Nat} (h : Fl.cls .f64 r = C) (hp : PC C j) (hj : j ≤ 100) : Fl.cls .f32 (Fl.nres w r) = Fl.narrowC C := by
  rw [Fl.cls_nres w (ovf_pc h hp hj), h]
theorem nres_minf (w : World) : Fl.cls .f32 (Fl.nres w 18442240474082181120) = some 4286578688 := by
  rw [Fl.cls_nres w (by decide +kernel), show Fl.cls .f64 18442240474082181120 = some 18442240474082181120 by decide]; decide +kernel
theorem nres_inf (w : World) : Fl.cls .f32 (Fl.nres w 9218868437227405312) = some 2139095040 := by
  rw [Fl.cls_nres w (by decide +kernel), show Fl.cls .f64 9218868437227405312 = some 9218868437227405312 by decide]; decide +kernel

/-- The tests on a single's class. -/
def z32 (x : Nat) : Bool := Fl.ordC .f32 (Fl.cls .f32 x) (Fl.cls .f32 0) == some Ordering.eq
def n32 (x : Nat) : Bool := Fl.ordC .f32 (Fl.cls .f32 x) (Fl.cls .f32 0) == some Ordering.lt
def s32 (x : Nat) : Bool := Fl.ordC .f32 (Fl.cls .f32 x) (Fl.cls .f32 x) != some Ordering.eq
def wC (x : Nat) : Option Nat := Fl.wideC (Fl.cls .f32 x)
def z64 (C : Option Nat) : Bool := Fl.ordC .f64 C (Fl.cls .f64 0) == some Ordering.eq
def n64 (C : Option Nat) : Bool := Fl.ordC .f64 C (Fl.cls .f64 0) == some Ordering.lt
def s64 (C : Option Nat) : Bool := Fl.ordC .f64 C C != some Ordering.eq

theorem same_tests (x : Nat) : z64 (wC x) = z32 x ∧ n64 (wC x) = n32 x ∧ s64 (wC x) = s32 x := by
  rcases Fl.read_cases Fl.single_ok x with h | h | h
  · obtain ⟨f2, v2⟩ := Fl.wide_fin h
    have c1 : Fl.cls .f32 x = some x := Fl.cls_some (k := .f32) (Fl.fin_nan h)
    have c2 : wC x = some (double.write (single.read x)) := by unfold wC; rw [c1]; rfl
    have z1 : Fl.Fin Ieee.single 0 := by unfold Fl.Fin; decide
    have z2 : Fl.Fin Ieee.double 0 := by unfold Fl.Fin; decide
    have s1 : Fl.sv Ieee.single 0 = 0 := by unfold Fl.sv; rw [show Fl.sg Ieee.single 0 = false by decide, show Fl.rg Ieee.single 0 = 0 by decide, Fl.rv_zero]; rfl
    have s2 : Fl.sv Ieee.double 0 = 0 := by unfold Fl.sv; rw [show Fl.sg Ieee.double 0 = false by decide, show Fl.rg Ieee.double 0 = 0 by decide, Fl.rv_zero]; rfl
    have o1 := Fl.order_fin h z1
    have o2 := Fl.order_fin f2 z2
    rw [s1] at o1
    rw [s2, v2] at o2
    have e : double.order (double.write (single.read x)) 0 = single.order x 0 := by
      rcases (by grind : Fl.sv Ieee.single x < 0 ∨ Fl.sv Ieee.single x = 0 ∨ 0 < Fl.sv Ieee.single x) with hc | hc | hc
      · rw [o1.1.2 hc]; exact o2.1.2 hc
      · rw [o1.2.1.2 hc]; exact o2.2.1.2 hc
      · rw [o1.2.2.2 hc]; exact o2.2.2.2 hc
    have q1 : Fl.cls .f32 0 = some 0 := by decide
    have q2 : Fl.cls .f64 0 = some 0 := by decide
    unfold z64 z32 n64 n32 s64 s32
    rw [c2, c1, q1, q2]
    refine ⟨?_, ?_, ?_⟩
    · show (double.order _ 0 == _) = (single.order x 0 == _); rw [e]
    · show (double.order _ 0 == _) = (single.order x 0 == _); rw [e]
    · show (double.order _ _ != some Ordering.eq) = (single.order x x != some Ordering.eq)
      rw [Fl.ord_self (Fl.fin_nan h), Fl.ord_self (Fl.fin_nan f2)]
  · have c1 : Fl.cls .f32 x = some x := Fl.cls_some (k := .f32) (by show (single.read x).isNaN = false; rw [h]; rfl)
    have c2 : wC x = some (double.write (.infinity (Fl.sg single x))) := by unfold wC; rw [c1]; show some (double.write (single.read x)) = _; rw [h]
    have q1 : Fl.cls .f32 0 = some 0 := by decide
    have q2 : Fl.cls .f64 0 = some 0 := by decide
    unfold z64 z32 n64 n32 s64 s32
    rw [c2, c1, q1, q2]
    have e1 : single.order x 0 = some (if Fl.sg single x then .lt else .gt) := by
      unfold Format.order; rw [h, show single.read 0 = .number false 0 (-149) by decide]; rfl
    have e2 : single.order x x = some .eq := Fl.ord_self (by rw [h]; rfl)
    refine ⟨?_, ?_, ?_⟩
    · show (double.order _ 0 == _) = (single.order x 0 == _); rw [e1]; cases Fl.sg single x <;> decide
    · show (double.order _ 0 == _) = (single.order x 0 == _); rw [e1]; cases Fl.sg single x <;> decide
    · show (double.order _ _ != some Ordering.eq) = (single.order x x != some Ordering.eq)
      rw [e2]; cases Fl.sg single x <;> decide
  · have c1 : Fl.cls .f32 x = none := Fl.cls_none (k := .f32) h
    unfold wC z64 z32 n64 n32 s64 s32
    rw [c1]; decide

theorem specLog_zero (x : Nat) (hz : z32 x = true) (hn : n32 x = false) (hs : s32 x = false) (w : World) : Calls Try.prog 55 #[.float .f32 x] w (Ans32 (some 4286578688) w) := by
  obtain ⟨t1, t2, t3⟩ := same_tests x
  rw [hz] at t1; rw [hn] at t2; rw [hs] at t3
  unfold z64 wC at t1; unfold n64 wC at t2; unfold s64 wC at t3
  clear hz hn hs
  go_enter Try.func55, Try.ntmps55
  go_wp2
  refine bodyPost_ret (results_tmp rfl _ _ _) rfl ?_
  exact ⟨_, _, rfl, rfl, nres_minf _⟩
theorem specLog_nan (x : Nat) (h : s32 x = true) (w : World) : Calls Try.prog 55 #[.float .f32 x] w (Ans32 none w) := by
  obtain ⟨_, _, t3⟩ := same_tests x
  rw [h] at t3
  unfold s64 wC at t3
  clear h
  go_enter Try.func55, Try.ntmps55
  go_wp2
  refine bodyPost_ret (results_tmp rfl _ _ _) rfl ?_
  exact ⟨_, _, rfl, rfl, nres_nan _ nanC⟩
theorem specLog_neg (x : Nat) (hs : s32 x = false) (hn : n32 x = true) (w : World) : Calls Try.prog 55 #[.float .f32 x] w (Ans32 none w) := by
  obtain ⟨_, t2, t3⟩ := same_tests x
  rw [hs] at t3; rw [hn] at t2
  unfold n64 wC at t2; unfold s64 wC at t3
  clear hn hs
  go_enter Try.func55, Try.ntmps55
  go_wp2
  refine bodyPost_ret (results_tmp rfl _ _ _) rfl ?_
  exact ⟨_, _, rfl, rfl, nres_nan _ nanC⟩
theorem inf_wide : (∀ w, Fl.wres w 2139095040 = 9218868437227405312) ∧ Fl.wdr 2139095040 = 0 := by
  have h1 : (single.read 2139095040).isNaN = false := by decide
  refine ⟨fun w => ?_, ?_⟩
  · unfold Fl.wres; rw [h1]; simp only [Bool.false_eq_true, if_false]; decide
  · unfold Fl.wdr; rw [h1]; rfl
theorem specLog_inf (w : World) : Calls Try.prog 55 #[.float .f32 2139095040] w (Ans32 (some 2139095040) w) := by
  obtain ⟨h1, h2⟩ := inf_wide
  have t1 : (Fl.ordC .f64 (Fl.cls .f64 9218868437227405312) (Fl.cls .f64 0) == some Ordering.eq) = false := by decide +kernel
  have t2 : (Fl.ordC .f64 (Fl.cls .f64 9218868437227405312) (Fl.cls .f64 0) == some Ordering.lt) = false := by decide +kernel
  have t3 : (Fl.ordC .f64 (Fl.cls .f64 9218868437227405312) (Fl.cls .f64 9218868437227405312) != some Ordering.eq) = false := by decide +kernel
  have t4 : (Fl.ordC .f64 (Fl.cls .f64 9218868437227405312) (Fl.cls .f64 9218868437227405311) == some Ordering.gt) = true := by decide +kernel
  go_enter Try.func55, Try.ntmps55
  go_wp2
  refine bodyPost_ret (results_tmp rfl _ _ _) rfl ?_
  exact ⟨_, _, rfl, rfl, nres_inf _⟩

/-- The logarithm's class, in each case. -/
def LogOf (x : Nat) (C : Option Nat) : Prop :=
  (s32 x = true ∧ C = none) ∨ (s32 x = false ∧ n32 x = true ∧ C = none) ∨ (s32 x = false ∧ n32 x = false ∧ z32 x = true ∧ C = some 4286578688) ∨ (x = 2139095040 ∧ C = some 2139095040) ∨
  (s32 x = false ∧ n32 x = false ∧ z32 x = false ∧ x ≠ 2139095040 ∧ ∃ j i, Steps (double.write (single.read x)) j i ∧ C = Fl.narrowC (logC (double.write (single.read x) - j * 4503599627370496 + i * 4503599627370496) ((j : Int) - (i : Int))))
theorem inf_tests : s32 2139095040 = false ∧ n32 2139095040 = false ∧ z32 2139095040 = false := by decide +kernel
theorem LogOf.one {x : Nat} {C D : Option Nat} (h : LogOf x C) (k : LogOf x D) : C = D := by
  unfold LogOf at h k
  rcases h with ⟨a1, rfl⟩ | ⟨a1, a2, rfl⟩ | ⟨a1, a2, a3, rfl⟩ | ⟨a1, rfl⟩ | ⟨a1, a2, a3, a4, j, i, hs, rfl⟩ <;>
  rcases k with ⟨b1, rfl⟩ | ⟨b1, b2, rfl⟩ | ⟨b1, b2, b3, rfl⟩ | ⟨b1, rfl⟩ | ⟨b1, b2, b3, b4, j', i', hs', rfl⟩ <;>
  first
    | (exfalso; rw [a1] at b1; cases b1; done)
    | (exfalso; rw [a2] at b2; cases b2; done)
    | (exfalso; rw [a3] at b3; cases b3; done)
    | (exfalso; rw [b1, inf_tests.1] at a1; cases a1; done)
    | (exfalso; rw [b1, inf_tests.2.1] at a2; cases a2; done)
    | (exfalso; rw [b1, inf_tests.2.2] at a3; cases a3; done)
    | (exfalso; rw [a1, inf_tests.1] at b1; cases b1; done)
    | (exfalso; rw [a1, inf_tests.2.1] at b2; cases b2; done)
    | (exfalso; rw [a1, inf_tests.2.2] at b3; cases b3; done)
    | exact absurd b1 a4
    | exact absurd a1 b4
    | (obtain ⟨rfl, rfl⟩ := hs.one hs'; rfl)
    | rfl
def LogAns (x : Nat) (w : World) (e : Ending) (w' : World) : Prop := ∃ C, LogOf x C ∧ Ans32 C w e w'

theorem pos_of {x : Nat} (hx : x < 4294967296) (hs : s32 x = false) (hn : n32 x = false) (hz : z32 x = false) (hi : x ≠ 2139095040) : Fl.Fin single x ∧ 0 < Fl.sv single x := by
  rcases Fl.read_cases Fl.single_ok x with h | h | h
  · refine ⟨h, ?_⟩
    have c1 : Fl.cls .f32 x = some x := Fl.cls_some (k := .f32) (Fl.fin_nan h)
    have z1 : Fl.Fin Ieee.single 0 := by unfold Fl.Fin; decide
    have s1 : Fl.sv Ieee.single 0 = 0 := by unfold Fl.sv; rw [show Fl.sg Ieee.single 0 = false by decide, show Fl.rg Ieee.single 0 = 0 by decide, Fl.rv_zero]; rfl
    have o1 := Fl.order_fin h z1
    rw [s1] at o1
    unfold n32 at hn; unfold z32 at hz
    rw [c1, show Fl.cls .f32 0 = some 0 by decide] at hn hz
    have h1 : ¬ Fl.sv single x < 0 := fun hc => by
      have : (single.order x 0 == some Ordering.lt) = false := hn
      rw [o1.1.2 hc] at this; cases this
    have h2 : ¬ Fl.sv single x = 0 := fun hc => by
      have : (single.order x 0 == some Ordering.eq) = false := hz
      rw [o1.2.1.2 hc] at this; cases this
    grind
  · exfalso
    have c1 : Fl.cls .f32 x = some x := Fl.cls_some (k := .f32) (by show (single.read x).isNaN = false; rw [h]; rfl)
    have e1 : single.order x 0 = some (if Fl.sg single x then .lt else .gt) := by
      unfold Format.order; rw [h, show single.read 0 = .number false 0 (-149) by decide]; rfl
    unfold n32 at hn
    rw [c1, show Fl.cls .f32 0 = some 0 by decide] at hn
    have h3 : (single.order x 0 == some Ordering.lt) = false := hn
    rw [e1] at h3
    cases hsg : Fl.sg single x with
    | true => rw [hsg] at h3; cases h3
    | false =>
      have hr : Fl.rg single x = 2139095040 := by
        rcases Nat.lt_trichotomy (Fl.rg single x) 2139095040 with h1 | h1 | h1
        · have := Fl.fin_inf (f := single) (b := x) (by unfold Fl.Fin; rw [Fl.single_inf]; exact h1)
          rw [h] at this; cases this
        · exact h1
        · exfalso
          have h2 : (single.read x).isNaN = true := by
            unfold Fl.rg at h1
            unfold Format.read
            simp only
            rw [if_neg (by rw [Fl.single_B]; omega), if_neg (by rw [Fl.single_inf]; omega), if_neg (by rw [Fl.single_inf]; omega)]; rfl
          rw [h] at h2; cases h2
      unfold Fl.sg at hsg; unfold Fl.rg at hr
      rw [Fl.single_S] at hsg hr
      have : x / 2147483648 = 0 ∨ x / 2147483648 = 1 := by omega
      rcases this with h4 | h4
      · omega
      · rw [h4] at hsg; cases hsg
  · exfalso
    unfold s32 at hs
    rw [Fl.cls_none (k := .f32) h] at hs; cases hs

theorem specLog_pos (x : Nat) (hs : s32 x = false) (hn : n32 x = false) (hz : z32 x = false) (hi : x ≠ 2139095040) (h : Fl.Fin single x) (hp : 0 < Fl.sv single x) (w : World) :
    Calls Try.prog 55 #[.float .f32 x] w (LogAns x w) := by
  obtain ⟨h1, h2⟩ := wide_one h
  have HM := Lib.hid (mid_of h hp)
  have HL : Hid (∀ C, (∃ j i, Steps (double.write (single.read x)) j i ∧ C = Fl.narrowC (logC (double.write (single.read x) - j * 4503599627370496 + i * 4503599627370496) ((j : Int) - (i : Int)))) → LogOf x C) := Lib.hid (fun C hc => Or.inr (Or.inr (Or.inr (Or.inr ⟨hs, hn, hz, hi, hc⟩))))
  clear hs hn hz hi h hp
  go_enter Try.func55, Try.ntmps55
  go_wp2_with fail
  go_at_call 68; refine (l01LogWide_any _ HM.out _).mono ?_; rintro e w' ⟨j, i, r, n, hst, hj, hi, rfl, rfl, hc⟩
  have HC := Lib.hid hc
  have HS := Lib.hid hst
  have HJ := Lib.hid (show j ≤ 400 ∧ i ≤ 400 from ⟨hj, hi⟩)
  clear hc hst hj hi
  go_wp2
  refine bodyPost_ret (results_tmp rfl _ _ _) rfl ?_
  refine ⟨_, HL.out _ ⟨j, i, HS.out, rfl⟩, _, _, rfl, rfl, nres_pc _ HC.out (logC_pc HS.out.high (by have := HJ.out; omega) (by have := HJ.out; omega)) (by decide)⟩
theorem specLog_any (x : Nat) (hx : x < 4294967296) (w : World) : Calls Try.prog 55 #[.float .f32 x] w (LogAns x w) := by
  cases hs : s32 x with
  | true => exact (specLog_nan x hs w).mono fun e w' h => ⟨_, Or.inl ⟨hs, rfl⟩, h⟩
  | false =>
    cases hn : n32 x with
    | true => exact (specLog_neg x hs hn w).mono fun e w' h => ⟨_, Or.inr (Or.inl ⟨hs, hn, rfl⟩), h⟩
    | false =>
      cases hz : z32 x with
      | true => exact (specLog_zero x hz hn hs w).mono fun e w' h => ⟨_, Or.inr (Or.inr (Or.inl ⟨hs, hn, hz, rfl⟩)), h⟩
      | false =>
        by_cases hi : x = 2139095040
        · subst hi; exact (specLog_inf w).mono fun e w' h => ⟨_, Or.inr (Or.inr (Or.inr (Or.inl ⟨rfl, rfl⟩))), h⟩
        · obtain ⟨hf, hp⟩ := pos_of hx hs hn hz hi
          exact specLog_pos x hs hn hz hi hf hp w

theorem implFinite_any (x : Nat) (w : World) : Calls Try.prog 45 #[.float .f32 x] w fun e w' => e = .returned (.bool (fin64 (Fl.wres w x))) ∧ ∃ n, w' = w.drewN n := by
  go_enter Try.func45, Try.ntmps45
  go_wp2_with (go_at_call 37; refine (isFinite64_any _ (wres_lt _ _) _).mono ?_; rintro e w' ⟨rfl, rfl⟩)
  go_ret
  exact ⟨rfl, _, rfl⟩
theorem implLog_zero (x : Nat) (hz : z32 x = true) (w : World) : Calls Try.prog 25 #[.float .f32 x] w (Ans32 (some 4286578688) w) := by
  unfold z32 at hz
  go_enter Try.func25, Try.ntmps25
  go_wp2
  refine bodyPost_ret (results_tmp rfl _ _ _) rfl ?_
  exact ⟨_, _, rfl, rfl, nres_minf _⟩
theorem implLog_nan (x : Nat) (hz : z32 x = false) (h : s32 x = true ∨ n32 x = true) (w : World) : Calls Try.prog 25 #[.float .f32 x] w (Ans32 none w) := by
  unfold z32 at hz
  unfold s32 n32 at h
  cases hn : (Fl.ordC .f32 (Fl.cls .f32 x) (Fl.cls .f32 0) == some Ordering.lt) with
  | true =>
    clear h
    go_enter Try.func25, Try.ntmps25
    go_wp2
    refine bodyPost_ret (results_tmp rfl _ _ _) rfl ?_
    exact ⟨_, _, rfl, rfl, nres_nan _ nanC⟩
  | false =>
    have hs : (Fl.ordC .f32 (Fl.cls .f32 x) (Fl.cls .f32 x) != some Ordering.eq) = true := by rcases h with h | h; exact h; rw [hn] at h; cases h
    clear h
    go_enter Try.func25, Try.ntmps25
    go_wp2
    refine bodyPost_ret (results_tmp rfl _ _ _) rfl ?_
    exact ⟨_, _, rfl, rfl, nres_nan _ nanC⟩
theorem implLog_inf (w : World) : Calls Try.prog 25 #[.float .f32 2139095040] w (Ans32 (some 2139095040) w) := by
  have t1 : (Fl.ordC .f32 (Fl.cls .f32 2139095040) (Fl.cls .f32 0) == some Ordering.eq) = false := by decide +kernel
  have t2 : (Fl.ordC .f32 (Fl.cls .f32 2139095040) (Fl.cls .f32 0) == some Ordering.lt) = false := by decide +kernel
  have t3 : (Fl.ordC .f32 (Fl.cls .f32 2139095040) (Fl.cls .f32 2139095040) != some Ordering.eq) = false := by decide +kernel
  have hf : fin64 (Fl.wres w 2139095040) = false := by rw [inf_wide.1 w]; decide
  have H := Lib.hid hf
  clear hf
  go_enter Try.func25, Try.ntmps25
  go_wp2_with (go_at_call 45; refine (implFinite_any _ _).mono ?_; rw [H.out]; rintro e w' ⟨rfl, n, rfl⟩)
  refine bodyPost_ret (results_tmp rfl _ _ _) rfl ?_
  exact ⟨_, _, rfl, rfl, by decide⟩
theorem implLog_pos (x : Nat) (hs : s32 x = false) (hn : n32 x = false) (hz : z32 x = false) (hi : x ≠ 2139095040) (h : Fl.Fin single x) (hp : 0 < Fl.sv single x) (w : World) :
    Calls Try.prog 25 #[.float .f32 x] w (LogAns x w) := by
  obtain ⟨h1, h2⟩ := wide_one h
  have hf : fin64 (Fl.wres w x) = true := by rw [h1 w]; exact fin64_yes (Fl.wide_fin h).1
  have H := Lib.hid hf
  have HM := Lib.hid (mid_of h hp)
  have HL : Hid (∀ C, (∃ j i, Steps (double.write (single.read x)) j i ∧ C = Fl.narrowC (logC (double.write (single.read x) - j * 4503599627370496 + i * 4503599627370496) ((j : Int) - (i : Int)))) → LogOf x C) := Lib.hid (fun C hc => Or.inr (Or.inr (Or.inr (Or.inr ⟨hs, hn, hz, hi, hc⟩))))
  unfold z32 at hz; unfold n32 at hn; unfold s32 at hs
  clear hi h hp hf
  go_enter Try.func25, Try.ntmps25
  go_wp2_with fail
  go_at_call 45; refine (implFinite_any _ _).mono ?_; rw [H.out]; rintro e w' ⟨rfl, n0, rfl⟩
  go_wp2_with fail
  go_at_call 46; refine (wideLog_any _ HM.out _).mono ?_; rintro e w' ⟨j, i, r, n, hst, hj, hi, rfl, rfl, hc⟩
  have HC := Lib.hid hc
  have HS := Lib.hid hst
  have HJ := Lib.hid (show j ≤ 400 ∧ i ≤ 400 from ⟨hj, hi⟩)
  clear hc hst hj hi
  go_wp2
  refine bodyPost_ret (results_tmp rfl _ _ _) rfl ?_
  refine ⟨_, HL.out _ ⟨j, i, HS.out, rfl⟩, _, _, rfl, rfl, nres_pc _ HC.out (logC_pc HS.out.high (by have := HJ.out; omega) (by have := HJ.out; omega)) (by decide)⟩
theorem zero_tests {x : Nat} (h : z32 x = true) : s32 x = false ∧ n32 x = false := by
  rcases Fl.read_cases Fl.single_ok x with hf | hf | hf
  · have c1 : Fl.cls .f32 x = some x := Fl.cls_some (k := .f32) (Fl.fin_nan hf)
    unfold z32 at h; unfold s32 n32
    rw [c1, show Fl.cls .f32 0 = some 0 by decide] at h ⊢
    have h1 : single.order x 0 = some .eq := by
      have h' : (single.order x 0 == some Ordering.eq) = true := h
      exact eq_of_beq h'
    constructor
    · show (single.order x x != some Ordering.eq) = false; rw [Fl.ord_self (Fl.fin_nan hf)]; rfl
    · show (single.order x 0 == some Ordering.lt) = false; rw [h1]; rfl
  · exfalso
    have c1 : Fl.cls .f32 x = some x := Fl.cls_some (k := .f32) (by show (single.read x).isNaN = false; rw [hf]; rfl)
    have e1 : single.order x 0 = some (if Fl.sg single x then .lt else .gt) := by
      unfold Format.order; rw [hf, show single.read 0 = .number false 0 (-149) by decide]; rfl
    unfold z32 at h
    rw [c1, show Fl.cls .f32 0 = some 0 by decide] at h
    have h1 : single.order x 0 = some .eq := by
      have h' : (single.order x 0 == some Ordering.eq) = true := h
      exact eq_of_beq h'
    rw [e1] at h1
    cases hsg : Fl.sg single x <;> rw [hsg] at h1 <;> simp at h1
  · exfalso
    unfold z32 at h
    rw [Fl.cls_none (k := .f32) hf] at h; cases h
theorem implLog_any (x : Nat) (hx : x < 4294967296) (w : World) : Calls Try.prog 25 #[.float .f32 x] w (LogAns x w) := by
  cases hz : z32 x with
  | true => exact (implLog_zero x hz w).mono fun e w' h => ⟨_, Or.inr (Or.inr (Or.inl ⟨(zero_tests hz).1, (zero_tests hz).2, hz, rfl⟩)), h⟩
  | false =>
    cases hs : s32 x with
    | true => exact (implLog_nan x hz (Or.inl hs) w).mono fun e w' h => ⟨_, Or.inl ⟨hs, rfl⟩, h⟩
    | false =>
      cases hn : n32 x with
      | true => exact (implLog_nan x hz (Or.inr hn) w).mono fun e w' h => ⟨_, Or.inr (Or.inl ⟨hs, hn, rfl⟩), h⟩
      | false =>
        by_cases hi : x = 2139095040
        · subst hi; exact (implLog_inf w).mono fun e w' h => ⟨_, Or.inr (Or.inr (Or.inr (Or.inl ⟨rfl, rfl⟩))), h⟩
        · obtain ⟨hf, hp⟩ := pos_of hx hs hn hz hi
          exact implLog_pos x hs hn hz hi hf hp w
theorem fnExactLogNumber_any (x : Nat) (hx : x < 4294967296) (w : World) :
    Calls Try.prog 8 #[.float .f32 x] w fun e w' => e = .returned (.bool true) ∧ Below w.heap.size w w' := by
  go_enter Try.func8, Try.ntmps8
  go_wp2_with (go_at_call 24; go_in)
  go_at_call 55; refine (specLog_any _ hx _).mono ?_; rintro e w' ⟨C, hl, r, n, rfl, rfl, hc⟩
  have HC := Lib.hid hc
  have HL := Lib.hid hl
  clear hc hl
  go_wp2_with fail
  go_at_call 25; refine (implLog_any _ hx _).mono ?_; rintro e w' ⟨D, hl, r2, n2, rfl, rfl, hc⟩
  have HD : Hid (Fl.cls .f32 r2 = Fl.cls .f32 r) := Lib.hid (by rw [hc, HC.out]; exact hl.one HL.out)
  clear hc hl
  go_wp2_with (go_at_call 19; refine (same_any _ _ (by rw [Fl.cls_wres, Fl.cls_wres, HD.out]) _).mono ?_; rintro e w' ⟨rfl, n, rfl⟩)
  go_ret
  exact ⟨rfl, below_drewN (Below.refl _ _) _⟩

theorem Try.own : ownKnob Try.prog.godebug = none := by kernel_rfl
theorem Try.laidOut : laidOutB Try.prog = true := by kernel_rfl
theorem f32_lt {x : Nat} (h : (Lit.float .f32 x).wf = true) : x < 4294967296 := by simpa [Lit.wf] using h
theorem f64_lt {x : Nat} (h : (Lit.float .f64 x).wf = true) : x < 18446744073709551616 := by simpa [Lit.wf] using h
theorem i64_in {x : Int} (h : (Lit.int .i64 x).wf = true) : -9223372036854775808 ≤ x ∧ x ≤ 9223372036854775807 := by
  have h1 : IntKind.i64.min = -9223372036854775808 := by decide
  have h2 : IntKind.i64.max = 9223372036854775807 := by decide
  simp only [Lit.wf, Bool.and_eq_true, decide_eq_true_eq, h1, h2] at h
  exact h

set_option maxRecDepth 100000 in
theorem fnExactLogNumber_lifted (os : Os) (started : os.Started) (H : Type) (enc : TypeId × Value → H) :
    ReturnsInHanded {} Try.checked os 8 .any (Rows.fnExactLogNumberSpec.pre6 enc Try.prog Try.f8 [] false) (Rows.fnExactLogNumberSpec.post enc Try.prog Try.f8 false true false false) := by
  refine Frame.law_lifted (tb := 4) Try.own started (by kernel_rfl) Try.func8
    (ChangeSpec.witness6 (enc := enc) (C := Try.checked) false ⟨#[], #[.float .f32 0], []⟩ 8 (by kernel_rfl) (by kernel_rfl) (by kernel_rfl) (by kernel_rfl))
    Try.laidOut (by kernel_rfl) rfl (by kernel_rfl) Try.underlying4 (fun ds hd => ?_) ?_
  · rw [Try.params8] at hd
    match ds, hd with
    | [_], _ => exact ⟨rfl, rfl, rfl⟩
  intro W base args ds p hval0 hA0 hlt hsz0
  have hval : ∀ (j : Nat) t v, Try.f8.params[j]? = some t → args[j]? = some v → Value.okWide Try.prog W .any base t v := hval0
  have hA : DataW.TrodAll enc Try.prog W 0 (fun _ => true) true Try.f8.params.toList args.toList ds p := hA0
  have hsz : (DataW.weightsEach Try.prog Try.f8.params.toList ds).all (· ≤ reachBytes) = true := hsz0
  rw [Try.params8] at hA hval hsz
  clear hval0 hA0 hsz0
  obtain ⟨v0, d0, rfl, rfl, h0⟩ := trodAll_one hA
  obtain ⟨a0, rfl, rfl, rfl, w0⟩ := open_float Try.underlying28 (hval 0 28 v0 rfl rfl) h0
  have b0 := f32_lt w0
  exact fnExactLogNumber_any a0 b0 W

theorem fnExactLogNumber_holds : Rows.FnExactLogNumberSaid :=
  OpenClaim.holds_of_wide 8 Try.f8 rfl rfl rfl rfl rfl rfl rfl ⟨rfl, rfl, rfl, rfl, rfl⟩ rfl rfl rfl rfl rfl (by kernel_rfl) Try.func8 (by kernel_rfl)
    (of_decide_eq_true (by kernel_rfl)) (by unfold Func.isWrapper; first | (rw [if_pos (by decide +kernel)]; kernel_rfl) | (rw [if_neg (by decide +kernel)]; exact ⟨rfl, rfl⟩))
    (fun os started H enc _ => fnExactLogNumber_lifted os started H enc)
end Go.Proofs.Ytimdlnbdnednaac
