/- What ReadRows needs: Abs Fin NumD FinLD Num2D VrD ViD RkR GvD Rr0 Spk0 SplI RgS BxT IdI SqI CnI. -/
import Derived.Test.YtcnllohpkgmkpaaDoorReadRowsB
import Derived.Laws.BitsAllLaws
import Derived.Test.YtcnllohpkgmkpaaDoorReadRowsA
import Derived.RegionTactic
import Derived.ChangeAlike
import Derived.Deep.QuietTactic
import Derived.BigQuiet
import Derived.BigGuardPart
import Derived.Deep.RegionWith
import Derived.Outline
import Derived.Shelf.SlGeneric
import Derived.Shelf.Strings.SplitShaped
import Derived.Test.YtcnllohpkgmkpaaDoorChecked
import Derived.RangeFuncNested
import Derived.RangeFuncCalls
import Derived.RangeFuncLeaves
import Derived.RangeFuncBound
import Derived.RangeFuncSeq
import Derived.Shelf.Abstract
import Derived.ProofKit
import Derived.Lib.IndexBytes
import Derived.Shelf.Strings.Search3
import Derived.OwnWalkIn
import Derived.TacticsInMore
import Derived.LoopIn
import Derived.Lib.Hide
import Derived.Shelf.Strings.Count
/- math.Abs, math.IsNaN, math.IsInf and what is finite. -/
namespace Go.Proofs.YtcnllohpkgmkpaaDoor
open Go.RowKit
attribute [local go_sem] call_f64bits call_f64from

/-- The bits of an absolute value. -/
def absB (x : Nat) : Nat := x % 9223372036854775808
theorem abs_bits (x : Nat) (hx : x < 18446744073709551616) : bits .andNot .u64 (x : Int) 9223372036854775808 = (absB x : Int) := by
  rw [u64_andNot _ _ (by omega) (by omega) (by omega) (by omega)]
  congr 1
  rw [Int.toNat_natCast]
  show x &&& (2 ^ 63 - 1) = _
  rw [Nat.and_two_pow_sub_one_eq_mod]
  rfl
theorem abs_any (x : Nat) (hx : x < 18446744073709551616) (w : World) :
    Calls Tryd.prog 169 #[.float .f64 x] w fun e w' => e = .returned (.float .f64 (absB x)) ∧ w = w' := by
  go_enter Tryd.func169, Tryd.ntmps169
  go_wp2
  go_ret
  refine ⟨?_, rfl⟩
  have := abs_bits x hx
  show Ending.returned (Value.float FloatKind.f64 (bits BinOp.andNot IntKind.u64 (↑x) 9223372036854775808).toNat) = _
  rw [this, Int.toNat_natCast]

theorem absB_rg (x : Nat) : Fl.rg Ieee.double (absB x) = Fl.rg Ieee.double x := by
  unfold Fl.rg absB; rw [Fl.double_S]; omega
theorem absB_sg (x : Nat) : Fl.sg Ieee.double (absB x) = false := by
  unfold Fl.sg absB; rw [Fl.double_S, Nat.div_eq_of_lt (by omega)]; rfl
theorem absB_lt (x : Nat) : absB x < 9223372036854775808 := Nat.mod_lt _ (by omega)

/-- Is a double finite? -/
def fin64 (x : Nat) : Bool := decide (Fl.rg Ieee.double x < 9218868437227405312)
theorem nan64_of {x : Nat} : (Ieee.double.read x).isNaN = decide (9218868437227405312 < Fl.rg Ieee.double x) := by
  rcases Fl.read_cases Fl.double_ok x with h | h | h
  · rw [Fl.fin_nan h]; unfold Fl.Fin at h; rw [Fl.double_inf] at h
    symm; simp; omega
  · rw [h]
    have : ¬ 9218868437227405312 < Fl.rg Ieee.double x := by
      intro hc
      have h2 : (Ieee.double.read x).isNaN = true := by
        unfold Fl.rg at hc
        unfold Ieee.Format.read
        simp only
        rw [if_neg (by rw [Fl.double_B]; omega), if_neg (by rw [Fl.double_inf]; omega), if_neg (by rw [Fl.double_inf]; omega)]; rfl
      rw [h] at h2; cases h2
    simp [this, Ieee.Datum.isNaN]
  · rw [h]
    rcases Nat.lt_or_ge 9218868437227405312 (Fl.rg Ieee.double x) with h3 | h3
    · simp [h3]
    · exfalso
      rcases Nat.lt_or_ge (Fl.rg Ieee.double x) 9218868437227405312 with h4 | h4
      · have := Fl.fin_nan (f := Ieee.double) (b := x) (by unfold Fl.Fin; rw [Fl.double_inf]; exact h4)
        rw [h] at this; cases this
      · have := Fl.inf_of_rung Fl.double_ok (b := x) (by rw [Fl.double_inf]; omega)
        rw [this] at h; cases h

/-- Is the absolute value above the greatest finite double? -/
theorem max_gt {x : Nat} (hn : (Ieee.double.read x).isNaN = false) :
    (FloatKind.f64.format.order (absB x) 9218868437227405311 == some Ordering.gt) = !fin64 x := by
  show (Ieee.double.order (absB x) 9218868437227405311 == some Ordering.gt) = _
  have hm : Fl.Fin Ieee.double 9218868437227405311 := by unfold Fl.Fin; rw [Fl.double_inf]; unfold Fl.rg; rw [Fl.double_S]; omega
  unfold fin64
  rcases Fl.read_cases Fl.double_ok x with h | h | h
  · have h2 : Fl.Fin Ieee.double (absB x) := by unfold Fl.Fin at *; rw [absB_rg]; exact h
    have h3 := (Fl.order_fin h2 hm).2.2
    have h4 : ¬ Fl.sv Ieee.double 9218868437227405311 < Fl.sv Ieee.double (absB x) := by
      unfold Fl.sv
      rw [absB_sg, absB_rg]
      have e1 : Fl.sg Ieee.double 9218868437227405311 = false := by unfold Fl.sg; rw [Fl.double_S]; decide
      have e2 : Fl.rg Ieee.double 9218868437227405311 = 9218868437227405311 := by unfold Fl.rg; rw [Fl.double_S]
      rw [e1, e2]
      simp only [Bool.false_eq_true, if_false]
      apply Rat.not_lt.2
      unfold Fl.Fin at h
      rw [Fl.double_inf] at h
      exact Fl.rv_le_of _ (by omega) (by rw [Fl.double_inf]; omega)
    unfold Fl.Fin at h
    rw [Fl.double_inf] at h
    have h5 : Ieee.double.order (absB x) 9218868437227405311 ≠ some Ordering.gt := fun hc => h4 (h3.1 hc)
    simp [h, h5]
  · have e : Fl.rg Ieee.double x = 9218868437227405312 := by
      rcases Nat.lt_trichotomy (Fl.rg Ieee.double x) 9218868437227405312 with h1 | h1 | h1
      · have := Fl.fin_inf (f := Ieee.double) (b := x) (by unfold Fl.Fin; rw [Fl.double_inf]; exact h1)
        rw [h] at this; cases this
      · exact h1
      · rw [nan64_of] at hn; simp at hn; omega
    have h2 := Fl.inf_of_rung Fl.double_ok (b := absB x) (by rw [absB_rg, e, Fl.double_inf])
    rw [absB_sg] at h2
    unfold Ieee.Format.order
    rw [h2, Fl.read_fin hm, e]
    rfl
  · rw [h] at hn; cases hn

theorem neq64_nan {x : Nat} (h : (Ieee.double.read x).isNaN = true) : (FloatKind.f64.format.order x x != some Ordering.eq) = true := by
  show (Ieee.double.order x x != some Ordering.eq) = true
  rw [(Fl.ord_nan h x).1]; rfl
theorem neq64_num {x : Nat} (h : (Ieee.double.read x).isNaN = false) : (FloatKind.f64.format.order x x != some Ordering.eq) = false := by
  show (Ieee.double.order x x != some Ordering.eq) = false
  rw [Fl.ord_self h]; rfl

/-- math.IsNaN. -/
theorem isNaN_any (x : Nat) (w : World) :
    Calls Tryd.prog 159 #[.float .f64 x] w fun e w' => e = .returned (.bool (Ieee.double.read x).isNaN) ∧ w = w' := by
  cases hn : (Ieee.double.read x).isNaN with
  | true =>
    have h1 := neq64_nan hn
    clear hn
    go_enter Tryd.func159, Tryd.ntmps159
    go_wp2
    go_ret
    exact ⟨rfl, rfl⟩
  | false =>
    have h1 := neq64_num hn
    clear hn
    go_enter Tryd.func159, Tryd.ntmps159
    go_wp2
    go_ret
    exact ⟨rfl, rfl⟩
/-- math.IsInf(x, 0), of what is a number. -/
theorem isInf_any (x : Nat) (hx : x < 18446744073709551616) (hn : (Ieee.double.read x).isNaN = false) (w : World) :
    Calls Tryd.prog 160 #[.float .f64 x, .int .i64 0] w fun e w' => e = .returned (.bool (!fin64 x)) ∧ w = w' := by
  have h1 := max_gt hn
  clear hn
  go_enter Tryd.func160, Tryd.ntmps160
  go_wp2_with (go_at_call 169; refine (abs_any _ hx _).mono ?_; rintro e w' ⟨rfl, rfl⟩)
  go_ret
  exact ⟨rfl, rfl⟩
/-- impl.isFinite64. -/
theorem isFinite64_any (x : Nat) (hx : x < 18446744073709551616) (w : World) :
    Calls Tryd.prog 143 #[.float .f64 x] w fun e w' => e = .returned (.bool (fin64 x)) ∧ w = w' := by
  cases hn : (Ieee.double.read x).isNaN with
  | true =>
    have hf : fin64 x = false := by
      rw [nan64_of] at hn
      unfold fin64
      simp at hn ⊢
      omega
    have hn' := Lib.hid hn
    clear hn
    go_enter Tryd.func143, Tryd.ntmps143
    go_wp2_with (go_at_call 159; refine (isNaN_any _ _).mono ?_; rw [hn'.out]; rintro e w' ⟨rfl, rfl⟩)
    go_ret
    exact ⟨by rw [hf]; rfl, rfl⟩
  | false =>
    have hn' := Lib.hid hn
    clear hn
    go_enter Tryd.func143, Tryd.ntmps143
    go_wp2_with (first | (go_at_call 159; refine (isNaN_any _ _).mono ?_; rw [hn'.out]; rintro e w' ⟨rfl, rfl⟩) | (go_at_call 160; refine (isInf_any _ hx hn'.out _).mono ?_; rintro e w' ⟨rfl, rfl⟩))
    go_ret
    exact ⟨by simp, rfl⟩

theorem wres_lt (w : World) (x : Nat) : Fl.wres w x < 18446744073709551616 := by
  have h2 : (2 : Nat) ^ Ieee.double.width = 18446744073709551616 := by decide
  unfold Fl.wres
  split
  · unfold Fl.nanAt Question.cut
    simp only
    omega
  · rw [← h2]; exact Ieee.Format.write_lt _ _
end Go.Proofs.YtcnllohpkgmkpaaDoor
/- Is a single finite? Both sides' functions say so. -/
namespace Go.Proofs.YtcnllohpkgmkpaaDoor
open Go.RowKit
attribute [local go_sem] call_f32bits
attribute [local go_sem] run_sub Fl.run_widen

/-- Is a single finite? -/
def fin32 (x : Nat) : Bool := decide (Fl.rg Ieee.single x < 2139095040)
theorem sub_self_eq (w : World) (x : Nat) : (FloatKind.f32.format.order (Fl.ares w .sub .f32 x x) 0 == some Ordering.eq) = fin32 x := by
  show (Ieee.single.order (Fl.ares w .sub .f32 x x) 0 == some Ordering.eq) = fin32 x
  have h0 : Fl.Fin Ieee.single 0 := by unfold Fl.Fin; decide
  have hz : Fl.sv Ieee.single 0 = 0 := by
    unfold Fl.sv
    rw [show Fl.sg Ieee.single 0 = false by decide, show Fl.rg Ieee.single 0 = 0 by decide, Fl.rv_zero]; rfl
  unfold fin32
  rcases Fl.read_cases Fl.single_ok x with h | h | h
  · obtain ⟨r, hr, near⟩ := Fl.sub_near h h
    have e : Fl.ares w .sub .f32 x x = r := by
      unfold Fl.ares
      rw [show floatBits .sub .f32 x x = some r from hr]
    rw [Rat.sub_self] at near
    have b := near.bound 0 (by decide) (by rw [Fl.rv_zero]; decide) (by rw [Fl.rv_zero]; decide)
    rw [Fl.rv_zero] at b
    have he : Fl.sv Ieee.single r = Fl.sv Ieee.single 0 := by rw [hz]; grind
    rw [e, (Fl.order_fin b.1 h0).2.1.2 he]
    unfold Fl.Fin at h
    rw [Fl.single_inf] at h
    simp [h]
  · have hn : floatBits .sub .f32 x x = none := by
      show Ieee.single.sub x x = none
      unfold Ieee.Format.sub
      rw [h]
      cases Fl.sg Ieee.single x <;> rfl
    have hc := Fl.nanAt_bits w .f32 x x
    have e : Fl.ares w .sub .f32 x x = Fl.nanAt w (.nanBits .f32 x x) := by unfold Fl.ares; rw [hn]
    rw [e, show Ieee.single.order = FloatKind.f32.format.order from rfl, Fl.ord_bits, hc]
    have : ¬ Fl.rg Ieee.single x < 2139095040 := by
      intro hl
      have := Fl.fin_inf (f := Ieee.single) (b := x) (by unfold Fl.Fin; rw [Fl.single_inf]; exact hl)
      rw [h] at this; cases this
    simp [this, Fl.ordC]
  · have hn : floatBits .sub .f32 x x = none := by
      cases hb : floatBits .sub .f32 x x with
      | none => rfl
      | some r =>
        have := (Fl.bits_facts hb).2.1
        rw [Fl.cls_none (k := .f32) h] at this; cases this
    have hc := Fl.nanAt_bits w .f32 x x
    have e : Fl.ares w .sub .f32 x x = Fl.nanAt w (.nanBits .f32 x x) := by unfold Fl.ares; rw [hn]
    rw [e, show Ieee.single.order = FloatKind.f32.format.order from rfl, Fl.ord_bits, hc]
    have : ¬ Fl.rg Ieee.single x < 2139095040 := by
      intro hl
      have := Fl.fin_nan (f := Ieee.single) (b := x) (by unfold Fl.Fin; rw [Fl.single_inf]; exact hl)
      rw [h] at this; cases this
    simp [this, Fl.ordC]

theorem wres_fin (w : World) (x : Nat) : fin64 (Fl.wres w x) = fin32 x := by
  unfold fin64 fin32
  rcases Fl.read_cases Fl.single_ok x with h | h | h
  · have h1 := (Fl.wide_fin h).1
    unfold Fl.wres
    rw [Fl.fin_nan h]
    unfold Fl.Fin at h h1
    rw [Fl.single_inf] at h
    rw [Fl.double_inf] at h1
    simp [h, h1]
  · unfold Fl.wres
    rw [h]
    have e : Fl.rg Ieee.double (Ieee.double.write (.infinity (Fl.sg Ieee.single x))) = 9218868437227405312 := by
      cases Fl.sg Ieee.single x <;> decide
    have : ¬ Fl.rg Ieee.single x < 2139095040 := by
      intro hl
      have := Fl.fin_inf (f := Ieee.single) (b := x) (by unfold Fl.Fin; rw [Fl.single_inf]; exact hl)
      rw [h] at this; cases this
    simp only [Ieee.Datum.isNaN, Bool.false_eq_true, if_false, e]
    simp [this]
  · have hc := Fl.cls_wres w x
    rw [Fl.cls_none (k := .f32) h] at hc
    have hn : (Ieee.double.read (Fl.wres w x)).isNaN = true := by
      cases hd : (Ieee.double.read (Fl.wres w x)).isNaN with
      | true => rfl
      | false => rw [Fl.cls_some (k := .f64) hd] at hc; cases hc
    rw [nan64_of] at hn
    have : ¬ Fl.rg Ieee.single x < 2139095040 := by
      intro hl
      have := Fl.fin_nan (f := Ieee.single) (b := x) (by unfold Fl.Fin; rw [Fl.single_inf]; exact hl)
      rw [h] at this; cases this
    simp at hn
    simp [this]
    omega
theorem l01Finite_any (x : Nat) (w : World) :
    Calls Tryd.prog 118 #[.float .f32 x] w fun e w' => e = .returned (.bool (fin32 x)) ∧ ∃ n, w' = w.drewN n := by
  have H := Lib.hid (sub_self_eq w x)
  go_enter Tryd.func118, Tryd.ntmps118
  go_wp2
  go_ret
  exact ⟨by rw [← H.out]; rfl, _, rfl⟩

theorem implFinite_any (x : Nat) (w : World) :
    Calls Tryd.prog 119 #[.float .f32 x] w fun e w' => e = .returned (.bool (fin32 x)) ∧ ∃ n, w' = w.drewN n := by
  go_enter Tryd.func119, Tryd.ntmps119
  go_wp2_with (go_at_call 143; refine (isFinite64_any _ (wres_lt _ _) _).mono ?_; rintro e w' ⟨rfl, rfl⟩)
  go_ret
  exact ⟨by rw [← wres_fin w x]; rfl, _, rfl⟩

end Go.Proofs.YtcnllohpkgmkpaaDoor
/- Tests on lists of singles: finite, at least, less. -/
namespace Go.Proofs.YtcnllohpkgmkpaaDoor
open Go.RowKit Go.ChangeShapes Go.WideShapes

/-- x < y; x >= y; x > y, as Go tells it. -/
def ltB (x y : Nat) : Bool := FloatKind.f32.format.order x y == some Ordering.lt
def geB (x y : Nat) : Bool := FloatKind.f32.format.order x y == some Ordering.gt || FloatKind.f32.format.order x y == some Ordering.eq
def gtB (x y : Nat) : Bool := FloatKind.f32.format.order x y == some Ordering.gt
/-- Finite, and at least 0. -/
def leastB (x : Nat) : Bool := fin32 x && geB x 0
def finAll (Z : List Nat) : Bool := Z.all fin32
def leastAll (Z : List Nat) : Bool := Z.all leastB
/-- None is less. -/
def noLess (l : Nat) (Z : List Nat) : Bool := Z.all fun x => !ltB x l

theorem all_true {p : Nat → Bool} {Z : List Nat} (h : ∀ i, i < Z.length → p (Z.getD i 0) = true) : Z.all p = true := by
  rw [List.all_eq_true]
  intro x hx
  obtain ⟨i, hi, rfl⟩ := List.getElem_of_mem hx
  have := h i hi
  rwa [getD_at hi] at this
theorem all_false {p : Nat → Bool} {Z : List Nat} {i : Nat} (hi : i < Z.length) (h : p (Z.getD i 0) = false) : Z.all p = false := by
  rw [getD_at hi] at h
  rw [Bool.eq_false_iff]
  intro hc
  have := List.all_eq_true.1 hc _ (List.getElem_mem hi)
  rw [h] at this; cases this

/-- A quiet call in a region behind a region. -/
theorem quiet_add {P : Program} {f : FuncId} {args : Array Value} {w : World} {a n : Nat} {v : Value}
    (h : Calls P f args (w.drewN (a + n)) fun e w' => e = .returned v ∧ ∃ m, w' = (w.drewN (a + n)).drewN m) :
    Calls P f args (w.drewN (a + n)) fun e w'' => e = .returned v ∧ ∃ m, w'' = w.drewN (a + m) :=
  h.mono fun _ _ ⟨he, m, hm⟩ => ⟨he, n + m, by rw [hm, World.drewN_drewN, Nat.add_assoc]⟩
end Go.Proofs.YtcnllohpkgmkpaaDoor
/- Finite lists of singles, on both sides. -/
namespace Go.Proofs.YtcnllohpkgmkpaaDoor
open Go.RowKit Go.ChangeShapes Go.WideShapes

theorem SL.long' {w : World} {v : Value} {Z : List Nat} (h : SL w v Z) : ∃ ao cap, v = .slice ao Z.length cap := VL.len (mk := Value.float .f32) (d := (0 : Nat)) h

theorem l02Finite_any (v : Value) (Z : List Nat) (w : World) (hv : SL w v Z) (hn : Z.length ≤ 1048576) :
    Calls Tryd.prog 85 #[v] w (Tells (finAll Z) w) := by
  rcases hv with ⟨rfl, ao, cap, rfl⟩ | ⟨b, off, cap, rfl, hpos, hbl, hcell⟩
  · go_enter Tryd.func85, Tryd.ntmps85
    go_wp2
    refine wp_loop_rounds 1 ?_
    rw [rounds_succ]
    go_wp2
    go_ret
    exact tells 0 rfl
  · go_enter Tryd.func85, Tryd.ntmps85
    go_wp2
    go_loopw [3] (fun i wr => ∃ k : Nat, k ≤ Z.length ∧ i = .int .i64 k ∧ (∀ j, j < k → fin32 (Z.getD j 0) = true) ∧ ∃ n, wr = w.drewN n) (fun i _ => Z.length - (intOf i).toNat)
    case atStart => exact ⟨0, Nat.zero_le _, rfl, fun j hj => by omega, 0, rfl⟩
    case round =>
      obtain ⟨k, hk, rfl, hall, n, rfl⟩ := hrel
      have HA := Lib.hid hall
      clear hall
      by_cases hlt : k < Z.length
      · have hc1 := hcell k hlt
        have HG := Lib.hid (getD_at hlt)
        clear hcell
        rw [getD_at hlt] at hc1
        cases hf : fin32 Z[k] with
        | true =>
          have HF := Lib.hid hf
          clear hf
          go_wp2_with (go_at_call 118; refine (l01Finite_any _ _).mono ?_; rintro e w' ⟨rfl, m, rfl⟩; rw [HF.out])
          go_roundw
          case rel => exact ⟨k + 1, by omega, by go_num, fun j hj => by
            by_cases e : j = k
            · subst e; rw [HG.out]; exact HF.out
            · exact HA.out j (by omega), _, rfl⟩
          case measure => simp [intOf]; omega
        | false =>
          have HF := Lib.hid hf
          clear hf
          go_wp2_with (go_at_call 118; refine (l01Finite_any _ _).mono ?_; rintro e w' ⟨rfl, m, rfl⟩; rw [HF.out])
          go_ret
          exact tells _ (all_false hlt (by rw [HG.out]; exact HF.out)).symm
      · obtain rfl : k = Z.length := by omega
        clear hcell
        go_wp2
        go_ret
        exact tells _ (all_true HA.out).symm

/-! ### areFinite -/
def finN (n : Int) (Z : List Nat) : Bool := decide ((Z.length : Int) = n) && finAll Z
theorem areFinite_no (n : Int) (v : Value) (Z : List Nat) (w : World) (hv : SL w v Z) (hne : (Z.length : Int) ≠ n) :
    Calls Tryd.prog 87 #[.int .i64 n, v] w (Tells (finN n Z) w) := by
  obtain ⟨ao, cap, rfl⟩ := SL.long' hv
  have hb : ((Z.length : Int) != n) = true := by simpa using hne
  have hr : finN n Z = false := by unfold finN; rw [decide_eq_false hne]; rfl
  rw [hr]
  clear hr hv hne
  go_enter Tryd.func87, Tryd.ntmps87
  go_wp2
  go_ret
  exact tells 0 rfl
theorem areFinite_yes (v : Value) (Z : List Nat) (w : World) (hv : SL w v Z) (hn : Z.length ≤ 1048576) :
    Calls Tryd.prog 87 #[.int .i64 (Z.length : Nat), v] w (Tells (finAll Z) w) := by
  rcases hv with ⟨rfl, ao, cap, rfl⟩ | ⟨b, off, cap, rfl, hpos, hbl, hcell⟩
  · go_enter Tryd.func87, Tryd.ntmps87
    go_wp2
    refine wp_loop_rounds 1 ?_
    rw [rounds_succ]
    go_wp2
    go_ret
    exact tells 0 rfl
  · go_enter Tryd.func87, Tryd.ntmps87
    go_wp2
    go_loopw [13] (fun i wr => ∃ k : Nat, k ≤ Z.length ∧ i = .int .i64 k ∧ (∀ j, j < k → fin32 (Z.getD j 0) = true) ∧ ∃ n, wr = w.drewN n) (fun i _ => Z.length - (intOf i).toNat)
    case atStart => exact ⟨0, Nat.zero_le _, rfl, fun j hj => by omega, 0, rfl⟩
    case round =>
      obtain ⟨k, hk, rfl, hall, n, rfl⟩ := hrel
      have HA := Lib.hid hall
      clear hall
      by_cases hlt : k < Z.length
      · have hc1 := hcell k hlt
        have HG := Lib.hid (getD_at hlt)
        clear hcell
        rw [getD_at hlt] at hc1
        cases hf : fin32 Z[k] with
        | true =>
          have HF := Lib.hid hf
          clear hf
          go_wp2_with (go_at_call 119; refine (implFinite_any _ _).mono ?_; rintro e w' ⟨rfl, m, rfl⟩; rw [HF.out])
          go_roundw
          case rel => exact ⟨k + 1, by omega, by go_num, fun j hj => by
            by_cases e : j = k
            · subst e; rw [HG.out]; exact HF.out
            · exact HA.out j (by omega), _, rfl⟩
          case measure => simp [intOf]; omega
        | false =>
          have HF := Lib.hid hf
          clear hf
          go_wp2_with (go_at_call 119; refine (implFinite_any _ _).mono ?_; rintro e w' ⟨rfl, m, rfl⟩; rw [HF.out])
          go_ret
          exact tells _ (all_false hlt (by rw [HG.out]; exact HF.out)).symm
      · obtain rfl : k = Z.length := by omega
        clear hcell
        go_wp2
        go_ret
        exact tells _ (all_true HA.out).symm
theorem areFinite_any (n : Int) (v : Value) (Z : List Nat) (w : World) (hv : SL w v Z) (hn : Z.length ≤ 1048576) :
    Calls Tryd.prog 87 #[.int .i64 n, v] w (Tells (finN n Z) w) := by
  by_cases h : (Z.length : Int) = n
  · subst h
    have e : finN (Z.length : Nat) Z = finAll Z := by unfold finN; rw [decide_eq_true rfl, Bool.true_and]
    rw [e]
    exact areFinite_yes v Z w hv hn
  · exact areFinite_no n v Z w hv h

theorem l02Least_any (x : Nat) (w : World) : Calls Tryd.prog 86 #[.float .f32 x] w (Tells (leastB x) w) := by
  unfold leastB geB
  cases hf : fin32 x with
  | true =>
    have HF := Lib.hid hf
    clear hf
    go_enter Tryd.func86, Tryd.ntmps86
    go_wp2_with (go_at_call 118; refine (l01Finite_any _ _).mono ?_; rintro e w' ⟨rfl, m, rfl⟩; rw [HF.out])
    go_ret
    exact tells _ (by simp)
  | false =>
    have HF := Lib.hid hf
    clear hf
    go_enter Tryd.func86, Tryd.ntmps86
    go_wp2_with (go_at_call 118; refine (l01Finite_any _ _).mono ?_; rintro e w' ⟨rfl, m, rfl⟩; rw [HF.out])
    go_ret
    exact tells _ rfl
end Go.Proofs.YtcnllohpkgmkpaaDoor
/- Tests on lists of singles, on both sides. -/
namespace Go.Proofs.YtcnllohpkgmkpaaDoor
open Go.RowKit Go.ChangeShapes Go.WideShapes

/-! ### areAtLeast -/
theorem areAtLeast_any (l : Nat) (v : Value) (Z : List Nat) (w : World) (hv : SL w v Z) (hn : Z.length ≤ 1048576) :
    Calls Tryd.prog 88 #[.float .f32 l, v] w (Tells (noLess l Z) w) := by
  rcases hv with ⟨rfl, ao, cap, rfl⟩ | ⟨b, off, cap, rfl, hpos, hbl, hcell⟩
  · go_enter Tryd.func88, Tryd.ntmps88
    go_wp2
    refine wp_loop_rounds 1 ?_
    rw [rounds_succ]
    go_wp2
    go_ret
    exact tells 0 rfl
  · go_enter Tryd.func88, Tryd.ntmps88
    go_wp2
    go_loop [9] (fun i => ∃ k : Nat, k ≤ Z.length ∧ i = .int .i64 k ∧ (∀ j, j < k → (!ltB (Z.getD j 0) l) = true)) (fun i => Z.length - (intOf i).toNat)
    case atStart => exact ⟨0, Nat.zero_le _, rfl, fun j hj => by omega⟩
    case round =>
      obtain ⟨k, hk, rfl, hall⟩ := hrel
      have HA := Lib.hid hall
      clear hall
      by_cases hlt : k < Z.length
      · have hc1 := hcell k hlt
        have HG := Lib.hid (getD_at hlt)
        clear hcell
        rw [getD_at hlt] at hc1
        cases hf : ltB Z[k] l with
        | false =>
          have HF := Lib.hid hf
          unfold ltB at hf
          go_wp2
          go_round
          case rel => exact ⟨k + 1, by omega, by go_num, fun j hj => by
            by_cases e : j = k
            · subst e; rw [HG.out, HF.out]; rfl
            · exact HA.out j (by omega)⟩
          case measure => simp [intOf]; omega
        | true =>
          have HF := Lib.hid hf
          unfold ltB at hf
          go_wp2
          go_ret
          exact tells 0 (all_false hlt (by rw [HG.out, HF.out]; rfl)).symm
      · obtain rfl : k = Z.length := by omega
        clear hcell
        go_wp2
        go_ret
        exact tells 0 (all_true HA.out).symm

/-! ### finite, and at least 0 -/
theorem l00In_any (n lo hi : Int) (w : World) : Calls Tryd.prog 84 #[.int .i64 n, .int .i64 lo, .int .i64 hi] w (Tells (decide (lo ≤ n) && decide (n ≤ hi)) w) := by
  by_cases h1 : lo ≤ n
  · by_cases h2 : n ≤ hi
    · rw [decide_eq_true h1, decide_eq_true h2]
      go_enter Tryd.func84, Tryd.ntmps84
      go_wp2
      go_ret
      exact tells 0 (by simp)
    · rw [decide_eq_true h1, decide_eq_false h2]
      go_enter Tryd.func84, Tryd.ntmps84
      go_wp2
      go_ret
      exact tells 0 (by simp)
  · rw [decide_eq_false h1]
    go_enter Tryd.func84, Tryd.ntmps84
    go_wp2
    go_ret
    exact tells 0 (by simp)
end Go.Proofs.YtcnllohpkgmkpaaDoor
/- Rows are valid: both sides say so. -/
namespace Go.Proofs.YtcnllohpkgmkpaaDoor
open Go.RowKit Go.ChangeShapes Go.WideShapes

/-- What valid rows are. -/
structure OkR (R : Rw) : Prop where
  v1 : 1 ≤ R.vars
  v2 : R.vars ≤ 8
  b1 : 1 ≤ R.B.length
  b2 : R.B.length ≤ 8
  g : (R.G.length : Int) = R.vars
  n : (R.N.length : Int) = R.vars * R.B.length
  fn : finAll R.N = true
  fg : finAll R.G = true
  lb : leastAll R.B = true
def okR (R : Rw) : Bool := decide (1 ≤ R.vars) && (decide (R.vars ≤ 8) && (decide (1 ≤ R.B.length) && (decide (R.B.length ≤ 8) && (decide ((R.G.length : Int) = R.vars) && (decide ((R.N.length : Int) = R.vars * R.B.length) && (finAll R.N && (finAll R.G && leastAll R.B)))))))
theorem okR_iff (R : Rw) : okR R = true ↔ OkR R := by
  unfold okR
  simp only [Bool.and_eq_true, decide_eq_true_eq]
  exact ⟨fun ⟨a, b, c, d, e, f, g, h, i⟩ => ⟨a, b, c, d, e, f, g, h, i⟩, fun ⟨a, b, c, d, e, f, g, h, i⟩ => ⟨a, b, c, d, e, f, g, h, i⟩⟩
theorem okR_no {R : Rw} (h : ¬ OkR R) : okR R = false := by
  rw [Bool.eq_false_iff]
  exact fun hc => h ((okR_iff R).1 hc)

/-- A block that holds rows. -/
structure RP (w : World) (g : Nat) (s1 s2 s3 : Value) (R : Rw) : Prop where
  c0 : w.cell? ⟨g, 0, none⟩ = some (.int .i64 R.vars)
  c1 : w.cell? ⟨g, 1, none⟩ = some s1
  c2 : w.cell? ⟨g, 2, none⟩ = some s2
  c3 : w.cell? ⟨g, 3, none⟩ = some s3
  r1 : SL w s1 R.N
  r2 : SL w s2 R.B
  r3 : SL w s3 R.G

theorem l02Finite_is (b : Bool) (v : Value) (Z : List Nat) (w : World) (hv : SL w v Z) (hn : Z.length ≤ 1048576) (hb : finAll Z = b) :
    Calls Tryd.prog 85 #[v] w (Tells b w) := by
  subst hb
  exact l02Finite_any v Z w hv hn
set_option maxHeartbeats 400000 in
theorem l02Is_v (g : Nat) (s1 s2 s3 : Value) (R : Rw) (w : World) (h : RP w g s1 s2 s3 R) (hn : R.size ≤ 1048576) (hv : ¬ (1 ≤ R.vars ∧ R.vars ≤ 8)) :
    Calls Tryd.prog 54 #[.pointer (some ⟨g, 0, none⟩)] w (Tells (okR R) w) := by
  obtain ⟨c0, c1, c2, c3, r1, r2, r3⟩ := h
  obtain ⟨ao1, cap1, rfl⟩ := r1.long
  obtain ⟨ao2, cap2, rfl⟩ := r2.long
  obtain ⟨ao3, cap3, rfl⟩ := r3.long
  have hn1 : R.N.length ≤ 1048576 := by unfold Rw.size at hn; omega
  have hn2 : R.B.length ≤ 1048576 := by unfold Rw.size at hn; omega
  have hn3 : R.G.length ≤ 1048576 := by unfold Rw.size at hn; omega
  have G1 := Lib.hid r1
  have G2 := Lib.hid r2
  have G3 := Lib.hid r3
  clear hn r1 r2 r3
  have NO := Lib.hid (okR_no (R := R) fun h => hv ⟨h.v1, h.v2⟩)
  have T0 := Lib.hid (show (decide (1 ≤ R.vars) && decide (R.vars ≤ 8)) = false by rw [← Bool.decide_and]; exact decide_eq_false hv)
  clear hv
  go_enter Tryd.func54, Tryd.ntmps54
  go_wp2_with fail
  go_quiet (((go_at_call 84; exact Calls.quiet_of (by have := l00In_any R.vars 1 8; rw [T0.out] at this; exact this _))))
  go_wp2_with fail
  go_ret
  exact tells _ NO.out.symm
set_option maxHeartbeats 400000 in
theorem l02Is_b1 (g : Nat) (s1 s2 s3 : Value) (R : Rw) (w : World) (h : RP w g s1 s2 s3 R) (hn : R.size ≤ 1048576) (hv1 : 1 ≤ R.vars) (hv2 : R.vars ≤ 8) (hb : R.B.length < 1) :
    Calls Tryd.prog 54 #[.pointer (some ⟨g, 0, none⟩)] w (Tells (okR R) w) := by
  obtain ⟨c0, c1, c2, c3, r1, r2, r3⟩ := h
  obtain ⟨ao1, cap1, rfl⟩ := r1.long
  obtain ⟨ao2, cap2, rfl⟩ := r2.long
  obtain ⟨ao3, cap3, rfl⟩ := r3.long
  have hn1 : R.N.length ≤ 1048576 := by unfold Rw.size at hn; omega
  have hn2 : R.B.length ≤ 1048576 := by unfold Rw.size at hn; omega
  have hn3 : R.G.length ≤ 1048576 := by unfold Rw.size at hn; omega
  have G1 := Lib.hid r1
  have G2 := Lib.hid r2
  have G3 := Lib.hid r3
  clear hn r1 r2 r3
  have NO := Lib.hid (okR_no (R := R) fun h => by have := h.b1; omega)
  have T0 := Lib.hid (show (decide (1 ≤ R.vars) && decide (R.vars ≤ 8)) = true by simp [hv1, hv2])
  have t1 : decide ((R.B.length : Int) < 1) = true := by simp; omega
  go_enter Tryd.func54, Tryd.ntmps54
  go_wp2_with fail
  go_quiet (((go_at_call 84; exact Calls.quiet_of (by have := l00In_any R.vars 1 8; rw [T0.out] at this; exact this _))))
  go_wp2_with fail
  go_ret
  exact tells _ NO.out.symm
set_option maxHeartbeats 400000 in
theorem l02Is_b2 (g : Nat) (s1 s2 s3 : Value) (R : Rw) (w : World) (h : RP w g s1 s2 s3 R) (hn : R.size ≤ 1048576) (hv1 : 1 ≤ R.vars) (hv2 : R.vars ≤ 8) (hb : 8 < R.B.length) :
    Calls Tryd.prog 54 #[.pointer (some ⟨g, 0, none⟩)] w (Tells (okR R) w) := by
  obtain ⟨c0, c1, c2, c3, r1, r2, r3⟩ := h
  obtain ⟨ao1, cap1, rfl⟩ := r1.long
  obtain ⟨ao2, cap2, rfl⟩ := r2.long
  obtain ⟨ao3, cap3, rfl⟩ := r3.long
  have hn1 : R.N.length ≤ 1048576 := by unfold Rw.size at hn; omega
  have hn2 : R.B.length ≤ 1048576 := by unfold Rw.size at hn; omega
  have hn3 : R.G.length ≤ 1048576 := by unfold Rw.size at hn; omega
  have G1 := Lib.hid r1
  have G2 := Lib.hid r2
  have G3 := Lib.hid r3
  clear hn r1 r2 r3
  have NO := Lib.hid (okR_no (R := R) fun h => by have := h.b2; omega)
  have T0 := Lib.hid (show (decide (1 ≤ R.vars) && decide (R.vars ≤ 8)) = true by simp [hv1, hv2])
  have t1 : decide ((R.B.length : Int) < 1) = false := by simp; omega
  have t2 : decide ((8 : Int) < (R.B.length : Int)) = true := by simp; omega
  go_enter Tryd.func54, Tryd.ntmps54
  go_wp2_with fail
  go_quiet (((go_at_call 84; exact Calls.quiet_of (by have := l00In_any R.vars 1 8; rw [T0.out] at this; exact this _))))
  go_wp2_with fail
  go_ret
  exact tells _ NO.out.symm
set_option maxHeartbeats 400000 in
theorem l02Is_g (g : Nat) (s1 s2 s3 : Value) (R : Rw) (w : World) (h : RP w g s1 s2 s3 R) (hn : R.size ≤ 1048576) (hv1 : 1 ≤ R.vars) (hv2 : R.vars ≤ 8) (hb1 : 1 ≤ R.B.length) (hb2 : R.B.length ≤ 8) (hg : (R.G.length : Int) ≠ R.vars) :
    Calls Tryd.prog 54 #[.pointer (some ⟨g, 0, none⟩)] w (Tells (okR R) w) := by
  obtain ⟨c0, c1, c2, c3, r1, r2, r3⟩ := h
  obtain ⟨ao1, cap1, rfl⟩ := r1.long
  obtain ⟨ao2, cap2, rfl⟩ := r2.long
  obtain ⟨ao3, cap3, rfl⟩ := r3.long
  have hn1 : R.N.length ≤ 1048576 := by unfold Rw.size at hn; omega
  have hn2 : R.B.length ≤ 1048576 := by unfold Rw.size at hn; omega
  have hn3 : R.G.length ≤ 1048576 := by unfold Rw.size at hn; omega
  have G1 := Lib.hid r1
  have G2 := Lib.hid r2
  have G3 := Lib.hid r3
  clear hn r1 r2 r3
  have NO := Lib.hid (okR_no (R := R) fun h => hg h.g)
  have T0 := Lib.hid (show (decide (1 ≤ R.vars) && decide (R.vars ≤ 8)) = true by simp [hv1, hv2])
  have t1 : decide ((R.B.length : Int) < 1) = false := by simp; omega
  have t2 : decide ((8 : Int) < (R.B.length : Int)) = false := by simp; omega
  have t3 : ((R.G.length : Int) != R.vars) = true := by simpa using hg
  clear hg
  go_enter Tryd.func54, Tryd.ntmps54
  go_wp2_with fail
  go_quiet (((go_at_call 84; exact Calls.quiet_of (by have := l00In_any R.vars 1 8; rw [T0.out] at this; exact this _))))
  go_wp2_with fail
  go_ret
  exact tells _ NO.out.symm
set_option maxHeartbeats 400000 in
theorem l02Is_n (g : Nat) (s1 s2 s3 : Value) (R : Rw) (w : World) (h : RP w g s1 s2 s3 R) (hn : R.size ≤ 1048576) (hv1 : 1 ≤ R.vars) (hv2 : R.vars ≤ 8) (hb1 : 1 ≤ R.B.length) (hb2 : R.B.length ≤ 8) (hg : (R.G.length : Int) = R.vars) (hN : (R.N.length : Int) ≠ R.vars * R.B.length) :
    Calls Tryd.prog 54 #[.pointer (some ⟨g, 0, none⟩)] w (Tells (okR R) w) := by
  obtain ⟨c0, c1, c2, c3, r1, r2, r3⟩ := h
  obtain ⟨ao1, cap1, rfl⟩ := r1.long
  obtain ⟨ao2, cap2, rfl⟩ := r2.long
  obtain ⟨ao3, cap3, rfl⟩ := r3.long
  have hn1 : R.N.length ≤ 1048576 := by unfold Rw.size at hn; omega
  have hn2 : R.B.length ≤ 1048576 := by unfold Rw.size at hn; omega
  have hn3 : R.G.length ≤ 1048576 := by unfold Rw.size at hn; omega
  have G1 := Lib.hid r1
  have G2 := Lib.hid r2
  have G3 := Lib.hid r3
  clear hn r1 r2 r3
  have NO := Lib.hid (okR_no (R := R) fun h => hN h.n)
  have T0 := Lib.hid (show (decide (1 ≤ R.vars) && decide (R.vars ≤ 8)) = true by simp [hv1, hv2])
  have t1 : decide ((R.B.length : Int) < 1) = false := by simp; omega
  have t2 : decide ((8 : Int) < (R.B.length : Int)) = false := by simp; omega
  have t3 : ((R.G.length : Int) != R.vars) = false := by simp [hg]
  have HG := Lib.hid hg
  clear hg
  have hp : 0 ≤ R.vars * (R.B.length : Int) ∧ R.vars * (R.B.length : Int) ≤ 64 := ⟨Int.mul_nonneg (by omega) (by omega), Int.le_trans (Int.mul_le_mul hv2 (by omega : (R.B.length : Int) ≤ 8) (by omega) (by omega)) (by omega)⟩
  have hw : IntKind.i64.wrap (R.vars * (R.B.length : Int)) = R.vars * (R.B.length : Int) := IntWalk.i64_in _ (by omega)
  have t4 : ((R.N.length : Int) != R.vars * (R.B.length : Int)) = true := by simpa using hN
  clear hN
  go_enter Tryd.func54, Tryd.ntmps54
  go_wp2_with fail
  go_quiet (((go_at_call 84; exact Calls.quiet_of (by have := l00In_any R.vars 1 8; rw [T0.out] at this; exact this _))))
  go_wp2_with fail
  go_quiet ((go_at_call 85; first | exact quiet_add (l02Finite_is _ _ _ _ G1.out hn1 rfl) | exact quiet_add (l02Finite_is _ _ _ _ G3.out hn3 rfl)))
  go_wp2_with fail
  go_ret
  exact tells2 _ _ NO.out.symm
set_option maxHeartbeats 400000 in
theorem l02Is_fn (g : Nat) (s1 s2 s3 : Value) (R : Rw) (w : World) (h : RP w g s1 s2 s3 R) (hn : R.size ≤ 1048576) (hv1 : 1 ≤ R.vars) (hv2 : R.vars ≤ 8) (hb1 : 1 ≤ R.B.length) (hb2 : R.B.length ≤ 8) (hg : (R.G.length : Int) = R.vars) (hN : (R.N.length : Int) = R.vars * R.B.length) (hfn : ¬ finAll R.N = true) :
    Calls Tryd.prog 54 #[.pointer (some ⟨g, 0, none⟩)] w (Tells (okR R) w) := by
  obtain ⟨c0, c1, c2, c3, r1, r2, r3⟩ := h
  obtain ⟨ao1, cap1, rfl⟩ := r1.long
  obtain ⟨ao2, cap2, rfl⟩ := r2.long
  obtain ⟨ao3, cap3, rfl⟩ := r3.long
  have hn1 : R.N.length ≤ 1048576 := by unfold Rw.size at hn; omega
  have hn2 : R.B.length ≤ 1048576 := by unfold Rw.size at hn; omega
  have hn3 : R.G.length ≤ 1048576 := by unfold Rw.size at hn; omega
  have G1 := Lib.hid r1
  have G2 := Lib.hid r2
  have G3 := Lib.hid r3
  clear hn r1 r2 r3
  have NO := Lib.hid (okR_no (R := R) fun h => hfn h.fn)
  have T0 := Lib.hid (show (decide (1 ≤ R.vars) && decide (R.vars ≤ 8)) = true by simp [hv1, hv2])
  have t1 : decide ((R.B.length : Int) < 1) = false := by simp; omega
  have t2 : decide ((8 : Int) < (R.B.length : Int)) = false := by simp; omega
  have t3 : ((R.G.length : Int) != R.vars) = false := by simp [hg]
  have HG := Lib.hid hg
  clear hg
  have hp : 0 ≤ R.vars * (R.B.length : Int) ∧ R.vars * (R.B.length : Int) ≤ 64 := ⟨Int.mul_nonneg (by omega) (by omega), Int.le_trans (Int.mul_le_mul hv2 (by omega : (R.B.length : Int) ≤ 8) (by omega) (by omega)) (by omega)⟩
  have hw : IntKind.i64.wrap (R.vars * (R.B.length : Int)) = R.vars * (R.B.length : Int) := IntWalk.i64_in _ (by omega)
  have t4 : ((R.N.length : Int) != R.vars * (R.B.length : Int)) = false := by simp [hN]
  have HN := Lib.hid hN
  clear hN
  have U1 := Lib.hid (show finAll R.N = false by simpa using hfn)
  clear hfn
  go_enter Tryd.func54, Tryd.ntmps54
  go_wp2_with fail
  go_quiet (((go_at_call 84; exact Calls.quiet_of (by have := l00In_any R.vars 1 8; rw [T0.out] at this; exact this _))))
  go_wp2_with fail
  go_quiet ((go_at_call 85; first | exact quiet_add (l02Finite_is _ _ _ _ G1.out hn1 U1.out) | exact quiet_add (l02Finite_is _ _ _ _ G3.out hn3 rfl)))
  go_wp2_with fail
  go_ret
  exact tells2 _ _ NO.out.symm
set_option maxHeartbeats 400000 in
theorem l02Is_fg (g : Nat) (s1 s2 s3 : Value) (R : Rw) (w : World) (h : RP w g s1 s2 s3 R) (hn : R.size ≤ 1048576) (hv1 : 1 ≤ R.vars) (hv2 : R.vars ≤ 8) (hb1 : 1 ≤ R.B.length) (hb2 : R.B.length ≤ 8) (hg : (R.G.length : Int) = R.vars) (hN : (R.N.length : Int) = R.vars * R.B.length) (hfn : finAll R.N = true) (hfg : ¬ finAll R.G = true) :
    Calls Tryd.prog 54 #[.pointer (some ⟨g, 0, none⟩)] w (Tells (okR R) w) := by
  obtain ⟨c0, c1, c2, c3, r1, r2, r3⟩ := h
  obtain ⟨ao1, cap1, rfl⟩ := r1.long
  obtain ⟨ao2, cap2, rfl⟩ := r2.long
  obtain ⟨ao3, cap3, rfl⟩ := r3.long
  have hn1 : R.N.length ≤ 1048576 := by unfold Rw.size at hn; omega
  have hn2 : R.B.length ≤ 1048576 := by unfold Rw.size at hn; omega
  have hn3 : R.G.length ≤ 1048576 := by unfold Rw.size at hn; omega
  have G1 := Lib.hid r1
  have G2 := Lib.hid r2
  have G3 := Lib.hid r3
  clear hn r1 r2 r3
  have NO := Lib.hid (okR_no (R := R) fun h => hfg h.fg)
  have T0 := Lib.hid (show (decide (1 ≤ R.vars) && decide (R.vars ≤ 8)) = true by simp [hv1, hv2])
  have t1 : decide ((R.B.length : Int) < 1) = false := by simp; omega
  have t2 : decide ((8 : Int) < (R.B.length : Int)) = false := by simp; omega
  have t3 : ((R.G.length : Int) != R.vars) = false := by simp [hg]
  have HG := Lib.hid hg
  clear hg
  have hp : 0 ≤ R.vars * (R.B.length : Int) ∧ R.vars * (R.B.length : Int) ≤ 64 := ⟨Int.mul_nonneg (by omega) (by omega), Int.le_trans (Int.mul_le_mul hv2 (by omega : (R.B.length : Int) ≤ 8) (by omega) (by omega)) (by omega)⟩
  have hw : IntKind.i64.wrap (R.vars * (R.B.length : Int)) = R.vars * (R.B.length : Int) := IntWalk.i64_in _ (by omega)
  have t4 : ((R.N.length : Int) != R.vars * (R.B.length : Int)) = false := by simp [hN]
  have HN := Lib.hid hN
  clear hN
  have U1 := Lib.hid hfn
  have U2 := Lib.hid (show finAll R.G = false by simpa using hfg)
  clear hfn hfg
  go_enter Tryd.func54, Tryd.ntmps54
  go_wp2_with fail
  go_quiet (((go_at_call 84; exact Calls.quiet_of (by have := l00In_any R.vars 1 8; rw [T0.out] at this; exact this _))))
  go_wp2_with fail
  go_quiet ((go_at_call 85; first | exact quiet_add (l02Finite_is _ _ _ _ G1.out hn1 U1.out) | exact quiet_add (l02Finite_is _ _ _ _ G3.out hn3 U2.out)))
  go_wp2_with fail
  go_ret
  exact tells2 _ _ NO.out.symm
set_option maxHeartbeats 1000000 in
theorem l02Is_ok (g : Nat) (s1 s2 s3 : Value) (R : Rw) (w : World) (h : RP w g s1 s2 s3 R) (hn : R.size ≤ 1048576) (hv1 : 1 ≤ R.vars) (hv2 : R.vars ≤ 8) (hb1 : 1 ≤ R.B.length) (hb2 : R.B.length ≤ 8) (hg : (R.G.length : Int) = R.vars) (hN : (R.N.length : Int) = R.vars * R.B.length) (hfn : finAll R.N = true) (hfg : finAll R.G = true) :
    Calls Tryd.prog 54 #[.pointer (some ⟨g, 0, none⟩)] w (Tells (okR R) w) := by
  obtain ⟨c0, c1, c2, c3, r1, r2, r3⟩ := h
  obtain ⟨ao1, cap1, rfl⟩ := r1.long
  obtain ⟨ao2, cap2, rfl⟩ := r2.long
  obtain ⟨ao3, cap3, rfl⟩ := r3.long
  have hn1 : R.N.length ≤ 1048576 := by unfold Rw.size at hn; omega
  have hn2 : R.B.length ≤ 1048576 := by unfold Rw.size at hn; omega
  have hn3 : R.G.length ≤ 1048576 := by unfold Rw.size at hn; omega
  have G1 := Lib.hid r1
  have G2 := Lib.hid r2
  have G3 := Lib.hid r3
  clear hn r1 r2 r3
  have T0 := Lib.hid (show (decide (1 ≤ R.vars) && decide (R.vars ≤ 8)) = true by simp [hv1, hv2])
  have t1 : decide ((R.B.length : Int) < 1) = false := by simp; omega
  have t2 : decide ((8 : Int) < (R.B.length : Int)) = false := by simp; omega
  have t3 : ((R.G.length : Int) != R.vars) = false := by simp [hg]
  have HG := Lib.hid hg
  clear hg
  have hp : 0 ≤ R.vars * (R.B.length : Int) ∧ R.vars * (R.B.length : Int) ≤ 64 := ⟨Int.mul_nonneg (by omega) (by omega), Int.le_trans (Int.mul_le_mul hv2 (by omega : (R.B.length : Int) ≤ 8) (by omega) (by omega)) (by omega)⟩
  have hw : IntKind.i64.wrap (R.vars * (R.B.length : Int)) = R.vars * (R.B.length : Int) := IntWalk.i64_in _ (by omega)
  have t4 : ((R.N.length : Int) != R.vars * (R.B.length : Int)) = false := by simp [hN]
  have HN := Lib.hid hN
  clear hN
  have U1 := Lib.hid hfn
  have U2 := Lib.hid hfg
  clear hfn hfg
  go_enter Tryd.func54, Tryd.ntmps54
  go_wp2_with fail
  go_quiet (((go_at_call 84; exact Calls.quiet_of (by have := l00In_any R.vars 1 8; rw [T0.out] at this; exact this _))))
  go_wp2_with fail
  go_quiet ((go_at_call 85; first | exact quiet_add (l02Finite_is _ _ _ _ G1.out hn1 U1.out) | exact quiet_add (l02Finite_is _ _ _ _ G3.out hn3 U2.out)))
  go_wp2_with fail
  generalize hW : w.drewN _ = W
  have HW := Lib.hid hW
  have GB : SL W (.slice ao2 R.B.length cap2) R.B := by rw [← hW]; exact G2.out
  have e0 : W.cell? ⟨g, 0, none⟩ = some (.int .i64 R.vars) := by rw [← hW]; exact c0
  have e2 : W.cell? ⟨g, 2, none⟩ = some (.slice ao2 R.B.length cap2) := by rw [← hW]; exact c2
  clear hW c0 c1 c2 c3 t1 t2 t3 t4 hw hp
  rcases GB with ⟨hz, _⟩ | ⟨b, off, cap, hs, hpos, hbl, hcell⟩
  · rw [hz] at hb1; exact absurd hb1 (by simp)
  simp only [Value.slice.injEq, true_and] at hs
  obtain ⟨rfl, rfl⟩ := hs
  go_loopw [3] (fun i wr => ∃ k : Nat, k ≤ R.B.length ∧ i = .int .i64 k ∧ (∀ j, j < k → leastB (R.B.getD j 0) = true) ∧ ∃ n, wr = W.drewN n) (fun i _ => R.B.length - (intOf i).toNat)
  case atStart => exact ⟨0, Nat.zero_le _, rfl, fun j hj => by omega, _, rfl⟩
  case round =>
    obtain ⟨k, hk, rfl, hall, n, rfl⟩ := hrel
    have HA := Lib.hid hall
    clear hall
    by_cases hlt : k < R.B.length
    · have hc1 := hcell k hlt
      have HGB := Lib.hid (getD_at hlt)
      clear hcell
      rw [getD_at hlt] at hc1
      cases hf : leastB R.B[k] with
      | true =>
        have HF := Lib.hid hf
        clear hf
        go_wp2_with (go_at_call 86; refine (l02Least_any _ _).mono ?_; rintro e w' ⟨rfl, m, rfl⟩; rw [HF.out])
        go_roundw
        case rel => exact ⟨k + 1, by omega, by go_num, fun j hj => by
          by_cases e : j = k
          · subst e; rw [HGB.out]; exact HF.out
          · exact HA.out j (by omega), _, rfl⟩
        case measure => simp [intOf]; omega
      | false =>
        have HF := Lib.hid hf
        clear hf
        go_wp2_with (go_at_call 86; refine (l02Least_any _ _).mono ?_; rintro e w' ⟨rfl, m, rfl⟩; rw [HF.out])
        go_ret
        have e : okR R = false := okR_no fun h => by
          have := h.lb
          unfold leastAll at this
          rw [all_false hlt (by rw [HGB.out]; exact HF.out)] at this
          cases this
        rw [← HW.out]
        exact ⟨by rw [e]; rfl, _, World.drewN_drewN _ _ _⟩
    · obtain rfl : k = R.B.length := by omega
      clear hcell
      go_wp2
      go_ret
      have e : okR R = true := (okR_iff R).2 ⟨hv1, hv2, hb1, hb2, HG.out, HN.out, U1.out, U2.out, all_true HA.out⟩
      rw [← HW.out]
      exact ⟨by rw [e]; rfl, _, World.drewN_drewN _ _ _⟩
theorem l02Is_any (g : Nat) (s1 s2 s3 : Value) (R : Rw) (w : World) (h : RP w g s1 s2 s3 R) (hn : R.size ≤ 1048576) :
    Calls Tryd.prog 54 #[.pointer (some ⟨g, 0, none⟩)] w (Tells (okR R) w) := by
  by_cases hv : 1 ≤ R.vars ∧ R.vars ≤ 8
  · by_cases hb1 : R.B.length < 1
    · exact l02Is_b1 g s1 s2 s3 R w h hn hv.1 hv.2 hb1
    by_cases hb2 : 8 < R.B.length
    · exact l02Is_b2 g s1 s2 s3 R w h hn hv.1 hv.2 hb2
    by_cases hg : (R.G.length : Int) = R.vars
    · by_cases hN : (R.N.length : Int) = R.vars * R.B.length
      · by_cases hfn : finAll R.N = true
        · by_cases hfg : finAll R.G = true
          · exact l02Is_ok g s1 s2 s3 R w h hn hv.1 hv.2 (by omega) (by omega) hg hN hfn hfg
          · exact l02Is_fg g s1 s2 s3 R w h hn hv.1 hv.2 (by omega) (by omega) hg hN hfn hfg
        · exact l02Is_fn g s1 s2 s3 R w h hn hv.1 hv.2 (by omega) (by omega) hg hN hfn
      · exact l02Is_n g s1 s2 s3 R w h hn hv.1 hv.2 (by omega) (by omega) hg hN
    · exact l02Is_g g s1 s2 s3 R w h hn hv.1 hv.2 (by omega) (by omega) hg
  · exact l02Is_v g s1 s2 s3 R w h hn hv
end Go.Proofs.YtcnllohpkgmkpaaDoor
/- Rows are valid: the program says so; both sides, of rows by value. -/
namespace Go.Proofs.YtcnllohpkgmkpaaDoor
open Go.RowKit Go.ChangeShapes Go.WideShapes


/-- A finite number is at least 0 just if it is not less. -/
theorem fin_ge {x : Nat} (h : fin32 x = true) : geB x 0 = !ltB x 0 := by
  have hx : Fl.Fin Ieee.single x := by
    unfold fin32 at h
    unfold Fl.Fin
    rw [Fl.single_inf]
    exact of_decide_eq_true h
  have h0 : Fl.Fin Ieee.single 0 := by unfold Fl.Fin; decide
  have ho := Fl.order_fin hx h0
  unfold geB ltB
  show (Ieee.single.order x 0 == some Ordering.gt || Ieee.single.order x 0 == some Ordering.eq) = !(Ieee.single.order x 0 == some Ordering.lt)
  by_cases hl : Fl.sv Ieee.single x < Fl.sv Ieee.single 0
  · rw [ho.1.2 hl]; rfl
  · by_cases he : Fl.sv Ieee.single x = Fl.sv Ieee.single 0
    · rw [ho.2.1.2 he]; rfl
    · rw [ho.2.2.2 (by grind)]; rfl
theorem least_split : ∀ Z : List Nat, leastAll Z = (finAll Z && noLess 0 Z)
  | [] => rfl
  | x :: Z => by
    have ih := least_split Z
    unfold leastAll finAll noLess at ih ⊢
    simp only [List.all_cons]
    rw [ih]
    unfold leastB
    cases hf : fin32 x with
    | true => rw [fin_ge hf]; cases ltB x 0 <;> cases Z.all fin32 <;> rfl
    | false => simp
theorem areFinite_is (n : Int) (b : Bool) (v : Value) (Z : List Nat) (w : World) (hv : SL w v Z) (hn : Z.length ≤ 1048576) (hb : finN n Z = b) :
    Calls Tryd.prog 87 #[.int .i64 n, v] w (Tells b w) := by
  subst hb
  exact areFinite_any n v Z w hv hn
theorem areAtLeast_is (l : Nat) (b : Bool) (v : Value) (Z : List Nat) (w : World) (hv : SL w v Z) (hn : Z.length ≤ 1048576) (hb : noLess l Z = b) :
    Calls Tryd.prog 88 #[.float .f32 l, v] w (Tells b w) := by
  subst hb
  exact areAtLeast_any l v Z w hv hn
/-- What the program asks of rows, in its order. -/
def okI (R : Rw) (b1 b2 b3 b4 : Bool) : Prop := finN (R.vars * R.B.length) R.N = b1 ∧ finN R.vars R.G = b2 ∧ finN (R.B.length : Nat) R.B = b3 ∧ noLess 0 R.B = b4
theorem okI_ok {R : Rw} {b1 b2 b3 b4 : Bool} (h : okI R b1 b2 b3 b4) (v1 : 1 ≤ R.vars) (v2 : R.vars ≤ 8) (r1 : 1 ≤ R.B.length) (r2 : R.B.length ≤ 8) : (b1 && (b2 && (b3 && b4))) = okR R := by
  obtain ⟨rfl, rfl, rfl, rfl⟩ := h
  unfold okR finN
  rw [least_split, decide_eq_true v1, decide_eq_true v2, decide_eq_true r1, decide_eq_true r2, decide_eq_true (rfl : ((R.B.length : Nat) : Int) = (R.B.length : Nat))]
  simp only [Bool.true_and]
  cases decide ((R.G.length : Int) = R.vars) <;> cases decide ((R.N.length : Int) = R.vars * R.B.length) <;> cases finAll R.N <;> cases finAll R.G <;> rfl

set_option maxHeartbeats 1000000 in
theorem implValid_in (v : Value) (R : Rw) (w : World) (b1 b2 b3 b4 : Bool) (hv : RV w v R) (hn : R.size ≤ 1048576) (v1 : 1 ≤ R.vars) (v2 : R.vars ≤ 8) (r1 : 1 ≤ R.B.length) (r2 : R.B.length ≤ 8) (hI : okI R b1 b2 b3 b4) :
    Calls Tryd.prog 56 #[v] w (Says (b1 && (b2 && (b3 && b4))) w) := by
  have HB := Lib.hid (below_alloc w)
  obtain ⟨s1, s2, s3, rfl, g1, g2, g3⟩ := hv
  have hn1 : R.N.length ≤ 1048576 := by unfold Rw.size at hn; omega
  have hn2 : R.B.length ≤ 1048576 := by unfold Rw.size at hn; omega
  have hn3 : R.G.length ≤ 1048576 := by unfold Rw.size at hn; omega
  obtain ⟨ao2, cap2, rfl⟩ := g2.long
  have G1 := Lib.hid g1
  have G2 := Lib.hid g2
  have G3 := Lib.hid g3
  have HI := Lib.hid hI
  clear hn g1 g2 g3 hI
  have t1 : decide (R.vars < 1) = false := by simp; omega
  have t2 : decide (8 < R.vars) = false := by simp; omega
  have t3 : decide ((R.B.length : Int) < 1) = false := by simp; omega
  have t4 : decide ((8 : Int) < (R.B.length : Int)) = false := by simp; omega
  have hp : 0 ≤ R.vars * (R.B.length : Int) ∧ R.vars * (R.B.length : Int) ≤ 64 := ⟨Int.mul_nonneg (by omega) (by omega), Int.le_trans (Int.mul_le_mul v2 (by omega : (R.B.length : Int) ≤ 8) (by omega) (by omega)) (by omega)⟩
  have hw : IntKind.i64.wrap (R.vars * (R.B.length : Int)) = R.vars * (R.B.length : Int) := IntWalk.i64_in _ (by omega)
  cases b1 with
  | false =>
    go_enter Tryd.func56, Tryd.ntmps56
    go_wp2_with (go_at_call 87; refine (areFinite_is _ false _ R.N _ (G1.out.below (HB.out _) (Nat.le_refl _)) hn1 HI.out.1).mono ?_; rintro e w' ⟨rfl, n1, rfl⟩)
    go_ret
    exact says rfl (below_drewN (HB.out _) _)
  | true =>
  cases b2 with
  | false =>
    go_enter Tryd.func56, Tryd.ntmps56
    go_wp2_with fail
    go_at_call 87; refine (areFinite_is _ true _ R.N _ (G1.out.below (HB.out _) (Nat.le_refl _)) hn1 HI.out.1).mono ?_; rintro e w' ⟨rfl, n1, rfl⟩
    go_wp2_with fail
    go_at_call 87; refine (areFinite_is _ false _ R.G _ (G3.out.below (below_drewN (HB.out _) _) (Nat.le_refl _)) hn3 HI.out.2.1).mono ?_; rintro e w' ⟨rfl, n1, rfl⟩
    go_wp2_with fail
    go_ret
    exact says rfl (below_drewN (HB.out _) _)
  | true =>
  cases b3 with
  | false =>
    go_enter Tryd.func56, Tryd.ntmps56
    go_wp2_with fail
    go_at_call 87; refine (areFinite_is _ true _ R.N _ (G1.out.below (HB.out _) (Nat.le_refl _)) hn1 HI.out.1).mono ?_; rintro e w' ⟨rfl, n1, rfl⟩
    go_wp2_with fail
    go_at_call 87; refine (areFinite_is _ true _ R.G _ (G3.out.below (below_drewN (HB.out _) _) (Nat.le_refl _)) hn3 HI.out.2.1).mono ?_; rintro e w' ⟨rfl, n1, rfl⟩
    go_wp2_with fail
    go_at_call 87; refine (areFinite_is _ false _ R.B _ (G2.out.below (below_drewN (HB.out _) _) (Nat.le_refl _)) hn2 HI.out.2.2.1).mono ?_; rintro e w' ⟨rfl, n1, rfl⟩
    go_wp2_with fail
    go_ret
    exact says rfl (below_drewN (HB.out _) _)
  | true =>
    go_enter Tryd.func56, Tryd.ntmps56
    go_wp2_with fail
    go_at_call 87; refine (areFinite_is _ true _ R.N _ (G1.out.below (HB.out _) (Nat.le_refl _)) hn1 HI.out.1).mono ?_; rintro e w' ⟨rfl, n1, rfl⟩
    go_wp2_with fail
    go_at_call 87; refine (areFinite_is _ true _ R.G _ (G3.out.below (below_drewN (HB.out _) _) (Nat.le_refl _)) hn3 HI.out.2.1).mono ?_; rintro e w' ⟨rfl, n1, rfl⟩
    go_wp2_with fail
    go_at_call 87; refine (areFinite_is _ true _ R.B _ (G2.out.below (below_drewN (HB.out _) _) (Nat.le_refl _)) hn2 HI.out.2.2.1).mono ?_; rintro e w' ⟨rfl, n1, rfl⟩
    go_wp2_with fail
    go_at_call 88; refine (areAtLeast_is _ _ _ R.B _ (G2.out.below (below_drewN (HB.out _) _) (Nat.le_refl _)) hn2 HI.out.2.2.2).mono ?_; rintro e w' ⟨rfl, n1, rfl⟩
    go_wp2_with fail
    go_ret
    exact says rfl (below_drewN (HB.out _) _)
theorem implValid_any (v : Value) (R : Rw) (w : World) (hv : RV w v R) (hn : R.size ≤ 1048576) :
    Calls Tryd.prog 56 #[v] w (Says (okR R) w) := by
  by_cases v1 : 1 ≤ R.vars
  · by_cases v2 : R.vars ≤ 8
    · by_cases r1 : 1 ≤ R.B.length
      · by_cases r2 : R.B.length ≤ 8
        · have hI : okI R _ _ _ _ := ⟨rfl, rfl, rfl, rfl⟩
          rw [← okI_ok hI v1 v2 r1 r2]
          exact implValid_in v R w _ _ _ _ hv hn v1 v2 r1 r2 hI
        · have NO := Lib.hid (okR_no (R := R) fun h => r2 h.b2)
          obtain ⟨s1, s2, s3, rfl, g1, g2, g3⟩ := hv
          obtain ⟨ao2, cap2, rfl⟩ := g2.long
          have hn2 : R.B.length ≤ 1048576 := by unfold Rw.size at hn; omega
          clear g1 g2 g3 hn
          have t1 : decide (R.vars < 1) = false := by simp; omega
          have t2 : decide (8 < R.vars) = false := by simp; omega
          have t3 : decide ((R.B.length : Int) < 1) = false := by simp; omega
          have t4 : decide ((8 : Int) < (R.B.length : Int)) = true := by simp; omega
          clear r1 r2
          go_enter Tryd.func56, Tryd.ntmps56
          go_wp2
          go_ret
          exact says NO.out.symm (below_alloc _ _)
      · have NO := Lib.hid (okR_no (R := R) fun h => r1 h.b1)
        obtain ⟨s1, s2, s3, rfl, g1, g2, g3⟩ := hv
        obtain ⟨ao2, cap2, rfl⟩ := g2.long
        clear g1 g2 g3 hn
        have t1 : decide (R.vars < 1) = false := by simp; omega
        have t2 : decide (8 < R.vars) = false := by simp; omega
        have t3 : decide ((R.B.length : Int) < 1) = true := by simp; omega
        clear r1
        go_enter Tryd.func56, Tryd.ntmps56
        go_wp2
        go_ret
        exact says NO.out.symm (below_alloc _ _)
    · have NO := Lib.hid (okR_no (R := R) fun h => v2 h.v2)
      obtain ⟨s1, s2, s3, rfl, g1, g2, g3⟩ := hv
      obtain ⟨ao2, cap2, rfl⟩ := g2.long
      clear g1 g2 g3 hn
      have t1 : decide (R.vars < 1) = false := by simp; omega
      have t2 : decide (8 < R.vars) = true := by simp; omega
      clear v2
      go_enter Tryd.func56, Tryd.ntmps56
      go_wp2
      go_ret
      exact says NO.out.symm (below_alloc _ _)
  · have NO := Lib.hid (okR_no (R := R) fun h => v1 h.v1)
    obtain ⟨s1, s2, s3, rfl, g1, g2, g3⟩ := hv
    obtain ⟨ao2, cap2, rfl⟩ := g2.long
    clear g1 g2 g3 hn
    have t1 : decide (R.vars < 1) = true := by simp; omega
    clear v1
    go_enter Tryd.func56, Tryd.ntmps56
    go_wp2
    go_ret
    exact says NO.out.symm (below_alloc _ _)

end Go.Proofs.YtcnllohpkgmkpaaDoor
/- Marks in rows: laid, and found again (on Il; never beside DkR, MkR, MarkR, HeldR). -/
namespace Go.Proofs.YtcnllohpkgmkpaaDoor
open Go.RowKit Go.ChangeShapes Go.WideShapes

theorem Box4.kept {lo hi : Nat} {w w' : World} {g : Nat} {a b c d : Value} (h : Box4 w g a b c d) (ht : Turned lo hi w w') (hg : g < lo ∨ hi ≤ g) : Box4 w' g a b c d := ⟨keep_cell' h.c0 ht hg, keep_cell' h.c1 ht hg, keep_cell' h.c2 ht hg, keep_cell' h.c3 ht hg⟩
theorem Turned.alloc (lo hi : Nat) (w : World) (o : Obj) : Turned lo hi w (w.alloc o) := Turned.of_below (below_alloc w o) (Nat.le_refl _)
theorem ret_int2 {a b : Int} (h : a = b) : Ending.returned (.int .i64 a) = .returned (.int .i64 b) := by rw [h]
def marksR (k : Int) (R : Rw) : Rw := ⟨R.vars, marks k R.N.length, marks (k + (R.N.length : Nat)) R.B.length, marks (k + (R.N.length : Nat) + (R.B.length : Nat)) R.G.length⟩
theorem marksR_size (k : Int) (R : Rw) : (marksR k R).size = R.size := by unfold marksR Rw.size; simp [marks_len]
def MarkedR (lo hi : Nat) (v : Value) (k : Int) (R : Rw) (w : World) (e : Ending) (w' : World) : Prop := e = .returned (.int .i64 (k + (R.size : Nat))) ∧ RD lo hi w' v (marksR k R) ∧ Turned lo hi w w'
set_option maxHeartbeats 1000000 in
theorem markRows_any (lo hi : Nat) (v : Value) (R : Rw) (k : Int) (w : World) (hv : RD lo hi w v R) (hn : R.size ≤ 1048576) (hk0 : 0 ≤ k) (hk1 : k ≤ 2097152) :
    Calls Tryd.prog 40 #[v, .int .i64 k] w (MarkedR lo hi v k R w) := by
  obtain ⟨s1, s2, s3, a, b, l1, l2, l3, rfl, g1, g2, g3⟩ := hv
  have hn1 : R.N.length ≤ 1048576 := by unfold Rw.size at hn; omega
  have hn2 : R.B.length ≤ 1048576 := by unfold Rw.size at hn; omega
  have hn3 : R.G.length ≤ 1048576 := by unfold Rw.size at hn; omega
  have hhi : hi ≤ w.heap.size := g3.1
  have X0 := Lib.hid (Box4.mk' w (.int .i64 R.vars) s1 s2 s3 38)
  have G1 := Lib.hid (fun o => SI.below g1 (below_alloc w o) (Nat.le_refl _))
  have G2 := Lib.hid (fun o => SI.below g2 (below_alloc w o) (Nat.le_refl _))
  have G3 := Lib.hid (fun o => SI.below g3 (below_alloc w o) (Nat.le_refl _))
  have HS : Hid (k + (R.N.length : Nat) + (R.B.length : Nat) + (R.G.length : Nat) = k + (R.size : Nat)) := Lib.hid (by unfold Rw.size; omega)
  have hs : R.N.length + R.B.length + R.G.length ≤ 1048576 := by unfold Rw.size at hn; exact hn
  clear g1 g2 g3 hn
  go_enter Tryd.func40, Tryd.ntmps40
  go_wp2_with fail
  go_at_call 26; refine (markF32_any lo a _ R.N k _ (G1.out _) hn1 hk0 (by omega)).mono ?_; rintro e w1 ⟨rfl, i1, t1⟩
  have T1 := Lib.hid ((Turned.alloc lo hi w _).trans (t1.wide (Nat.le_refl _) (by omega)))
  have I1 := Lib.hid i1
  have I2 := Lib.hid (SI.kept (G2.out _) t1 (Or.inr (Nat.le_refl _)))
  have I3 := Lib.hid (SI.kept (G3.out _) t1 (Or.inr l2))
  have X1 := Lib.hid (X0.out.kept t1 (Or.inr (by omega)))
  clear i1 t1 X0 G2 G3
  obtain ⟨c0, c1, c2, c3⟩ := X1.out
  go_wp2_with fail
  clear c0 c1 c2 c3
  go_at_call 26; refine (markF32_any a b _ R.B (k + (R.N.length : Nat)) _ I2.out hn2 (by omega) (by omega)).mono ?_; rintro e w2 ⟨rfl, i2, t2⟩
  have T2 := Lib.hid (T1.out.trans (t2.wide l1 l3))
  have J1 := Lib.hid (SI.kept I1.out t2 (Or.inl (Nat.le_refl _)))
  have J2 := Lib.hid i2
  have J3 := Lib.hid (SI.kept I3.out t2 (Or.inr (Nat.le_refl _)))
  have X2 := Lib.hid (X1.out.kept t2 (Or.inr (by omega)))
  clear i2 t2 X1 I1 I2 I3
  obtain ⟨c0, c1, c2, c3⟩ := X2.out
  go_wp2_with fail
  clear c0 c1 c2 c3
  go_at_call 26; refine (markF32_any b hi _ R.G (k + (R.N.length : Nat) + (R.B.length : Nat)) _ J3.out hn3 (by omega) (by omega)).mono ?_; rintro e w3 ⟨rfl, i3, t3⟩
  have T3 := Lib.hid (T2.out.trans (t3.wide (by omega) (Nat.le_refl _)))
  have K1 := Lib.hid (SI.kept J1.out t3 (Or.inl l2))
  have K2 := Lib.hid (SI.kept J2.out t3 (Or.inl (Nat.le_refl _)))
  have K3 := Lib.hid i3
  clear i3 t3
  go_wp2_with fail
  go_ret
  exact ⟨ret_int2 HS.out, ⟨s1, s2, s3, a, b, l1, l2, l3, rfl, K1.out, K2.out, K3.out⟩, T3.out⟩
set_option maxHeartbeats 1000000 in
theorem heldRows_any (v : Value) (R : Rw) (k : Int) (w : World) (hv : RV w v (marksR k R)) (hn : R.size ≤ 1048576) (hk0 : 0 ≤ k) (hk1 : k ≤ 2097152) :
    Calls Tryd.prog 41 #[v, .int .i64 k] w fun e w' => e = .returned (.int .i64 (k + (R.size : Nat))) ∧ Below w.heap.size w w' := by
  obtain ⟨s1, s2, s3, rfl, g1, g2, g3⟩ := hv
  have G1 := Lib.hid (fun o => g1.below (below_alloc w o) (Nat.le_refl _))
  have G2 := Lib.hid (fun o => g2.below (below_alloc w o) (Nat.le_refl _))
  have G3 := Lib.hid (fun o => g3.below (below_alloc w o) (Nat.le_refl _))
  have hn1 : R.N.length ≤ 1048576 := by unfold Rw.size at hn; omega
  have hn2 : R.B.length ≤ 1048576 := by unfold Rw.size at hn; omega
  have hn3 : R.G.length ≤ 1048576 := by unfold Rw.size at hn; omega
  have hs : R.N.length + R.B.length + R.G.length ≤ 1048576 := by unfold Rw.size at hn; exact hn
  have HS : Hid (k + (R.N.length : Nat) + (R.B.length : Nat) + (R.G.length : Nat) = k + (R.size : Nat)) := Lib.hid (by unfold Rw.size; omega)
  have X0 := Lib.hid (Box4.mk' w (.int .i64 R.vars) s1 s2 s3 38)
  have HB := Lib.hid (fun o => below_alloc w o)
  clear g1 g2 g3 hn
  unfold marksR
  go_enter Tryd.func41, Tryd.ntmps41
  go_wp2_with fail
  go_at_call 27; refine (heldF32_any _ k R.N.length _ (G1.out _) hn1 hk0 (by omega)).mono ?_; rintro e w1 ⟨rfl, rfl⟩
  have p1 : ¬ (k + (R.N.length : Nat) < 0) := by omega
  go_wp2_with fail
  go_at_call 27; refine (heldF32_any _ (k + (R.N.length : Nat)) R.B.length _ (G2.out _) hn2 (by omega) (by omega)).mono ?_; rintro e w1 ⟨rfl, rfl⟩
  have p2 : ¬ (k + (R.N.length : Nat) + (R.B.length : Nat) < 0) := by omega
  go_wp2_with fail
  go_at_call 27; refine (heldF32_any _ (k + (R.N.length : Nat) + (R.B.length : Nat)) R.G.length _ (G3.out _) hn3 (by omega) (by omega)).mono ?_; rintro e w1 ⟨rfl, rfl⟩
  have p3 : ¬ (k + (R.N.length : Nat) + (R.B.length : Nat) + (R.G.length : Nat) < 0) := by omega
  go_wp2_with fail
  go_ret
  exact ⟨ret_int2 HS.out, HB.out _⟩
end Go.Proofs.YtcnllohpkgmkpaaDoor
/- Rows if they are valid: both sides (on Il). -/
namespace Go.Proofs.YtcnllohpkgmkpaaDoor
open Go.RowKit Go.ChangeShapes Go.WideShapes

def zeroR : Value := .agg #[.int .i64 0, .slice none 0 0, .slice none 0 0, .slice none 0 0]
/-- A box for a result that is rows: its cells may be written. -/
structure Res4 (w : World) (g : Nat) : Prop where
  c0 : ∃ u, w.cell? ⟨g, 0, none⟩ = some u
  c1 : ∃ u, w.cell? ⟨g, 1, none⟩ = some u
  c2 : ∃ u, w.cell? ⟨g, 2, none⟩ = some u
  c3 : ∃ u, w.cell? ⟨g, 3, none⟩ = some u
  free : ∀ i, w.frozen? ⟨g, i, none⟩ = false
theorem Res4.keep {B : Nat} {w w' : World} {g : Nat} (h : Res4 w g) (hb : Below B w w') (hg : g < B) : Res4 w' g :=
  ⟨by obtain ⟨u, hu⟩ := h.c0; exact ⟨u, keep_cell hu hb hg⟩, by obtain ⟨u, hu⟩ := h.c1; exact ⟨u, keep_cell hu hb hg⟩, by obtain ⟨u, hu⟩ := h.c2; exact ⟨u, keep_cell hu hb hg⟩, by obtain ⟨u, hu⟩ := h.c3; exact ⟨u, keep_cell hu hb hg⟩, fun i => by rw [hb.frozen (p := ⟨g, i, none⟩) hg]; exact h.free i⟩
def GivesR (v : Value) (b : Bool) (w : World) (e : Ending) (w' : World) : Prop := e = .returned (.tuple #[bif b then v else zeroR, .bool b]) ∧ Below w.heap.size w w'
theorem implValid_is (b : Bool) (v : Value) (R : Rw) (w : World) (hv : RV w v R) (hn : R.size ≤ 1048576) (hb : okR R = b) :
    Calls Tryd.prog 56 #[v] w (Says b w) := by
  subst hb
  exact implValid_any v R w hv hn
theorem l02Is_is (b : Bool) (g : Nat) (s1 s2 s3 : Value) (R : Rw) (w : World) (h : RP w g s1 s2 s3 R) (hn : R.size ≤ 1048576) (hb : okR R = b) :
    Calls Tryd.prog 54 #[.pointer (some ⟨g, 0, none⟩)] w (Tells b w) := by
  subst hb
  exact l02Is_any g s1 s2 s3 R w h hn
theorem zeroR_rd {lo : Nat} {w : World} (h : lo ≤ w.heap.size) : RD lo w.heap.size w zeroR ⟨0, [], [], []⟩ :=
  ⟨_, _, _, lo, lo, Nat.le_refl _, Nat.le_refl _, h, rfl, SI.nil _ h _ _, SI.nil _ h _ _, SI.nil _ (Nat.le_refl _) _ _⟩
set_option maxHeartbeats 2000000 in
theorem implGive_is (b : Bool) (v : Value) (R : Rw) (w : World) (hv : RV w v R) (hn : R.size ≤ 1048576) (hb : okR R = b) :
    Calls Tryd.prog 70 #[v] w (GivesR v b w) := by
  have HB := Lib.hid (fun A B => (below_alloc w A).alloc (by simp) B)
  have HV := Lib.hid hv
  have H1 := Lib.hid hb
  obtain ⟨s1, s2, s3, rfl, g1, g2, g3⟩ := hv
  obtain ⟨ao1, cap1, rfl⟩ := g1.long
  obtain ⟨ao2, cap2, rfl⟩ := g2.long
  obtain ⟨ao3, cap3, rfl⟩ := g3.long
  have HR : Hid (∀ A a b c d, Res4 ((w.alloc A).alloc (.cells #[a, b, c, d] 38)) (w.heap.size + 1)) := Lib.hid fun A a b c d => ⟨⟨a, by go_simp⟩, ⟨b, by go_simp⟩, ⟨c, by go_simp⟩, ⟨d, by go_simp⟩, fun i => by go_simp⟩
  have HX : Hid (∀ B, Box4 ((w.alloc (.cells #[.int .i64 R.vars, .slice ao1 R.N.length cap1, .slice ao2 R.B.length cap2, .slice ao3 R.G.length cap3] 38)).alloc B) w.heap.size (.int .i64 R.vars) (.slice ao1 R.N.length cap1) (.slice ao2 R.B.length cap2) (.slice ao3 R.G.length cap3)) := Lib.hid fun B => ⟨by go_simp, by go_simp, by go_simp, by go_simp⟩
  clear hb g1 g2 g3
  go_enter Tryd.func70, Tryd.ntmps70
  go_wp2_with fail
  go_at_call 56; refine (implValid_is b _ R _ (HV.out.below (HB.out _ _) (Nat.le_refl _)) hn H1.out).mono ?_; rintro e w1 ⟨rfl, bb⟩
  have hz1 : w.heap.size + 1 < w1.heap.size := by have := bb.size; simp at this; omega
  obtain ⟨⟨u0, g0⟩, ⟨u1, g1⟩, ⟨u2, g2⟩, ⟨u3, g3⟩, hf⟩ := (HR.out _ _ _ _ _).keep bb (by simp)
  obtain ⟨x0, x1, x2, x3⟩ := (HX.out _).keep bb (by simp; omega)
  have f0 := hf 0
  have f1 := hf 1
  have f2 := hf 2
  have f3 := hf 3
  have B1 := Lib.hid ((HB.out _ _).trans (bb.mono (by simp; omega)))
  have HZ1 := Lib.hid hz1
  clear bb hf
  cases b with
  | false =>
    go_wp2_with fail
    refine bodyPost_ret (v := .tuple #[zeroR, .bool false]) (by simp [results, Tryd.results70, g0, g1, g2, g3, go_sem, zeroR]) rfl ?_
    generalize hX : World.setCell _ _ _ = X
    have hT : Turned (w.heap.size + 1) (w.heap.size + 2) w1 X := by
      rw [← hX]
      repeat (refine Turned.setCell ?_ (by simp) (by simp) _)
      exact Turned.refl _ _ _
    clear hX
    exact ⟨rfl, B1.out.trans ((hT.below (Nat.le_of_lt HZ1.out)).mono (by omega))⟩
  | true =>
    go_wp2_with fail
    refine bodyPost_ret (v := .tuple #[.agg #[.int .i64 R.vars, .slice ao1 R.N.length cap1, .slice ao2 R.B.length cap2, .slice ao3 R.G.length cap3], .bool true]) (by simp [results, Tryd.results70, g0, g1, g2, g3, go_sem]) rfl ?_
    generalize hX : World.setCell _ _ _ = X
    have hT : Turned (w.heap.size + 1) (w.heap.size + 2) w1 X := by
      rw [← hX]
      repeat (refine Turned.setCell ?_ (by simp) (by simp) _)
      exact Turned.refl _ _ _
    clear hX
    exact ⟨rfl, B1.out.trans ((hT.below (Nat.le_of_lt HZ1.out)).mono (by omega))⟩
theorem l02Is_is' (b : Bool) (g : Nat) (s1 s2 s3 : Value) (R : Rw) (w : World) (h : RP w g s1 s2 s3 R) (hn : R.size ≤ 1048576) (hb : okR R = b) :
    Calls Tryd.prog 54 #[.pointer (some ⟨g, 0, none⟩)] w (Says b w) := (l02Is_is b g s1 s2 s3 R w h hn hb).mono fun _ _ ⟨h1, n, h2⟩ => ⟨h1, by rw [h2]; exact below_drewN (Below.refl _ _) n⟩
set_option maxHeartbeats 2000000 in
theorem specGive_is (b : Bool) (v : Value) (R : Rw) (w : World) (hv : RV w v R) (hn : R.size ≤ 1048576) (hb : okR R = b) :
    Calls Tryd.prog 105 #[v] w (GivesR v b w) := by
  have HB := Lib.hid (fun A B => (below_alloc w A).alloc (by simp) B)
  have HV := Lib.hid hv
  have H1 := Lib.hid hb
  obtain ⟨s1, s2, s3, rfl, g1, g2, g3⟩ := hv
  obtain ⟨ao1, cap1, rfl⟩ := g1.long
  obtain ⟨ao2, cap2, rfl⟩ := g2.long
  obtain ⟨ao3, cap3, rfl⟩ := g3.long
  have HR : Hid (∀ A a b c d, Res4 ((w.alloc A).alloc (.cells #[a, b, c, d] 38)) (w.heap.size + 1)) := Lib.hid fun A a b c d => ⟨⟨a, by go_simp⟩, ⟨b, by go_simp⟩, ⟨c, by go_simp⟩, ⟨d, by go_simp⟩, fun i => by go_simp⟩
  have HX : Hid (∀ B, Box4 ((w.alloc (.cells #[.int .i64 R.vars, .slice ao1 R.N.length cap1, .slice ao2 R.B.length cap2, .slice ao3 R.G.length cap3] 38)).alloc B) w.heap.size (.int .i64 R.vars) (.slice ao1 R.N.length cap1) (.slice ao2 R.B.length cap2) (.slice ao3 R.G.length cap3)) := Lib.hid fun B => ⟨by go_simp, by go_simp, by go_simp, by go_simp⟩
  have HP : Hid (∀ B, RP ((w.alloc (.cells #[.int .i64 R.vars, .slice ao1 R.N.length cap1, .slice ao2 R.B.length cap2, .slice ao3 R.G.length cap3] 38)).alloc B) w.heap.size (.slice ao1 R.N.length cap1) (.slice ao2 R.B.length cap2) (.slice ao3 R.G.length cap3) R) := Lib.hid fun B => ⟨by go_simp, by go_simp, by go_simp, by go_simp, g1.below (HB.out _ B) (Nat.le_refl _), g2.below (HB.out _ B) (Nat.le_refl _), g3.below (HB.out _ B) (Nat.le_refl _)⟩
  clear hb g1 g2 g3
  go_enter Tryd.func105, Tryd.ntmps105
  go_wp2_with fail
  go_at_call 54; refine (l02Is_is' b _ _ _ _ R _ (HP.out _) hn H1.out).mono ?_; rintro e w1 ⟨rfl, bb⟩
  have hz1 : w.heap.size + 1 < w1.heap.size := by have := bb.size; simp at this; omega
  obtain ⟨⟨u0, g0⟩, ⟨u1, g1⟩, ⟨u2, g2⟩, ⟨u3, g3⟩, hf⟩ := (HR.out _ _ _ _ _).keep bb (by simp)
  obtain ⟨x0, x1, x2, x3⟩ := (HX.out _).keep bb (by simp; omega)
  have f0 := hf 0
  have f1 := hf 1
  have f2 := hf 2
  have f3 := hf 3
  have B1 := Lib.hid ((HB.out _ _).trans (bb.mono (by simp; omega)))
  have HZ1 := Lib.hid hz1
  clear bb hf
  cases b with
  | false =>
    go_wp2_with fail
    refine bodyPost_ret (v := .tuple #[zeroR, .bool false]) (by simp [results, Tryd.results105, g0, g1, g2, g3, go_sem, zeroR]) rfl ?_
    generalize hX : World.setCell _ _ _ = X
    have hT : Turned (w.heap.size + 1) (w.heap.size + 2) w1 X := by
      rw [← hX]
      repeat (refine Turned.setCell ?_ (by simp) (by simp) _)
      exact Turned.refl _ _ _
    clear hX
    exact ⟨rfl, B1.out.trans ((hT.below (Nat.le_of_lt HZ1.out)).mono (by omega))⟩
  | true =>
    go_wp2_with fail
    refine bodyPost_ret (v := .tuple #[.agg #[.int .i64 R.vars, .slice ao1 R.N.length cap1, .slice ao2 R.B.length cap2, .slice ao3 R.G.length cap3], .bool true]) (by simp [results, Tryd.results105, g0, g1, g2, g3, go_sem]) rfl ?_
    generalize hX : World.setCell _ _ _ = X
    have hT : Turned (w.heap.size + 1) (w.heap.size + 2) w1 X := by
      rw [← hX]
      repeat (refine Turned.setCell ?_ (by simp) (by simp) _)
      exact Turned.refl _ _ _
    clear hX
    exact ⟨rfl, B1.out.trans ((hT.below (Nat.le_of_lt HZ1.out)).mono (by omega))⟩
end Go.Proofs.YtcnllohpkgmkpaaDoor
/- Rows that are read: what they are. -/
namespace Go.Proofs.YtcnllohpkgmkpaaDoor
open Go.RowKit Go.ChangeShapes Go.WideShapes

/-- A part of a text between marks 59. -/
def rrP (s : ByteArray) (k : Nat) : ByteArray := (ptY 59 s).getD k (bsOf [])
def rrR (s : ByteArray) : Rw := ⟨rdN (rrP s 0).data.toList, rnL (rrP s 1), rnL (rrP s 2), rnL (rrP s 3)⟩
def rrB (s : ByteArray) : Bool := decide ((ptY 59 s).length = 4) && (rdB (rrP s 0).data.toList && (rnB (rrP s 1) && (rnB (rrP s 2) && (rnB (rrP s 3) && okR (rrR s)))))
def rrA (s : ByteArray) : Rw := if rrB s then rrR s else ⟨0, [], [], []⟩
theorem rr_size (s : ByteArray) : (rrR s).size ≤ 768 := by
  have h1 := rnL_len (rrP s 1)
  have h2 := rnL_len (rrP s 2)
  have h3 := rnL_len (rrP s 3)
  show (rnL (rrP s 1)).length + (rnL (rrP s 2)).length + (rnL (rrP s 3)).length ≤ 768
  omega
theorem rrA_size (s : ByteArray) : (rrA s).size ≤ 768 := by
  unfold rrA
  split
  · exact rr_size s
  · show 0 + 0 + 0 ≤ 768; omega
theorem rr_bad {s : ByteArray} (h : rrB s = false) : rrA s = ⟨0, [], [], []⟩ := by unfold rrA; rw [h]; rfl
theorem rr_good {s : ByteArray} (h : rrB s = true) : rrA s = rrR s := by unfold rrA; rw [h]; rfl
theorem rr_n {s : ByteArray} (h : (ptY 59 s).length ≠ 4) : rrB s = false := by unfold rrB; rw [decide_eq_false h]; rfl
theorem rr_of {s : ByteArray} {b0 b1 b2 b3 t : Bool} (h : (ptY 59 s).length = 4) (h0 : rdB (rrP s 0).data.toList = b0) (h1 : rnB (rrP s 1) = b1) (h2 : rnB (rrP s 2) = b2) (h3 : rnB (rrP s 3) = b3) (ht : okR (rrR s) = t) :
    rrB s = (b0 && (b1 && (b2 && (b3 && t)))) := by unfold rrB; rw [decide_eq_true h, h0, h1, h2, h3, ht, Bool.true_and]
/-- Answers of rows of the call's own and a bool. -/
def SaysRw (Q : Rw) (b : Bool) (w : World) (e : Ending) (w' : World) : Prop := ∃ v, e = .returned (.tuple #[v, .bool b]) ∧ RD w.heap.size w'.heap.size w' v Q ∧ Below w.heap.size w w'
theorem rd_three {lo : Nat} {w3 w4 w5 w6 Y : World} {n : Int} {v1 v2 v3 : Value} {L1 L2 L3 : List Nat} {q : Nat} (i1 : SI (Value.float .f32) (0 : Nat) w3.heap.size w4.heap.size w4 v1 L1) (i2 : SI (Value.float .f32) (0 : Nat) w4.heap.size w5.heap.size w5 v2 L2) (i3 : SI (Value.float .f32) (0 : Nat) w5.heap.size w6.heap.size w6 v3 L3)
    (b4 : Below w4.heap.size w4 w5) (b5 : Below w5.heap.size w5 w6) (hq : q + 1 ≤ w3.heap.size) (hlo : lo ≤ q) (h34 : w3.heap.size ≤ w4.heap.size) (W : World) (b6 : Below w6.heap.size w6 W) (t : Turned q (q + 1) W Y) :
    RD lo Y.heap.size Y (.agg #[.int .i64 n, v1, v2, v3]) ⟨n, L1, L2, L3⟩ := by
  have s4 := b4.size
  have s5 := b5.size
  have s6 := b6.size
  have st := t.size
  refine ⟨v1, v2, v3, w4.heap.size, w5.heap.size, by omega, s4, by omega, rfl, ?_, ?_, ?_⟩
  · exact SI.wide (SI.kept (SI.below i1 (b4.trans (((b5.trans (b6.mono s5))).mono s4)) (Nat.le_refl _)) t (Or.inr hq)) (by omega) (Nat.le_refl _) (by omega)
  · exact SI.wide (SI.kept (SI.below i2 (b5.trans (b6.mono s5)) (Nat.le_refl _)) t (Or.inr (by omega))) (Nat.le_refl _) (Nat.le_refl _) (by omega)
  · exact SI.wide (SI.kept (SI.below i3 b6 (Nat.le_refl _)) t (Or.inr (by omega))) (Nat.le_refl _) (by omega) (by omega)
/-- Four parts that are told. -/
def Cut4 (p0 p1 p2 p3 : ByteArray) (w : World) (e : Ending) (w' : World) : Prop := ∃ g cap, e = .returned (.slice (some ⟨g, 0, none⟩) 4 cap) ∧ w'.cell? ⟨g, 0, none⟩ = some (.string p0) ∧ w'.cell? ⟨g, 1, none⟩ = some (.string p1) ∧ w'.cell? ⟨g, 2, none⟩ = some (.string p2) ∧ w'.cell? ⟨g, 3, none⟩ = some (.string p3) ∧ Below w.heap.size w w'
/-- So many parts are told. -/
def CutN (n : Nat) (w : World) (e : Ending) (w' : World) : Prop := ∃ g cap, e = .returned (.slice (some ⟨g, 0, none⟩) n cap) ∧ Below w.heap.size w w'
theorem GivesR.no {P : Program} {f : FuncId} {xs : Array Value} {W : World} {v : Value} (h : Calls P f xs W (GivesR v false W)) : Calls P f xs W (fun e w' => e = .returned (.tuple #[.agg #[.int .i64 0, .slice none 0 0, .slice none 0 0, .slice none 0 0], .bool false]) ∧ Below W.heap.size W w') := h
theorem GivesR.yes {P : Program} {f : FuncId} {xs : Array Value} {W : World} {v : Value} (h : Calls P f xs W (GivesR v true W)) : Calls P f xs W (fun e w' => e = .returned (.tuple #[v, .bool true]) ∧ Below W.heap.size W w') := h
end Go.Proofs.YtcnllohpkgmkpaaDoor
/- The parts of a text between marks 59: the library's are the model's (plain). -/
namespace Go.Proofs.YtcnllohpkgmkpaaDoor
open Go

theorem index_mk (s : ByteArray) : Lib.indexB s ⟨#[59]⟩ = Lib.indexByte s.data.toList 59 := Lib.index_one s.data.toList 59
theorem splitBk_spm : ∀ (k : Nat) (s : ByteArray), s.size ≤ k → (Lib.splitB ⟨#[59]⟩ 0 (Lib.countB s ⟨#[59]⟩) s).map (·.data.toList) = spm 59 s.data.toList := by
  intro k
  induction k with
  | zero =>
    intro s hs
    have hl : s.data.toList = [] := List.eq_nil_of_length_eq_zero (by rw [Array.length_toList]; exact Nat.le_zero.1 hs)
    have hi : Lib.indexB s ⟨#[59]⟩ = -1 := by rw [index_mk, hl]; rfl
    rw [Lib.splitB_miss _ _ _ _ hi, hl]
    simp [spm, hl]
  | succ k ih =>
    intro s hs
    rcases Int.lt_or_le (Lib.indexByte s.data.toList 59) 0 with h | h
    · have h1 : Lib.indexByte s.data.toList 59 = -1 := by
        have := Lib.indexByte_ge s.data.toList 59
        omega
      rw [Lib.splitB_miss _ _ _ _ (by rw [index_mk]; exact h1)]
      have hn := Lib.indexByte_none h1
      rw [spm_miss fun x hx e => by
        obtain ⟨j, hj, rfl⟩ := List.getElem_of_mem hx
        exact hn j (by rw [List.getElem?_eq_getElem hj, e])]
      rfl
    · obtain ⟨i, hi⟩ : ∃ i : Nat, Lib.indexByte s.data.toList 59 = (i : Int) := ⟨(Lib.indexByte s.data.toList 59).toNat, by omega⟩
      have hB : Lib.indexB s ⟨#[59]⟩ = (i : Int) := by rw [index_mk]; exact hi
      obtain ⟨h1, h2⟩ := Lib.indexByte_some hi
      have hz : (⟨#[59]⟩ : ByteArray).size = 1 := rfl
      have hlt : i < s.size := by
        have := (List.getElem?_eq_some_iff.1 h1).1
        rwa [Array.length_toList] at this
      rw [Lib.countB_hit s ⟨#[59]⟩ i (by rw [hz]; exact Nat.le_refl _) hB, Nat.add_comm, Lib.splitB_hit _ _ _ _ i hB, List.map_cons, hz]
      have hr : (s.extract (i + 1) s.size).size ≤ k := by
        rw [ByteArray.size_extract]; omega
      rw [ih _ hr, extractm_list, extractm_list]
      have e1 : (s.data.toList.take s.size).drop (i + 1) = s.data.toList.drop (i + 1) := by
        rw [List.take_of_length_le (by rw [Array.length_toList]; exact Nat.le_refl _)]
      rw [e1]
      conv => rhs; rw [listm_at h1]
      rw [spm_hit _ (takem_no h2)]
      simp
theorem map_data_injk : ∀ {A B : List ByteArray}, A.map (·.data.toList) = B.map (·.data.toList) → A = B
  | [], [], _ => rfl
  | [], _ :: _, h => by cases h
  | _ :: _, [], h => by cases h
  | a :: A, b :: B, h => by
    rw [List.map_cons, List.map_cons] at h
    injection h with h1 h2
    rw [map_data_injk h2, show a = b from ByteArray.ext (Array.toList_inj.1 h1)]
/-- The library's parts are the model's. -/
theorem split_cutk (s : ByteArray) : Lib.splitB ⟨#[59]⟩ 0 (Lib.countB s ⟨#[59]⟩) s = (cutB s 59 (s.size + 1)).1 := map_data_injk (by rw [splitBk_spm s.size s (Nat.le_refl _), cutBm_spm 59])
end Go.Proofs.YtcnllohpkgmkpaaDoor
/- strings.Split laid at this program: its code is the shelf's own, number by number. -/
namespace Go.Proofs.YtcnllohpkgmkpaaDoor
open Go.Shelf
def Tryd.lays146_ren : Go.Shelf.Ren := ⟨fun | 146 => 69 | 221 => 106 | 268 => 129 | 138 => 92 | 143 => 123 | 195 => 121 | 197 => 145 | 218 => 122 | 219 => 108 | 260 => 161 | 217 => 107 | 225 => 131 | 224 => 132 | 267 => 133 | 266 => 130 | 314 => 151 | n => n, fun | 9 => 9 | 31 => 22 | 3 => 3 | 4 => 4 | 0 => 0 | 105 => 160 | 21 => 21 | 5 => 5 | 46 => 126 | 119 => 185 | 139 => 188 | 138 => 187 | 146 => 155 | 51 => 134 | n => n, fun | 1 => 0 | 3 => 5 | 4 => 6 | n => n⟩
theorem Tryd.lays146 : Go.Proofs.LaysM.n146 Tryd.prog Tryd.lays146_ren := {
  mixed := by kernel_rfl
  f138 := Tryd.func92.trans (congrArg some (by kernel_rfl))
  f143 := Tryd.func123.trans (congrArg some (by kernel_rfl))
  f146 := Tryd.func69.trans (congrArg some (by kernel_rfl))
  f195 := Tryd.func121.trans (congrArg some (by kernel_rfl))
  f197 := Tryd.func145.trans (congrArg some (by kernel_rfl))
  f217 := Tryd.func107.trans (congrArg some (by kernel_rfl))
  f218 := Tryd.func122.trans (congrArg some (by kernel_rfl))
  f219 := Tryd.func108.trans (congrArg some (by kernel_rfl))
  f221 := Tryd.func106.trans (congrArg some (by kernel_rfl))
  f224 := Tryd.func132.trans (congrArg some (by kernel_rfl))
  f225 := Tryd.func131.trans (congrArg some (by kernel_rfl))
  f260 := Tryd.func161.trans (congrArg some (by kernel_rfl))
  f266 := Tryd.func130.trans (congrArg some (by kernel_rfl))
  f267 := Tryd.func133.trans (congrArg some (by kernel_rfl))
  f268 := Tryd.func129.trans (congrArg some (by kernel_rfl))
  f314 := Tryd.func151.trans (congrArg some (by kernel_rfl))
  t0 := Tryd.underlying0
  a0 := Tryd.isAgg0
  z0 := Tryd.sizeOf0
  v0 := Tryd.zeroValue0
  t3 := Tryd.underlying3
  a3 := Tryd.isAgg3
  z3 := Tryd.sizeOf3
  v3 := Tryd.zeroValue3
  t4 := Tryd.underlying4
  a4 := Tryd.isAgg4
  z4 := Tryd.sizeOf4
  v4 := Tryd.zeroValue4
  t5 := Tryd.underlying5
  a5 := Tryd.isAgg5
  z5 := Tryd.sizeOf5
  v5 := Tryd.zeroValue5
  t9 := Tryd.underlying9
  a9 := Tryd.isAgg9
  z9 := Tryd.sizeOf9
  v9 := Tryd.zeroValue9
  t21 := Tryd.underlying21
  a21 := Tryd.isAgg21
  z21 := Tryd.sizeOf21
  v21 := Tryd.zeroValue21
  t31 := Tryd.underlying22
  a31 := Tryd.isAgg22
  z31 := Tryd.sizeOf22
  v31 := Tryd.zeroValue22
  t46 := Tryd.underlying126
  a46 := Tryd.isAgg126
  z46 := Tryd.sizeOf126
  v46 := Tryd.zeroValue126
  t51 := Tryd.underlying134
  a51 := Tryd.isAgg134
  z51 := Tryd.sizeOf134
  v51 := Tryd.zeroValue134
  t105 := Tryd.underlying160
  a105 := Tryd.isAgg160
  z105 := Tryd.sizeOf160
  v105 := Tryd.zeroValue160
  t119 := Tryd.underlying185
  a119 := Tryd.isAgg185
  z119 := Tryd.sizeOf185
  t138 := Tryd.underlying187
  a138 := Tryd.isAgg187
  z138 := Tryd.sizeOf187
  v138 := Tryd.zeroValue187
  t139 := Tryd.underlying188
  a139 := Tryd.isAgg188
  z139 := Tryd.sizeOf188
  v139 := Tryd.zeroValue188
  t146 := Tryd.underlying155
  a146 := Tryd.isAgg155
  z146 := Tryd.sizeOf155
  v146 := Tryd.zeroValue155
  g1 := by kernel_rfl
  g3 := by kernel_rfl
  g4 := by kernel_rfl
  i0 := by kernel_rfl
  i3 := by kernel_rfl
  i4 := by kernel_rfl
  i5 := by kernel_rfl
  i9 := by kernel_rfl
  i21 := by kernel_rfl
  i31 := by kernel_rfl
  i46 := by kernel_rfl
  i51 := by kernel_rfl
  i105 := by kernel_rfl
  i138 := by kernel_rfl
  i139 := by kernel_rfl
  i146 := by kernel_rfl
  m1 := by kernel_rfl
  s1_3 := fun w h => Go.Proofs.cell_of_shapedOpen_int (zero := #[.int .i64 0]) (t := 3) h (of_decide_eq_true (by kernel_rfl)) (by kernel_rfl) rfl (by kernel_rfl) (by kernel_rfl) Tryd.underlying3
  m3 := by kernel_rfl
  m4 := by kernel_rfl }
end Go.Proofs.YtcnllohpkgmkpaaDoor
/- A loop over texts that an iterator of the library's tells one after another. -/
namespace Go.Proofs.YtcnllohpkgmkpaaDoor
open Go.RowKit Go.ChangeShapes Go.WideShapes

/-- The blocks that are none of S's are as they were. -/
structure But (S : Nat → Prop) (w w' : World) : Prop where
  os : w'.os = w.os
  tape : w'.tape = w.tape
  output : w'.output = w.output
  size : w.heap.size ≤ w'.heap.size
  block : ∀ k, k < w.heap.size → ¬ S k → w'.heap[k]? = w.heap[k]?
theorem But.refl (S : Nat → Prop) (w : World) : But S w w := ⟨rfl, rfl, rfl, Nat.le_refl _, fun _ _ _ => rfl⟩
theorem But.trans {S : Nat → Prop} {a b c : World} (h : But S a b) (k : But S b c) : But S a c :=
  ⟨k.os.trans h.os, k.tape.trans h.tape, k.output.trans h.output, Nat.le_trans h.size k.size, fun i hi hs => (k.block i (Nat.lt_of_lt_of_le hi h.size) hs).trans (h.block i hi hs)⟩
theorem But.wide {S S' : Nat → Prop} {a b : World} (h : But S a b) (k : ∀ i, S i → S' i) : But S' a b := ⟨h.os, h.tape, h.output, h.size, fun i hi hs => h.block i hi fun q => hs (k i q)⟩
theorem But.putObj {S : Nat → Prop} {w : World} {l : Nat} (o : Obj) (h : S l) : But S w (w.putObj l o) := ⟨rfl, rfl, rfl, by simp, fun k _ hs => World.putObj_heap_other (fun e => hs (e ▸ h))⟩
theorem But.of_below {S : Nat → Prop} {W X : World} (h : Below W.heap.size W X) : But S W X := ⟨h.os, h.tape, h.output, h.size, fun k hk _ => h.block k hk⟩
theorem But.low {S : Nat → Prop} {B : Nat} {W W' : World} (h : But S W W') (hB : B ≤ W.heap.size) (hs : ∀ k, S k → B ≤ k) : Below B W W' := ⟨h.os, h.tape, h.output, h.size, fun k hk => h.block k (by omega) (fun q => by have := hs k q; omega)⟩
theorem But.setCell {S : Nat → Prop} {W X : World} (h : But S W X) {p : Addr} (hs : S p.block) (u : Value) : But S W (X.setCell p u) :=
  h.trans ⟨rfl, rfl, rfl, by simp [World.setCell], fun k _ hn => Below.heap_setCell _ _ _ _ (fun e => hn (e ▸ hs))⟩
theorem But.cell {S : Nat → Prop} {W W' : World} (h : But S W W') {g o : Nat} {a : Value} (hc : W.cell? ⟨g, o, none⟩ = some a) (hs : ¬ S g) : W'.cell? ⟨g, o, none⟩ = some a := by
  rw [World.cell?_of_block (w := W) (a := ⟨g, o, none⟩) (h.block g (cell_block hc) hs)]; exact hc
theorem But.free {S : Nat → Prop} {W W' : World} (h : But S W W') {g o : Nat} {a : Value} (hc : W.cell? ⟨g, o, none⟩ = some a) (hf : W.frozen? ⟨g, o, none⟩ = false) (hs : ¬ S g) : W'.frozen? ⟨g, o, none⟩ = false := by
  rw [World.frozen?_of_block (w := W) (a := ⟨g, o, none⟩) (h.block g (cell_block hc) hs)]; exact hf
/-- What one tells with each text: c is the iterator's own box. -/
structure TellS (w0 : World) (n l c : Nat) (S : Nat → Prop) (Y : List (List UInt8)) (J Jx : List (List UInt8) → World → Prop) : Prop where
  low : w0.heap.size ≤ n
  c1 : w0.heap.size ≤ c
  c2 : c < n
  nc : ¬ S c
  nb : ∀ k, c ≤ k → k + 2 < n → ¬ S k
  keep : ∀ pre W W', J pre W → Below W.heap.size W W' → J pre W'
  put : ∀ pre W v, J pre W → J pre (W.setCell ⟨c, 0, none⟩ v)
  below : ∀ pre W, J pre W → Below w0.heap.size w0 W
  yield : ∀ m pre C W, pre ++ [C] <+: Y → J pre W → YieldAt Fence.wide m Tryd.prog l #[.string (bsOf C)] W fun e W' =>
    But S W W' ∧ ((e = .returned (.bool true) ∧ J (pre ++ [C]) W') ∨ (e = .returned (.bool false) ∧ Jx (pre ++ [C]) W'))
/-- What a walk over the texts leaves. -/
def ToldS (J Jx : List (List UInt8) → World → Prop) (Y : List (List UInt8)) (e : Ending) (W' : World) : Prop :=
  ∃ v, e = .returned v ∧ (J Y W' ∨ ∃ q, q <+: Y ∧ q ≠ [] ∧ Jx q W')
/-- What a round of the loop leaves. -/
def roundS (S : Nat → Prop) (I : List (List UInt8) → World → Prop) (Ix : Code → List (List UInt8) → World → Prop) (pre : List (List UInt8)) (W : World) : Exit → Act → World → Prop
  | .normal, _, W' => But S W W' ∧ I pre W'
  | .ret, _, W' => But S W W' ∧ Ix .ret pre W'
  | .exit id, _, W' => But S W W' ∧ Ix (.exit id) pre W'
  | .goto t, _, W' => But S W W' ∧ Ix (.goto t) pre W'
  | _, _, _ => False
set_option maxHeartbeats 1000000 in
theorem rangeS {g : Operand} {ps : Array Tmp} {assign body : Code} {Q : Exit → Act → World → Prop} {a : Act} {w w0 : World} {c : Nat} (m K : Nat) (lb : Array Value)
    (hg : a.eval g = .func (.func K) #[] lb) (hps : ps.size = 1) (henter : ∀ args w, (callFunc K args).run Tryd.prog w = .ok (.enter K args) w)
    (S : Nat → Prop) (I : List (List UInt8) → World → Prop) (Ix : Code → List (List UInt8) → World → Prop) (Y : List (List UInt8)) (R : World → Prop)
    (hit : ∀ (n l : Nat) (S' : Nat → Prop) (J Jx : List (List UInt8) → World → Prop), n = w.heap.size + 2 → TellS w0 n l c S' Y J Jx → ∀ W, n ≤ W.heap.size → J [] W → R W →
      Calls Tryd.prog K (#[.func (.yield l) #[] #[]] ++ lb) W (ToldS J Jx Y))
    (hR : ∀ W, Below w.heap.size w W → R W)
    (hb0 : Below w0.heap.size w0 w) (hs1 : ¬ S w.heap.size) (hs2 : ¬ S (w.heap.size + 1)) (hc1 : w0.heap.size ≤ c) (hc2 : c < w.heap.size) (hnc : ∀ k, c ≤ k → k < w.heap.size → ¬ S k)
    (hI : ∀ pre W W', I pre W → But (fun k => k = w.heap.size ∨ k = w.heap.size + 1 ∨ k = c) W W' → I pre W') (hIx : ∀ d pre W W', Ix d pre W → But (fun k => k = w.heap.size + 1) W W' → Ix d pre W')
    (hI0 : ∀ pre W, I pre W → Below w0.heap.size w0 W) (h0 : I [] w)
    (hround : ∀ (pre : List (List UInt8)) (C : List UInt8) (W : World), pre ++ [C] <+: Y → I pre W → w.heap.size + 2 ≤ W.heap.size →
      ∃ a₁, (∀ K : Act → World → Prop, K a₁ W → assign.wpIn (Fence.wide.inRound (w.heap.size + 1)) m Tryd.prog (Exit.then K (fun _ _ _ => False)) { tmps := (ps.zip #[Value.string (bsOf C)]).foldl (fun t (p, v) => t.setIfInBounds p v) a.tmps, defers := [] } W) ∧
        ∀ W2, But (fun k => k = w.heap.size + 1) W W2 → I pre W2 → w.heap.size + 2 ≤ W2.heap.size → body.wpIn (Fence.wide.inRound (w.heap.size + 1)) m Tryd.prog (roundS S I Ix (pre ++ [C]) W2) a₁ W2)
    (hdone : ∀ (W : World), I Y W → W.heap[w.heap.size]? = some (.deferred (some [])) → Q .normal { a with defers := { target := .collected w.heap.size, args := #[] } :: a.defers } W)
    (hstop : ∀ (d : Code) (q : List (List UInt8)) (W : World), q <+: Y → q ≠ [] → Ix d q W → W.heap[w.heap.size]? = some (.deferred (some [])) → d.wpIn Fence.wide m Tryd.prog Q { a with defers := { target := .collected w.heap.size, args := #[] } :: a.defers } W) :
    (Code.rangeFunc g ps assign body).wpIn Fence.wide m Tryd.prog Q a w := by
  refine wpIn_rangeFunc ?_
  intro fn hfn
  obtain ⟨rec, hrec⟩ : ∃ rec : LoopState → Option Code → Loop, rec = fun st pe => { state := st, pending := pe, fn, tmps := a.tmps, params := ps, assign, body, defers := w.heap.size } := ⟨_, rfl⟩
  obtain ⟨W1, hW1⟩ : ∃ W1, (w.alloc (.deferred (some []))).alloc (.loop (rec .ready none)) = W1 := ⟨_, rfl⟩
  have hz1 : W1.heap.size = w.heap.size + 2 := by rw [← hW1]; simp
  have hL1 : W1.heap[w.heap.size + 1]? = some (.loop (rec .ready none)) := by
    rw [← hW1]; have := World.alloc_heap_new (w.alloc (.deferred (some []))) (.loop (rec .ready none)); rwa [World.size_alloc] at this
  have hK1 : W1.heap[w.heap.size]? = some (.deferred (some [])) := by
    rw [← hW1]; exact (Below.heap_alloc _ _ _ (by simp)).trans (World.alloc_heap_new w _)
  have hb1 : Below w.heap.size w W1 := by rw [← hW1]; exact ((Below.refl _ w).alloc (Nat.le_refl _) _).alloc (by simp) _
  have hI1 : I [] W1 := hI _ _ _ h0 ⟨hb1.os, hb1.tape, hb1.output, hb1.size, fun k hk _ => hb1.block k (by omega)⟩
  refine ⟨w.heap.size + 1, [{ target := .collected w.heap.size, args := #[] }], W1, { target := .fn (.func K) lb, args := #[.func (.yield (w.heap.size + 1)) #[] #[]] }, W1, K,
    #[.func (.yield (w.heap.size + 1)) #[] #[]] ++ lb, W1, ?_, ?_, ?_, ?_, fun h => absurd h (by decide), ?_⟩
  · rw [← hW1, hrec]; exact run_enterLoop_outer _ _ _ _ _
  · simp only [resolve, hg]
    simp [go_sem]
  · intro f' _; exact trivial
  · simp only [invoke]
    simp [go_sem, henter]
  · refine callsIn_wide.2 ?_
    have fin : ∀ (jump : Option Code) (W3 : World), W3.heap[w.heap.size + 1]? = some (.loop { rec .ready none with state := .busy }) →
        (Instr.endRound (w.heap.size + 1) jump).run Tryd.prog W3 = .ok (.bool jump.isNone) (W3.putObj (w.heap.size + 1) (.loop (rec (if jump.isNone then .ready else .done) jump))) := fun jump W3 hl3 => by
      have := run_endRound (P := Tryd.prog) jump hl3
      rw [hrec] at this ⊢
      exact this
    have T : TellS w0 (w.heap.size + 2) (w.heap.size + 1) c (fun k => S k ∨ k = w.heap.size + 1) Y
        (fun pre W => I pre W ∧ W.heap[w.heap.size + 1]? = some (.loop (rec .ready none)) ∧ W.heap[w.heap.size]? = some (.deferred (some [])) ∧ w.heap.size + 2 ≤ W.heap.size)
        (fun pre W => ∃ d, Ix d pre W ∧ W.heap[w.heap.size + 1]? = some (.loop (rec .done (some d))) ∧ W.heap[w.heap.size]? = some (.deferred (some []))) := by
      refine ⟨Nat.le_trans hb0.size (by omega), hc1, by omega, fun h => ?_, fun k k1 k2 h => ?_, ?_, ?_, fun pre W h => hI0 _ _ h.1, ?_⟩
      · rcases h with h | h
        · exact hnc c (Nat.le_refl _) hc2 h
        · omega
      · rcases h with h | h
        · exact hnc k k1 (by omega) h
        · omega
      · rintro pre W W' ⟨hi, hl, hk, hz⟩ hb
        exact ⟨hI _ _ _ hi ⟨hb.os, hb.tape, hb.output, hb.size, fun k hk _ => hb.block k hk⟩, (hb.block _ (by omega)).trans hl, (hb.block _ (by omega)).trans hk, Nat.le_trans hz hb.size⟩
      · rintro pre W v ⟨hi, hl, hk, hz⟩
        have hb : But (fun k => k = c) W (W.setCell ⟨c, 0, none⟩ v) := (But.refl (fun k => k = c) W).setCell (p := ⟨c, 0, none⟩) rfl _
        exact ⟨hI _ _ _ hi (hb.wide fun _ e => Or.inr (Or.inr e)), (hb.block _ (by omega) (by omega)).trans hl, (hb.block _ (by omega) (by omega)).trans hk, by have := hb.size; omega⟩
      · rintro m' pre C W hpre ⟨hi, hl, hk, hz⟩
        have hy := run_yield (P := Tryd.prog) (args := #[Value.string (bsOf C)]) hl (by rw [hrec]; exact hps.symm)
        rw [hrec] at hy
        obtain ⟨a₁, hassign, hbody⟩ := hround pre C W hpre hi hz
        refine ⟨fn, _, assign, body, hy, ?_⟩
        suffices HH : RoundIn Fence.wide m Tryd.prog (w.heap.size + 1) fn ((ps.zip #[Value.string (bsOf C)]).foldl (fun t (p, v) => t.setIfInBounds p v) a.tmps) assign body W (fun e W' => But (fun k => S k ∨ k = w.heap.size + 1) W W' ∧ ((e = .returned (.bool true) ∧ I (pre ++ [C]) W' ∧ W'.heap[w.heap.size + 1]? = some (.loop (rec .ready none)) ∧ W'.heap[w.heap.size]? = some (.deferred (some [])) ∧ w.heap.size + 2 ≤ W'.heap.size) ∨ (e = .returned (.bool false) ∧ ∃ d, Ix d (pre ++ [C]) W' ∧ W'.heap[w.heap.size + 1]? = some (.loop (rec .done (some d))) ∧ W'.heap[w.heap.size]? = some (.deferred (some []))))) from ⟨HH.1, fun c cs _ => HH.2 c cs (room_wide _)⟩
        refine roundIn_of_wpIn hfn (hassign _ ?_)
        refine ⟨_, run_beginRound hl (by rw [hrec]), ?_⟩
        have hl2 : (W.putObj (w.heap.size + 1) (.loop { rec .ready none with state := .busy })).heap[w.heap.size + 1]? = some (.loop { rec .ready none with state := .busy }) := World.putObj_heap_same (by omega)
        have hk2 : (W.putObj (w.heap.size + 1) (.loop { rec .ready none with state := .busy })).heap[w.heap.size]? = some (.deferred (some [])) := (World.putObj_heap_other (by omega)).trans hk
        have hb2 : But (fun k => k = w.heap.size + 1) W (W.putObj (w.heap.size + 1) (.loop { rec .ready none with state := .busy })) := But.putObj _ rfl
        refine wpIn_mono (hbody _ hb2 (hI _ _ _ hi (hb2.wide fun k e => Or.inr (Or.inl e))) (by simp; omega)) ?_
        have keep : ∀ W3, But S (W.putObj (w.heap.size + 1) (.loop { rec .ready none with state := .busy })) W3 →
            W3.heap[w.heap.size + 1]? = some (.loop { rec .ready none with state := .busy }) ∧ W3.heap[w.heap.size]? = some (.deferred (some [])) ∧ ∀ o, But (fun k => S k ∨ k = w.heap.size + 1) W (W3.putObj (w.heap.size + 1) o) := fun W3 h3 =>
          ⟨(h3.block _ (by simp; omega) hs2).trans hl2, (h3.block _ (by simp; omega) hs1).trans hk2,
            fun o => ((hb2.wide fun i e => Or.inr e).trans (h3.wide fun i e => Or.inl e)).trans (But.putObj o (Or.inr rfl))⟩
        have put : ∀ (W3 : World) (o : Obj), But (fun k => k = w.heap.size ∨ k = w.heap.size + 1 ∨ k = c) W3 (W3.putObj (w.heap.size + 1) o) := fun W3 o => But.putObj o (Or.inr (Or.inl rfl))
        have putl : ∀ (W3 : World) (o : Obj), But (fun k => k = w.heap.size + 1) W3 (W3.putObj (w.heap.size + 1) o) := fun W3 o => But.putObj o rfl
        rintro e a3 W3 hp
        cases e with
        | normal =>
          obtain ⟨h3, hi3⟩ := hp
          obtain ⟨hl3, hk3, hb3⟩ := keep W3 h3
          have hz3 : w.heap.size + 2 ≤ W3.heap.size := by have := h3.size; simp at this; omega
          exact ⟨_, _, fin none W3 hl3, hb3 _, Or.inl ⟨rfl, hI _ _ _ hi3 (put _ _), World.putObj_heap_same (by omega), (World.putObj_heap_other (by omega)).trans hk3, by simp; omega⟩⟩
        | ret =>
          obtain ⟨h3, hi3⟩ := hp
          obtain ⟨hl3, hk3, hb3⟩ := keep W3 h3
          have hz3 : w.heap.size + 2 ≤ W3.heap.size := by have := h3.size; simp at this; omega
          exact ⟨_, _, fin (some .ret) W3 hl3, hb3 _, Or.inr ⟨rfl, .ret, hIx _ _ _ _ hi3 (putl _ _), World.putObj_heap_same (by omega), (World.putObj_heap_other (by omega)).trans hk3⟩⟩
        | exit id =>
          obtain ⟨h3, hi3⟩ := hp
          obtain ⟨hl3, hk3, hb3⟩ := keep W3 h3
          have hz3 : w.heap.size + 2 ≤ W3.heap.size := by have := h3.size; simp at this; omega
          exact ⟨_, _, fin (some (.exit id)) W3 hl3, hb3 _, Or.inr ⟨rfl, .exit id, hIx _ _ _ _ hi3 (putl _ _), World.putObj_heap_same (by omega), (World.putObj_heap_other (by omega)).trans hk3⟩⟩
        | goto t =>
          obtain ⟨h3, hi3⟩ := hp
          obtain ⟨hl3, hk3, hb3⟩ := keep W3 h3
          have hz3 : w.heap.size + 2 ≤ W3.heap.size := by have := h3.size; simp at this; omega
          exact ⟨_, _, fin (some (.goto t)) W3 hl3, hb3 _, Or.inr ⟨rfl, .goto t, hIx _ _ _ _ hi3 (putl _ _), World.putObj_heap_same (by omega), (World.putObj_heap_other (by omega)).trans hk3⟩⟩
        | panic ch => exact hp.elim
        | outgrown => exact hp.elim
    refine (hit _ _ _ _ _ rfl T W1 (by omega) ⟨hI1, hL1, hK1, by omega⟩ (hR _ hb1)).mono ?_
    have put : ∀ (W3 : World) (o : Obj), But (fun k => k = w.heap.size ∨ k = w.heap.size + 1 ∨ k = c) W3 (W3.putObj (w.heap.size + 1) o) := fun W3 o => But.putObj o (Or.inr (Or.inl rfl))
    rintro e W2 ⟨v, rfl, ⟨hi, hl, hk, hz⟩ | ⟨q, q1, q2, d, hi, hl, hk⟩⟩
    · exact ⟨none, _, by have := run_endLoop (P := Tryd.prog) hl (by rw [hrec]; simp); rw [hrec] at this; exact this, hdone _ (hI _ _ _ hi (put _ _)) ((World.putObj_heap_other (by omega)).trans hk)⟩
    · exact ⟨some d, _, by have := run_endLoop (P := Tryd.prog) hl (by rw [hrec]; simp); rw [hrec] at this; exact this, hstop d q _ q1 q2 (hIx _ _ _ _ hi (But.putObj _ rfl)) ((World.putObj_heap_other (by omega)).trans hk)⟩
end Go.Proofs.YtcnllohpkgmkpaaDoor
/- The box of a walk over a text, and what is cut of texts. -/
namespace Go.Proofs.YtcnllohpkgmkpaaDoor
open Go.RowKit Go.ChangeShapes Go.WideShapes

theorem bs_eq' (s : ByteArray) : bsOf s.data.toList = s := by
  apply ByteArray.ext
  simp [bsOf]
theorem extract_zero (s : ByteArray) (b : Nat) : s.extract 0 b = bsOf (s.data.toList.take b) := by
  rw [← bs_eq' (s.extract 0 b), Lib.extract_data, List.drop_zero, Nat.sub_zero]
theorem extract_end (s : ByteArray) (a : Nat) : (s.extract a s.size).data.toList = s.data.toList.drop a := by
  rw [Lib.extract_data, List.take_of_length_le (by rw [List.length_drop, Array.length_toList]; exact Nat.le_refl _)]
/-- How much is left in the walk's box. -/
def boxLen (c : Nat) (W : World) : Nat := match W.cell? ⟨c, 0, none⟩ with | some (.string r) => r.size | _ => 0
theorem boxLen_eq {c : Nat} {W : World} {r : ByteArray} (h : W.cell? ⟨c, 0, none⟩ = some (.string r)) : boxLen c W = r.size := by unfold boxLen; rw [h]
/-- The walk's box. -/
def BoxT (c : Nat) (r : ByteArray) (W : World) : Prop := W.cell? ⟨c, 0, none⟩ = some (.string r) ∧ W.frozen? ⟨c, 0, none⟩ = false
theorem BoxT.put {c : Nat} {r : ByteArray} {W : World} (h : BoxT c r W) (x : ByteArray) : BoxT c x (W.setCell ⟨c, 0, none⟩ (.string x)) :=
  ⟨World.cell?_setCell_same _ _ _ h.1, by rw [World.frozen?_setCell]; exact h.2⟩
theorem BoxT.but {c : Nat} {r : ByteArray} {W W' : World} {S : Nat → Prop} (h : BoxT c r W) (hb : But S W W') (hs : ¬ S c) : BoxT c r W' := ⟨hb.cell h.1 hs, hb.free h.1 h.2 hs⟩
theorem BoxT.drew {c : Nat} {r : ByteArray} {W : World} (h : BoxT c r W) (n : Nat) : BoxT c r (W.drewN n) := h
end Go.Proofs.YtcnllohpkgmkpaaDoor
/- strings.Index laid at this program: its code is the shelf's own, number by number. -/
namespace Go.Proofs.YtcnllohpkgmkpaaDoor
open Go.Shelf
def Tryd.lays143_ren : Go.Shelf.Ren := ⟨fun | 143 => 123 | 219 => 108 | 217 => 107 | 225 => 131 | 224 => 132 | 267 => 133 | 266 => 130 | 314 => 151 | n => n, fun | 9 => 9 | 3 => 3 | 4 => 4 | 5 => 5 | 46 => 126 | 146 => 155 | 51 => 134 | n => n, fun | 1 => 0 | n => n⟩
theorem Tryd.lays143 : Go.Proofs.Lays.n143 Tryd.prog Tryd.lays143_ren := {
  mixed := by kernel_rfl
  f143 := Tryd.func123.trans (congrArg some (by kernel_rfl))
  f217 := Tryd.func107.trans (congrArg some (by kernel_rfl))
  f219 := Tryd.func108.trans (congrArg some (by kernel_rfl))
  f224 := Tryd.func132.trans (congrArg some (by kernel_rfl))
  f225 := Tryd.func131.trans (congrArg some (by kernel_rfl))
  f266 := Tryd.func130.trans (congrArg some (by kernel_rfl))
  f267 := Tryd.func133.trans (congrArg some (by kernel_rfl))
  f314 := Tryd.func151.trans (congrArg some (by kernel_rfl))
  t3 := Tryd.underlying3
  a3 := Tryd.isAgg3
  z3 := Tryd.sizeOf3
  v3 := Tryd.zeroValue3
  t4 := Tryd.underlying4
  a4 := Tryd.isAgg4
  z4 := Tryd.sizeOf4
  v4 := Tryd.zeroValue4
  t5 := Tryd.underlying5
  a5 := Tryd.isAgg5
  z5 := Tryd.sizeOf5
  v5 := Tryd.zeroValue5
  t9 := Tryd.underlying9
  a9 := Tryd.isAgg9
  z9 := Tryd.sizeOf9
  v9 := Tryd.zeroValue9
  t46 := Tryd.underlying126
  a46 := Tryd.isAgg126
  z46 := Tryd.sizeOf126
  v46 := Tryd.zeroValue126
  t51 := Tryd.underlying134
  a51 := Tryd.isAgg134
  z51 := Tryd.sizeOf134
  v51 := Tryd.zeroValue134
  t146 := Tryd.underlying155
  a146 := Tryd.isAgg155
  z146 := Tryd.sizeOf155
  v146 := Tryd.zeroValue155
  g1 := by kernel_rfl }
end Go.Proofs.YtcnllohpkgmkpaaDoor
/- The library's walk over the parts of a text between commas: what it tells. -/
namespace Go.Proofs.YtcnllohpkgmkpaaDoor
open Go.RowKit Go.ChangeShapes Go.WideShapes Go.Shelf
attribute [local go_sem] Oper.semAt_some

theorem splitSeqF_any (s : ByteArray) (W : World) :
    Calls Tryd.prog 93 #[.string s, .string ⟨#[44]⟩] W (fun e w' => e = .returned (.func (.func 144) #[] #[.pointer (some ⟨W.heap.size + 1, 0, none⟩), .pointer (some ⟨W.heap.size, 0, none⟩), .pointer (some ⟨W.heap.size + 1 + 1, 0, none⟩)]) ∧
      w' = ((W.alloc (.cells #[.string s] 9)).alloc (.cells #[.string ⟨#[44]⟩] 9)).alloc (.cells #[.int .i64 0] 3)) := by
  have H : Calls Tryd.prog 124 #[.string s, .string ⟨#[44]⟩, .int .i64 0] W (fun e w' => e = .returned (.func (.func 144) #[] #[.pointer (some ⟨W.heap.size + 1, 0, none⟩), .pointer (some ⟨W.heap.size, 0, none⟩), .pointer (some ⟨W.heap.size + 1 + 1, 0, none⟩)]) ∧
      w' = ((W.alloc (.cells #[.string s] 9)).alloc (.cells #[.string ⟨#[44]⟩] 9)).alloc (.cells #[.int .i64 0] 3)) := by
    go_enter Tryd.func124, Tryd.ntmps124
    go_wp2_with fail
    go_ret
    exact ⟨rfl, rfl⟩
  go_enter Tryd.func93, Tryd.ntmps93
  go_wp2_with fail
  go_at_call 124; refine H.mono ?_; rintro e w2 ⟨rfl, rfl⟩
  go_wp2_with fail
  go_ret
  exact ⟨rfl, rfl⟩
/-- The walk's other boxes. -/
def SepT (c : Nat) (W : World) : Prop := W.cell? ⟨c + 1, 0, none⟩ = some (.string ⟨#[44]⟩) ∧ W.cell? ⟨c + 1 + 1, 0, none⟩ = some (.int .i64 0)
theorem SepT.but {c : Nat} {W W' : World} {S : Nat → Prop} (h : SepT c W) (hb : But S W W') (h1 : ¬ S (c + 1)) (h2 : ¬ S (c + 1 + 1)) : SepT c W' := ⟨hb.cell h.1 h1, hb.cell h.2 h2⟩
theorem SepT.put {c : Nat} {W : World} (h : SepT c W) (v : Value) : SepT c (W.setCell ⟨c, 0, none⟩ v) :=
  ⟨by rw [World.cell?_setCell_other _ _ _ _ (by intro e; injection e with e _ _; omega)]; exact h.1, by rw [World.cell?_setCell_other _ _ _ _ (by intro e; injection e with e _ _; omega)]; exact h.2⟩
set_option maxRecDepth 100000 in
set_option maxHeartbeats 4000000 in
theorem split1_any (w0 : World) (n l c : Nat) (S : Nat → Prop) (J Jx : List (List UInt8) → World → Prop) (s : ByteArray) (T : TellS w0 n l c S (spm 44 s.data.toList) J Jx) (hcn : c + 5 ≤ n)
    (W : World) (hn : n ≤ W.heap.size) (hJ : J [] W) (hX : BoxT c s W) (hP : SepT c W) (hs : s.size ≤ 1048576) :
    Calls Tryd.prog 144 (#[.func (.yield l) #[] #[]] ++ #[.pointer (some ⟨c + 1, 0, none⟩), .pointer (some ⟨c, 0, none⟩), .pointer (some ⟨c + 1 + 1, 0, none⟩)]) W (ToldS J Jx (spm 44 s.data.toList)) := by
  have HT := Lib.hid T
  have HJ := Lib.hid hJ
  have HX := Lib.hid hX
  have HP0 := Lib.hid hP
  have HN := Lib.hid hn
  have H0 : Hid (spm 44 s.data.toList = [] ++ spm 44 s.data.toList) := Lib.hid rfl
  have NB := Lib.hid (And.intro (T.nb (c + 1) (by omega) (by omega)) (T.nb (c + 1 + 1) (by omega) (by omega)))
  have hz : (⟨#[44]⟩ : ByteArray).size = 1 := rfl
  obtain ⟨p1, p2⟩ := hP
  clear T hJ hX hn hcn
  refine (callsIn_wide (n := 5)).1 ?_
  refine callsIn_of_wp Tryd.func144 rfl trivial ?_ rfl
  simp only [Tryd.ntmps144, List.size_toArray, List.length_cons, List.length_nil, Nat.reduceAdd, Nat.reduceSub, Array.replicate_succ, Array.replicate_zero, List.push_toArray, List.append_toArray, List.nil_append, List.cons_append]
  gi_wp2
  clear p1 p2
  gi_loopw [7, 8] (fun _ _ wr => ∃ (pre : List (List UInt8)) (r : ByteArray), spm 44 s.data.toList = pre ++ spm 44 r.data.toList ∧ r.size ≤ 1048576 ∧ BoxT c r wr ∧ SepT c wr ∧ n ≤ wr.heap.size ∧ J pre wr) (fun _ _ wr => boxLen c wr)
  case atStart => exact ⟨[], s, H0.out, hs, HX.out, HP0.out, HN.out, HJ.out⟩
  case round =>
    obtain ⟨pre, r, hY, hr, hX, hP, hn, hJ⟩ := hrel
    have HY := Lib.hid hY
    have HX2 := Lib.hid hX
    have HP2 := Lib.hid hP
    have HJ2 := Lib.hid hJ
    have HN2 := Lib.hid hn
    obtain ⟨x0, x1⟩ := hX
    obtain ⟨p1, p2⟩ := hP
    clear hY hJ hn HX HJ HN H0 HP0
    have IB := Lib.hid (fun w => (Any.strings_Index_one Tryd.lays143 r 44 w).mono (fun e w' (h : _ ∧ w' = w) => (⟨h.1, h.2.symm⟩ : _ ∧ w = w')))
    have hge := Lib.indexByte_ge r.data.toList 44
    rcases Int.lt_or_le (Lib.indexByte r.data.toList 44) 0 with h | h
    · have h1 : Lib.indexByte r.data.toList 44 = -1 := by omega
      have IB2 := Lib.hid (fun w => h1 ▸ IB.out w)
      have HL := Lib.hid (HY.out.trans (by rw [spm_no h1]))
      have HP : Hid (pre ++ [r.data.toList] <+: spm 44 s.data.toList) := Lib.hid (by rw [HL.out]; exact List.prefix_refl _)
      have YY := HT.out.yield (5 - 1) pre r.data.toList wr HP.out HJ2.out
      rw [bs_eq'] at YY
      obtain ⟨fn, tmps, assign, body, hy, hR⟩ := YY
      clear h h1 hge IB
      gi_wp2_with (first
        | (refine ⟨trivial, ?_⟩; gi_at_call 123; refine (callsIn_wide.2 (IB2.out _)).mono ?_; rintro e w2 ⟨rfl, rfl⟩)
        | (refine hR.mono ?_; clear hR; rintro e W2 ⟨hb2, ⟨rfl, hJ3⟩ | ⟨rfl, hx3⟩⟩))
      · go_end0
        exact ⟨_, rfl, Or.inl (by rw [HL.out]; exact hJ3)⟩
      · go_end0
        exact ⟨_, rfl, Or.inr ⟨_, HP.out, by simp, hx3⟩⟩
    · obtain ⟨i, hi⟩ : ∃ i : Nat, Lib.indexByte r.data.toList 44 = (i : Int) := ⟨(Lib.indexByte r.data.toList 44).toNat, by omega⟩
      have hlt : i < r.size := by
        have := (List.getElem?_eq_some_iff.1 (Lib.indexByte_some hi).1).1
        rwa [Array.length_toList] at this
      have IB2 := Lib.hid (fun w => hi ▸ IB.out w)
      have HL := Lib.hid (HY.out.trans (by rw [spm_yes hi, ← extract_end, ← bs_list (r.data.toList.take i), ← extract_zero]))
      have HP : Hid (pre ++ [(r.extract 0 i).data.toList] <+: spm 44 s.data.toList) := Lib.hid ⟨spm 44 (r.extract (i + 1) r.size).data.toList, by rw [HL.out, List.append_assoc]; rfl⟩
      have YY := HT.out.yield (5 - 1) pre (r.extract 0 i).data.toList wr HP.out HJ2.out
      rw [bs_eq'] at YY
      obtain ⟨fn, tmps, assign, body, hy, hR⟩ := YY
      have HSZ : Hid ((r.extract (i + 1) r.size).size < r.size) := Lib.hid (by rw [ByteArray.size_extract]; omega)
      have wi : IntKind.i64.wrap ((i : Int) + 1) = (i : Int) + 1 := by rw [IntKind.wrap_i64]; omega
      have w0 : IntKind.i64.wrap (i : Int) = (i : Int) := by rw [IntKind.wrap_i64]; omega
      have i0 : (0 : Int) ≤ (i : Int) := by omega
      have i1 : (i : Int) ≤ (r.size : Int) := by omega
      have i2 : (i : Int) + 1 ≤ (r.size : Int) := by omega
      have i3 : (0 : Int) ≤ (i : Int) + 1 := by omega
      have i4 : ((i : Int) + 1).toNat = i + 1 := by omega
      have i5 : i ≤ r.size := by omega
      have i6 : i + 1 ≤ r.size := by omega
      clear h hi hge IB hlt
      gi_wp2_with (first
        | (refine ⟨trivial, ?_⟩; gi_at_call 123; refine (callsIn_wide.2 (IB2.out _)).mono ?_; rintro e w2 ⟨rfl, rfl⟩)
        | (refine hR.mono ?_; clear hR; rintro e W2 ⟨hb2, ⟨rfl, hJ3⟩ | ⟨rfl, hx3⟩⟩; have X3 := Lib.hid (HX2.out.but hb2 HT.out.nc); have P3 := Lib.hid (HP2.out.but hb2 NB.out.1 NB.out.2); have y0 := X3.out.1; have y1 := X3.out.2; have q1 := P3.out.1; have q2 := P3.out.2; have HB3 := Lib.hid hb2.size; clear hb2))
      · go_roundw
        case rel => exact ⟨pre ++ [(r.extract 0 i).data.toList], r.extract (i + 1) r.size, by rw [HL.out, List.append_assoc]; rfl, by have := HSZ.out; omega, X3.out.put _, P3.out.put _, Nat.le_trans HN2.out (by simpa [World.setCell] using HB3.out), HT.out.put _ _ _ hJ3⟩
        case measure => rw [boxLen_eq (X3.out.put _).1, boxLen_eq HX2.out.1]; exact HSZ.out
      · go_end0
        exact ⟨_, rfl, Or.inr ⟨_, HP.out, by simp, hx3⟩⟩
end Go.Proofs.YtcnllohpkgmkpaaDoor
/- strings.Count laid at this program: its code is the shelf's own, number by number. -/
namespace Go.Proofs.YtcnllohpkgmkpaaDoor
open Go.Shelf
def Tryd.lays138_ren : Go.Shelf.Ren := ⟨fun | 138 => 92 | 195 => 121 | 218 => 122 | 143 => 123 | 219 => 108 | 217 => 107 | 225 => 131 | 224 => 132 | 267 => 133 | 266 => 130 | 314 => 151 | n => n, fun | 9 => 9 | 3 => 3 | 4 => 4 | 5 => 5 | 0 => 0 | 46 => 126 | 146 => 155 | 51 => 134 | n => n, fun | 1 => 0 | n => n⟩
theorem Tryd.lays138 : Go.Proofs.Lays.n138 Tryd.prog Tryd.lays138_ren := {
  mixed := by kernel_rfl
  f138 := Tryd.func92.trans (congrArg some (by kernel_rfl))
  f143 := Tryd.func123.trans (congrArg some (by kernel_rfl))
  f195 := Tryd.func121.trans (congrArg some (by kernel_rfl))
  f217 := Tryd.func107.trans (congrArg some (by kernel_rfl))
  f218 := Tryd.func122.trans (congrArg some (by kernel_rfl))
  f219 := Tryd.func108.trans (congrArg some (by kernel_rfl))
  f224 := Tryd.func132.trans (congrArg some (by kernel_rfl))
  f225 := Tryd.func131.trans (congrArg some (by kernel_rfl))
  f266 := Tryd.func130.trans (congrArg some (by kernel_rfl))
  f267 := Tryd.func133.trans (congrArg some (by kernel_rfl))
  f314 := Tryd.func151.trans (congrArg some (by kernel_rfl))
  t0 := Tryd.underlying0
  a0 := Tryd.isAgg0
  z0 := Tryd.sizeOf0
  v0 := Tryd.zeroValue0
  t3 := Tryd.underlying3
  a3 := Tryd.isAgg3
  z3 := Tryd.sizeOf3
  v3 := Tryd.zeroValue3
  t4 := Tryd.underlying4
  a4 := Tryd.isAgg4
  z4 := Tryd.sizeOf4
  v4 := Tryd.zeroValue4
  t5 := Tryd.underlying5
  a5 := Tryd.isAgg5
  z5 := Tryd.sizeOf5
  v5 := Tryd.zeroValue5
  t9 := Tryd.underlying9
  a9 := Tryd.isAgg9
  z9 := Tryd.sizeOf9
  v9 := Tryd.zeroValue9
  t46 := Tryd.underlying126
  a46 := Tryd.isAgg126
  z46 := Tryd.sizeOf126
  v46 := Tryd.zeroValue126
  t51 := Tryd.underlying134
  a51 := Tryd.isAgg134
  z51 := Tryd.sizeOf134
  v51 := Tryd.zeroValue134
  t146 := Tryd.underlying155
  a146 := Tryd.isAgg155
  z146 := Tryd.sizeOf155
  v146 := Tryd.zeroValue155
  g1 := by kernel_rfl }
end Go.Proofs.YtcnllohpkgmkpaaDoor
