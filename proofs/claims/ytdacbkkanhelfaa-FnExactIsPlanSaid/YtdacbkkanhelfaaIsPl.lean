/- Rows keep a plan: both sides. -/
import Derived.Test.YtdacbkkanhelfaaLeft2
import Derived.ChangeAlike
namespace Go.Proofs.Ytdacbkkanhelfaa
open Go.RowKit Go.ChangeShapes Go.WideShapes

def negF (x : Nat) : Nat := Op.negFloat .f32 x
theorem run_negF {P : Program} (w : World) (x : Nat) : (Op.unary .neg (.float .f32 x)).run P w = .ok (.float .f32 (negF x)) w := by simp [Op.unary, negF]
attribute [local go_sem] run_negF
theorem neg_rg32 (x : Nat) : Fl.rg Ieee.single (negF x) = Fl.rg Ieee.single x := by
  have e : negF x = x ^^^ 2 ^ 31 := rfl
  rw [e]
  show (x ^^^ 2 ^ 31) % 2 ^ 31 = x % 2 ^ 31
  rw [Nat.xor_mod_two_pow]
  simp
theorem fin_neg {x : Nat} (h : fin32 x = true) : fin32 (negF x) = true := by
  unfold fin32 at h ⊢
  rw [neg_rg32]; exact h
theorem fin_geL {x l : Nat} (h : fin32 x = true) (hl : fin32 l = true) : geB x l = !ltB x l := by
  have hx : Fl.Fin Ieee.single x := by
    unfold fin32 at h
    unfold Fl.Fin
    rw [Fl.single_inf]
    exact of_decide_eq_true h
  have h0 : Fl.Fin Ieee.single l := by
    unfold fin32 at hl
    unfold Fl.Fin
    rw [Fl.single_inf]
    exact of_decide_eq_true hl
  have ho := Fl.order_fin hx h0
  unfold geB ltB
  show (Ieee.single.order x l == some Ordering.gt || Ieee.single.order x l == some Ordering.eq) = !(Ieee.single.order x l == some Ordering.lt)
  by_cases hl : Fl.sv Ieee.single x < Fl.sv Ieee.single l
  · rw [ho.1.2 hl]; rfl
  · by_cases he : Fl.sv Ieee.single x = Fl.sv Ieee.single l
    · rw [ho.2.1.2 he]; rfl
    · rw [ho.2.2.2 (by grind)]; rfl
theorem leftM_fin {R : Rw} {X : List Nat} (h : leftF R X = true) : finAll (leftM R X) = true := by
  refine all_true fun i hi => ?_
  rw [leftM_len] at hi
  have hc := List.all_eq_true.1 h i (List.mem_range.2 hi)
  have e : (leftM R X).getD i 0 = (leftC R X i).getD 0 := by simp [leftM, List.getD, hi]
  rw [e]
  cases hL : leftC R X i with
  | none => rw [hL] at hc; cases hc
  | some y => rw [hL] at hc; exact hc
def isPlB (R : Rw) (X : List Nat) (a : Nat) : Bool := leftB R X && (leastB a && (noLess (negF a) X && noLess (negF a) (leftM R X)))
theorem isNear_is (x : Nat) (b : Bool) (w : World) (hb : leastB x = b) : Calls Try.prog 68 #[.float .f32 x] w (Tells b w) := by
  subst hb; exact isNear_any x w
theorem l02Least_is (x : Nat) (b : Bool) (w : World) (hb : leastB x = b) : Calls Try.prog 67 #[.float .f32 x] w (Tells b w) := by
  subst hb; exact l02Least_any x w
theorem implLeft_is (b : Bool) (v : Value) (R : Rw) (u : Value) (X : List Nat) (w : World) (hv : RV w v R) (hu : SL w u X) (oR : OKR R) (oX : OKF X) (hb : leftB R X = b) :
    Calls Try.prog 28 #[v, u] w (SaysLB' (bif b then leftM R X else []) b w) := by
  subst hb; exact implLeftOf_any v R u X w hv hu oR oX
theorem specLeft_is (b : Bool) (v : Value) (R : Rw) (u : Value) (X : List Nat) (w : World) (hv : RV w v R) (hu : SL w u X) (oR : OKR R) (oX : OKF X) (hb : leftB R X = b) :
    Calls Try.prog 27 #[v, u] w (SaysLB' (bif b then leftM R X else []) b w) := by
  subst hb; exact specLeftOf_any v R u X w hv hu oR oX

theorem ge_all {Z : List Nat} {l : Nat} (hZ : finAll Z = true) (hl : fin32 l = true) : (Z.all fun x => geB x l) = noLess l Z := by
  rw [Bool.eq_iff_iff]
  unfold noLess
  simp only [List.all_eq_true]
  constructor
  · intro h x hx
    rw [← fin_geL (List.all_eq_true.1 hZ x hx) hl]; exact h x hx
  · intro h x hx
    rw [fin_geL (List.all_eq_true.1 hZ x hx) hl]; exact h x hx
theorem pl_eq {R : Rw} {X : List Nat} {a : Nat} (h1 : leftB R X = true) (h2 : leastB a = true) : isPlB R X a = ((X.all fun x => geB x (negF a)) && (leftM R X).all fun x => geB x (negF a)) := by
  unfold isPlB
  rw [h1, h2, Bool.true_and, Bool.true_and]
  unfold leftB at h1
  unfold leastB at h2
  rw [Bool.and_eq_true] at h1 h2
  rw [ge_all (fitB_ok h1.1).2.2 (fin_neg h2.1), ge_all (leftM_fin h1.2) (fin_neg h2.1)]
set_option maxHeartbeats 2000000 in
theorem implIsPlan_any (v : Value) (R : Rw) (u : Value) (X : List Nat) (a : Nat) (w : World) (hv : RV w v R) (hu : SL w u X) (oR : OKR R) (oX : OKF X) (_oa : a < 4294967296) :
    Calls Try.prog 33 #[v, u, .float .f32 a] w (Says (isPlB R X a) w) := by
  have hx := oX.size
  have HV := Lib.hid hv
  have HU := Lib.hid hu
  have HB := Lib.hid (below_alloc w)
  have HLN := Lib.hid (leftL_len R X)
  obtain ⟨s1, s2, s3, rfl, g1, g2, g3⟩ := hv
  obtain ⟨ax, cx, rfl⟩ := hu.long
  clear g1 g2 g3 hu
  cases h1 : leftB R X with
  | false =>
    have hr : isPlB R X a = false := by unfold isPlB; rw [h1]; rfl
    rw [hr]
    have H1 := Lib.hid h1
    clear h1 hr
    go_enter Try.func33, Try.ntmps33
    go_wp2_with fail
    go_at_call 28; refine (implLeft_is _ _ R _ X _ (HV.out.below (HB.out _) (Nat.le_refl _)) (HU.out.below (HB.out _) (Nat.le_refl _)) oR oX H1.out).mono ?_; rintro e w1 ⟨q, rfl, hq, b⟩
    have B1 := Lib.hid ((HB.out _).trans (b.mono (by simp)))
    clear b hq
    go_wp2_with fail
    refine bodyPost_ret (results_tmp rfl _ _ _) rfl ?_
    exact ⟨rfl, B1.out⟩
  | true =>
    have H1 := Lib.hid h1
    have HM : Hid ((leftM R X).length ≤ 1048576) := Lib.hid (by have := HLN.out; unfold leftL at this; rw [h1] at this; exact this)
    cases h2 : leastB a with
    | false =>
      have hr : isPlB R X a = false := by unfold isPlB; rw [h1, h2]; rfl
      rw [hr]
      have H2 := Lib.hid h2
      clear h1 h2 hr
      go_enter Try.func33, Try.ntmps33
      go_wp2_with fail
      go_at_call 28; refine (implLeft_is _ _ R _ X _ (HV.out.below (HB.out _) (Nat.le_refl _)) (HU.out.below (HB.out _) (Nat.le_refl _)) oR oX H1.out).mono ?_; rintro e w1 ⟨q, rfl, hq, b⟩
      have B1 := Lib.hid ((HB.out _).trans (b.mono (by simp)))
      clear b hq
      go_wp2_with fail
      go_at_call 68; refine (isNear_is _ _ _ H2.out).mono ?_; rintro e w2 ⟨rfl, n1, rfl⟩
      go_wp2_with fail
      refine bodyPost_ret (results_tmp rfl _ _ _) rfl ?_
      exact ⟨rfl, below_drewN B1.out _⟩
    | true =>
      have H2 := Lib.hid h2
      cases h3 : noLess (negF a) X with
      | false =>
        have hr : isPlB R X a = false := by unfold isPlB; rw [h1, h2, h3]; rfl
        rw [hr]
        have H3 := Lib.hid h3
        clear h1 h2 h3 hr
        go_enter Try.func33, Try.ntmps33
        go_wp2_with fail
        go_at_call 28; refine (implLeft_is _ _ R _ X _ (HV.out.below (HB.out _) (Nat.le_refl _)) (HU.out.below (HB.out _) (Nat.le_refl _)) oR oX H1.out).mono ?_; rintro e w1 ⟨q, rfl, hq, b⟩
        have B1 := Lib.hid ((HB.out _).trans (b.mono (by simp)))
        clear b hq
        go_wp2_with fail
        go_at_call 68; refine (isNear_is _ _ _ H2.out).mono ?_; rintro e w2 ⟨rfl, n1, rfl⟩
        go_wp2_with fail
        go_at_call 56; refine (areAtLeast_is _ _ _ X _ (HU.out.below (below_drewN B1.out _) (Nat.le_refl _)) hx H3.out).mono ?_; rintro e w2 ⟨rfl, n2, rfl⟩
        go_wp2_with fail
        refine bodyPost_ret (results_tmp rfl _ _ _) rfl ?_
        exact ⟨rfl, below_drewN B1.out _⟩
      | true =>
        have hr : isPlB R X a = noLess (negF a) (leftM R X) := by unfold isPlB; rw [h1, h2, h3]; simp
        rw [hr]
        have H3 := Lib.hid h3
        clear h1 h2 h3 hr
        go_enter Try.func33, Try.ntmps33
        go_wp2_with fail
        go_at_call 28; refine (implLeft_is _ _ R _ X _ (HV.out.below (HB.out _) (Nat.le_refl _)) (HU.out.below (HB.out _) (Nat.le_refl _)) oR oX H1.out).mono ?_; rintro e w1 ⟨q, rfl, hq, b⟩
        have B1 := Lib.hid ((HB.out _).trans (b.mono (by simp)))
        have HQ : Hid (SL w1 q (leftM R X)) := Lib.hid (FI.sl hq)
        clear b hq
        go_wp2_with fail
        go_at_call 68; refine (isNear_is _ _ _ H2.out).mono ?_; rintro e w2 ⟨rfl, n1, rfl⟩
        go_wp2_with fail
        go_at_call 56; refine (areAtLeast_is _ _ _ X _ (HU.out.below (below_drewN B1.out _) (Nat.le_refl _)) hx H3.out).mono ?_; rintro e w2 ⟨rfl, n2, rfl⟩
        go_wp2_with fail
        go_at_call 56; refine (areAtLeast_any _ _ (leftM R X) _ (SL.dn HQ.out) HM.out).mono ?_; rintro e w2 ⟨rfl, n3, rfl⟩
        go_wp2_with fail
        refine bodyPost_ret (results_tmp rfl _ _ _) rfl ?_
        exact ⟨rfl, below_drewN B1.out _⟩
set_option maxHeartbeats 2000000 in
theorem specIsPlan_any (v : Value) (R : Rw) (u : Value) (X : List Nat) (a : Nat) (w : World) (hv : RV w v R) (hu : SL w u X) (oR : OKR R) (oX : OKF X) (_oa : a < 4294967296) :
    Calls Try.prog 32 #[v, u, .float .f32 a] w (Says (isPlB R X a) w) := by
  have hx := oX.size
  have HV := Lib.hid hv
  have HU := Lib.hid hu
  have HB := Lib.hid (below_alloc w)
  obtain ⟨s1, s2, s3, rfl, g1, g2, g3⟩ := hv
  clear g1 g2 g3
  cases h1 : leftB R X with
  | false =>
    obtain ⟨ax, cx, rfl⟩ := hu.long
    have hr : isPlB R X a = false := by unfold isPlB; rw [h1]; rfl
    rw [hr]
    have H1 := Lib.hid h1
    clear h1 hr hu
    go_enter Try.func32, Try.ntmps32
    go_wp2_with fail
    go_at_call 27; refine (specLeft_is _ _ R _ X _ (HV.out.below (HB.out _) (Nat.le_refl _)) (HU.out.below (HB.out _) (Nat.le_refl _)) oR oX H1.out).mono ?_; rintro e w1 ⟨q, rfl, hq, b⟩
    have B1 := Lib.hid ((HB.out _).trans (b.mono (by simp)))
    clear b hq
    go_wp2_with fail
    refine bodyPost_ret (results_tmp rfl _ _ _) rfl ?_
    exact ⟨rfl, B1.out⟩
  | true =>
    have H1 := Lib.hid h1
    have hfit : fitB R X = true := by unfold leftB at h1; rw [Bool.and_eq_true] at h1; exact h1.1
    obtain ⟨hR, hXl, -⟩ := fitB_ok hfit
    have r1 := hR.b1
    have r2 := hR.b2
    have x1 := hR.v1
    have HML := Lib.hid (leftM_len R X)
    clear hfit hR
    cases h2 : leastB a with
    | false =>
      obtain ⟨ax, cx, rfl⟩ := hu.long
      have hr : isPlB R X a = false := by unfold isPlB; rw [h1, h2]; rfl
      rw [hr]
      have H2 := Lib.hid h2
      clear h1 h2 hr hu
      go_enter Try.func32, Try.ntmps32
      go_wp2_with fail
      go_at_call 27; refine (specLeft_is _ _ R _ X _ (HV.out.below (HB.out _) (Nat.le_refl _)) (HU.out.below (HB.out _) (Nat.le_refl _)) oR oX H1.out).mono ?_; rintro e w1 ⟨q, rfl, hq, b⟩
      have B1 := Lib.hid ((HB.out _).trans (b.mono (by simp)))
      clear b hq
      go_wp2_with fail
      go_at_call 67; refine (l02Least_is _ _ _ H2.out).mono ?_; rintro e w2 ⟨rfl, n1, rfl⟩
      go_wp2_with fail
      refine bodyPost_ret (results_tmp rfl _ _ _) rfl ?_
      exact ⟨rfl, below_drewN B1.out _⟩
    | true =>
      have H2 := Lib.hid h2
      have HR := Lib.hid (pl_eq h1 h2)
      rcases hu with ⟨rfl, -⟩ | ⟨xb, xoff, xcap, rfl, xpos, xbl, xcell⟩
      · exfalso; simp at hXl; omega
      clear h1 h2 xcell
      go_enter Try.func32, Try.ntmps32
      go_wp2_with fail
      go_at_call 27; refine (specLeft_is _ _ R _ X _ (HV.out.below (HB.out _) (Nat.le_refl _)) (HU.out.below (HB.out _) (Nat.le_refl _)) oR oX H1.out).mono ?_; rintro e w1 ⟨q, rfl, hq, b⟩
      have B1 := Lib.hid ((HB.out _).trans (b.mono (by simp)))
      rcases FI.sl hq with ⟨hz, -⟩ | ⟨qb, qoff, qcap, rfl, qpos, qbl, qcell⟩
      · exfalso; have := HML.out; rw [cond_true] at hz; rw [hz] at this; simp at this; omega
      have HQC : Hid (∀ i, i < (leftM R X).length → w1.cell? ⟨qb, qoff + i, none⟩ = some (.float .f32 ((leftM R X).getD i 0))) := Lib.hid qcell
      have HXC : Hid (∀ i, i < X.length → w1.cell? ⟨xb, xoff + i, none⟩ = some (.float .f32 (X.getD i 0))) := Lib.hid (by
        rcases HU.out.below B1.out (Nat.le_refl _) with ⟨rfl, -⟩ | ⟨yb, yoff, ycap, ye, -, -, yc⟩
        · intro i hi; simp at hi
        · injection ye with e1 e2 e3; injection e1 with e1; injection e1 with e1 e4 e5; subst e1 e4; exact yc)
      clear b hq qcell
      rw [cond_true, HML.out]
      go_wp2_with fail
      go_at_call 67; refine (l02Least_is _ _ _ H2.out).mono ?_; rintro e w2 ⟨rfl, n1, rfl⟩
      go_wp2_with fail
      go_loop [9] (fun i => ∃ k : Nat, k ≤ X.length ∧ i = .int .i64 k ∧ (∀ j, j < k → geB (X.getD j 0) (negF a) = true)) (fun i => X.length - (intOf i).toNat)
      case atStart => exact ⟨0, Nat.zero_le _, rfl, fun j hj => by omega⟩
      case round =>
        obtain ⟨k, hk, rfl, hall⟩ := hrel
        have HA := Lib.hid hall
        clear hall
        by_cases hlt : k < X.length
        · have hc1 := HXC.out k hlt
          cases hf : geB (X.getD k 0) (negF a) with
          | true =>
            have HF := Lib.hid hf
            unfold geB at hf
            generalize X.getD k 0 = y at hc1 hf
            go_wp2_with fail
            go_round
            case rel => exact ⟨k + 1, by omega, by go_num, fun j hj => by
              by_cases e : j = k
              · subst e; exact HF.out
              · exact HA.out j (by omega)⟩
            case measure => simp [intOf]; omega
          | false =>
            have HF := Lib.hid hf
            unfold geB at hf
            generalize hY : X.getD k 0 = y at hc1 hf
            go_wp2_with fail
            refine bodyPost_ret (results_tmp rfl _ _ _) rfl ?_
            refine says ?_ (below_drewN B1.out _)
            rw [HR.out, all_false hlt HF.out]; rfl
        · obtain rfl : k = X.length := by omega
          have HAX : Hid ((X.all fun x => geB x (negF a)) = true) := Lib.hid (all_true HA.out)
          clear HA
          go_wp2_with fail
          go_loop [10] (fun i => ∃ k : Nat, k ≤ R.B.length ∧ i = .int .i64 k ∧ (∀ j, j < k → geB ((leftM R X).getD j 0) (negF a) = true)) (fun i => R.B.length - (intOf i).toNat)
          case atStart => exact ⟨0, Nat.zero_le _, rfl, fun j hj => by omega⟩
          case round =>
            obtain ⟨k, hk, rfl, hall⟩ := hrel
            have HA := Lib.hid hall
            clear hall
            by_cases hlt : k < R.B.length
            · have hc1 := HQC.out k (by rw [HML.out]; exact hlt)
              cases hf : geB ((leftM R X).getD k 0) (negF a) with
              | true =>
                have HF := Lib.hid hf
                unfold geB at hf
                generalize (leftM R X).getD k 0 = y at hc1 hf
                go_wp2_with fail
                go_round
                case rel => exact ⟨k + 1, by omega, by go_num, fun j hj => by
                  by_cases e : j = k
                  · subst e; exact HF.out
                  · exact HA.out j (by omega)⟩
                case measure => simp [intOf]; omega
              | false =>
                have HF := Lib.hid hf
                unfold geB at hf
                generalize hY : (leftM R X).getD k 0 = y at hc1 hf
                go_wp2_with fail
                refine bodyPost_ret (results_tmp rfl _ _ _) rfl ?_
                refine says ?_ (below_drewN B1.out _)
                rw [HR.out, all_false (Z := leftM R X) (p := fun x => geB x (negF a)) (i := k) (by rw [HML.out]; exact hlt) HF.out, Bool.and_false]
            · obtain rfl : k = R.B.length := by omega
              have HAL : Hid (((leftM R X).all fun x => geB x (negF a)) = true) := Lib.hid (all_true (by rw [HML.out]; exact HA.out))
              clear HA
              go_wp2_with fail
              refine bodyPost_ret (results_tmp rfl _ _ _) rfl ?_
              refine says ?_ (below_drewN B1.out _)
              rw [HR.out, HAX.out, HAL.out]; rfl
end Go.Proofs.Ytdacbkkanhelfaa
