/- Choices of different numbers: the program. -/
import Derived.Test.YtiobbclciboggaaCfD
import Derived.Test.YtiobbclciboggaaFtD
import Derived.Test.YtiobbclciboggaaDf0
import Derived.Test.YtiobbclciboggaaDmI
namespace Go.Proofs.Ytiobbclciboggaa
open Go.RowKit Go.ChangeShapes Go.WideShapes

def dfX (Ds : List (List Int)) : List (List Int) := exts nwB Ds Ds.length []
def dcI (Ds : List (List Int)) : Int := if domsB Ds then cntW (dfX Ds) else 0
def dfL (Ds : List (List Int)) : List Int := if domsB Ds then (dfX Ds).headD [] else []
def dfB (Ds : List (List Int)) : Bool := domsB Ds && decide (dfX Ds ≠ [])
theorem dfX_len (Ds : List (List Int)) : ∀ C ∈ dfX Ds, C.length = Ds.length := exts_len Ds.length [] (by simp)
theorem dfL_len (Ds : List (List Int)) : (dfL Ds).length ≤ 1048576 := by
  unfold dfL
  split
  · rename_i h
    have ok := domsB_ok h
    cases hx : dfX Ds with
    | nil => simp
    | cons C R =>
      have := dfX_len Ds C (by rw [hx]; simp)
      have := ok.l2
      simp only [List.headD_cons]
      omega
  · simp
theorem doms_each {Ds : List (List Int)} (ok : DomsOk Ds) : ∀ i, (Ds.getD i []).length ≤ 8 ∧ ∀ x ∈ Ds.getD i [], 0 ≤ x ∧ x ≤ 31 := by
  intro i
  by_cases hi : i < Ds.length
  · have h := ok.d i hi
    refine ⟨h.l2, fun x hx => ?_⟩
    obtain ⟨k, hk, rfl⟩ := List.getElem_of_mem hx
    have hv := h.v k hk
    generalize Ds.getD i [] = E at hk hv ⊢
    rw [show E.getD k 0 = E[k] by simp [List.getD, hk]] at hv
    exact hv
  · have e : Ds.getD i [] = [] := by simp [List.getD, List.getElem?_eq_none (Nat.le_of_not_lt hi)]
    rw [e]
    exact ⟨by simp, fun x hx => by cases hx⟩
theorem doms_ok {Ds : List (List Int)} (ok : DomsOk Ds) : ∀ i, (Ds.getD i []).length ≤ 1000 ∧ ∀ x ∈ Ds.getD i [], 0 ≤ x ∧ x ≤ 1000 := fun i =>
  ⟨by have := (doms_each ok i).1; omega, fun x hx => by have := (doms_each ok i).2 x hx; omega⟩
theorem doms_ne {Ds : List (List Int)} (ok : DomsOk Ds) : ∀ i, i < Ds.length → (Ds.getD i []).length ≠ 0 := fun i hi => by have := (ok.d i hi).l1; omega
set_option maxRecDepth 100000 in
set_option maxHeartbeats 4000000 in
theorem differsIn_any (v : Value) (Ds : List (List Int)) (w : World) (hv : LV w v Ds) :
    Calls Try.prog 60 #[v] w (fun e w' => e = .returned (.agg #[v, fitD]) ∧ Below w.heap.size w w') := by
  obtain ⟨ao, cap, rfl⟩ := hv.long
  have HB := Lib.hid (below_alloc w)
  clear hv
  go_enter Try.func60, Try.ntmps60
  go_wp2_with fail
  refine bodyPost_ret (v := .agg #[.slice ao Ds.length cap, fitD]) (by simp [results, Try.results60, go_sem]) rfl ?_
  exact ⟨rfl, HB.out _⟩
set_option maxHeartbeats 1000000 in
theorem implCountDiffers_any (v : Value) (Ds : List (List Int)) (w : World) (hv : LV w v Ds) (o : OKL Ds) :
    Calls Try.prog 25 #[v] w (SaysIB (dcI Ds) (domsB Ds) w) := by
  have HV := Lib.hid hv
  obtain ⟨ao, cap, rfl⟩ := hv.long
  cases q : domsB Ds with
  | false =>
    have H := Lib.hid q
    have e : dcI Ds = 0 := by unfold dcI; rw [q]; rfl
    rw [e]
    clear q e hv
    go_enter Try.func25, Try.ntmps25
    go_wp2_with fail
    go_at_call 59; refine (implAreDomains_any _ Ds _ HV.out o).mono ?_; rintro e w1 ⟨rfl, b1⟩
    rw [H.out]
    go_wp2_with fail
    go_ret2
    exact ⟨rfl, b1⟩
  | true =>
    have H := Lib.hid q
    have OK := Lib.hid (domsB_ok q)
    have e : dcI Ds = cntW (dfX Ds) := by unfold dcI; rw [if_pos q]
    rw [e]
    clear q e hv
    go_enter Try.func25, Try.ntmps25
    go_wp2_with fail
    go_at_call 59; refine (implAreDomains_any _ Ds _ HV.out o).mono ?_; rintro e w1 ⟨rfl, b1⟩
    rw [H.out]
    have B1 := Lib.hid b1
    have HV1 := Lib.hid (HV.out.below b1 (Nat.le_refl _))
    clear b1
    go_wp2_with fail
    go_at_call 60; refine (differsIn_any _ Ds _ HV1.out).mono ?_; rintro e w2 ⟨rfl, b2⟩
    have B2 := Lib.hid (B1.out.trans (b2.mono B1.out.size))
    have HV2 := Lib.hid (HV1.out.below b2 (Nat.le_refl _))
    clear b2
    go_wp2_with fail
    go_at_call 62; refine (countD_any _ Ds _ HV2.out (doms_ok OK.out) (by have := OK.out.l2; omega) (doms_ne OK.out)).mono ?_; rintro e w3 ⟨rfl, b3⟩
    have B3 := Lib.hid (B2.out.trans (b3.mono B2.out.size))
    clear b3
    go_wp2_with fail
    go_ret2
    exact ⟨rfl, B3.out⟩
/-- .. for any lists that are domains, however they came. -/
theorem firstDiffer_yes (v : Value) (Ds : List (List Int)) (w : World) (hv : LV w v Ds) (q : domsB Ds = true) (hA : ∀ W, LV W v Ds → Calls Try.prog 59 #[v] W (Says true W)) :
    Calls Try.prog 18 #[v] w (SaysJB ((dfX Ds).headD []) (decide (dfX Ds ≠ [])) w) := by
  have HV := Lib.hid hv
  obtain ⟨ao, cap, rfl⟩ := hv.long
  have HA := Lib.hid hA
  have OK := Lib.hid (domsB_ok q)
  obtain ⟨F, hF⟩ : ∃ F, (dfX Ds).headD [] = F := ⟨_, rfl⟩
  have HF := Lib.hid hF
  obtain ⟨b, hbb⟩ : ∃ b, decide (dfX Ds ≠ []) = b := ⟨_, rfl⟩
  have HBB := Lib.hid hbb
  rw [hF, hbb]
  clear q hv hF hbb hA
  go_enter Try.func18, Try.ntmps18
  go_wp2_with fail
  go_at_call 59; refine (HA.out _ HV.out).mono ?_; rintro e w1 ⟨rfl, b1⟩
  have B1 := Lib.hid b1
  have HV1 := Lib.hid (HV.out.below b1 (Nat.le_refl _))
  clear b1
  go_wp2_with fail
  go_at_call 60; refine (differsIn_any _ Ds _ HV1.out).mono ?_; rintro e w2 ⟨rfl, b2⟩
  have B2 := Lib.hid (B1.out.trans (b2.mono B1.out.size))
  have HV2 := Lib.hid (HV1.out.below b2 (Nat.le_refl _))
  clear b2
  go_wp2_with fail
  go_at_call 61; refine (firstD_any _ Ds _ HV2.out (doms_ok OK.out) (by have := OK.out.l2; omega) (doms_ne OK.out)).mono ?_; rintro e w3 ⟨u, rfl, hu, b3⟩
  have hu2 : II w2.heap.size w3.heap.size w3 u F := HF.out ▸ hu
  have B3 := Lib.hid (B2.out.trans (b3.mono B2.out.size))
  have HU := Lib.hid (SI.wide hu2 B2.out.size (Nat.le_refl _) (Nat.le_refl _))
  obtain ⟨ua, uc, rfl⟩ := SI.len hu2
  have e3 : decide (exts nwB Ds Ds.length [] ≠ []) = b := HBB.out
  rw [e3]
  clear b3 hu hu2 e3
  go_wp2_with fail
  go_ret2
  exact ⟨_, rfl, HU.out, B3.out⟩
theorem implFirstDiffer_any (v : Value) (Ds : List (List Int)) (w : World) (hv : LV w v Ds) (o : OKL Ds) :
    Calls Try.prog 18 #[v] w (SaysJB (dfL Ds) (dfB Ds) w) := by
  cases q : domsB Ds with
  | false =>
    have HV := Lib.hid hv
    obtain ⟨ao, cap, rfl⟩ := hv.long
    have H := Lib.hid q
    have e : dfL Ds = [] := by unfold dfL; rw [q]; rfl
    have e2 : dfB Ds = false := by unfold dfB; rw [q]; rfl
    rw [e, e2]
    clear q e e2 hv
    go_enter Try.func18, Try.ntmps18
    go_wp2_with fail
    go_at_call 59; refine (implAreDomains_any _ Ds _ HV.out o).mono ?_; rintro e w1 ⟨rfl, b1⟩
    rw [H.out]
    go_wp2_with fail
    go_ret2
    exact ⟨_, rfl, SI.nil _ (Nat.le_refl _) _ _, b1⟩
  | true =>
    have e : dfL Ds = (dfX Ds).headD [] := by unfold dfL; rw [if_pos q]
    have e2 : dfB Ds = decide (dfX Ds ≠ []) := by unfold dfB; rw [q]; rfl
    rw [e, e2]
    exact firstDiffer_yes v Ds w hv q (fun W hW => by have h := implAreDomains_any v Ds W hW o; rw [q] at h; exact h)
end Go.Proofs.Ytiobbclciboggaa
