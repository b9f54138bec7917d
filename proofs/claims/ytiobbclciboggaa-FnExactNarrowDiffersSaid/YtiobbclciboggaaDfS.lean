/- Choices of different numbers: the model, whole. -/
import Derived.Test.YtiobbclciboggaaDfI
import Derived.Test.YtiobbclciboggaaDfA
import Derived.Test.YtiobbclciboggaaDmS
namespace Go.Proofs.Ytiobbclciboggaa
open Go.RowKit Go.ChangeShapes Go.WideShapes

theorem pow86 {n : Nat} (h : n ≤ 6) : 8 ^ n ≤ 262144 := Nat.le_trans (Nat.pow_le_pow_right (by omega) h) (by decide)
theorem dfX_few {Ds : List (List Int)} (ok : DomsOk Ds) : (dfX Ds).length ≤ 262144 := Nat.le_trans (exts_many (fun i => (doms_each ok i).1) _ _) (pow86 ok.l2)
theorem specCountDiffers_any (v : Value) (Ds : List (List Int)) (w : World) (hv : LV w v Ds) (o : OKL Ds) :
    Calls Try.prog 24 #[v] w (SaysIB (dcI Ds) (domsB Ds) w) := by
  have HV := Lib.hid hv
  obtain ⟨ao, cap, rfl⟩ := hv.long
  cases q : domsB Ds with
  | false =>
    have H := Lib.hid q
    have e : dcI Ds = 0 := by unfold dcI; rw [q]; rfl
    rw [e]
    clear q e hv
    go_enter Try.func24, Try.ntmps24
    go_wp2_with fail
    go_at_call 57; refine (l07Domains_any _ Ds _ HV.out o).mono ?_; rintro e w1 ⟨rfl, m, rfl⟩
    rw [H.out]
    go_wp2_with fail
    go_ret2
    exact ⟨rfl, below_drewN (Below.refl _ _) _⟩
  | true =>
    have H := Lib.hid q
    have OK := Lib.hid (domsB_ok q)
    have e : dcI Ds = cntW (dfX Ds) := by unfold dcI; rw [if_pos q]
    rw [e]
    clear q e hv
    go_enter Try.func24, Try.ntmps24
    go_wp2_with fail
    go_at_call 57; refine (l07Domains_any _ Ds _ HV.out o).mono ?_; rintro e w1 ⟨rfl, m, rfl⟩
    rw [H.out]
    have HB := Lib.hid (below_drewN (Below.refl w.heap.size w) m)
    have HV1 : Hid (LV (w.drewN m) _ Ds) := Lib.hid (HV.out.drewN m)
    go_wp2_with fail
    go_at_call 58; refine (l07All_any _ Ds _ HV1.out OK.out).mono ?_; rintro e w2 ⟨fv, B, sc, G, p, rfl, b2, hf, hs⟩
    have B2 := Lib.hid (HB.out.trans b2)
    obtain ⟨fa, fc, rfl⟩ := SI.len hf
    clear b2 hf hs
    go_wp2_with fail
    go_ret2
    exact ⟨rfl, B2.out⟩
theorem specFirstDiffer_any (v : Value) (Ds : List (List Int)) (w : World) (hv : LV w v Ds) (o : OKL Ds) :
    Calls Try.prog 16 #[v] w (SaysJB (dfL Ds) (dfB Ds) w) := by
  have HV := Lib.hid hv
  obtain ⟨ao, cap, rfl⟩ := hv.long
  cases q : domsB Ds with
  | false =>
    have H := Lib.hid q
    have e : dfL Ds = [] := by unfold dfL; rw [q]; rfl
    have e2 : dfB Ds = false := by unfold dfB; rw [q]; rfl
    rw [e, e2]
    clear q e e2 hv
    go_enter Try.func16, Try.ntmps16
    go_wp2_with fail
    go_at_call 57; refine (l07Domains_any _ Ds _ HV.out o).mono ?_; rintro e w1 ⟨rfl, m, rfl⟩
    rw [H.out]
    go_wp2_with fail
    go_ret2
    exact ⟨_, rfl, SI.nil _ (Nat.le_refl _) _ _, below_drewN (Below.refl _ _) _⟩
  | true =>
    have H := Lib.hid q
    have OK := Lib.hid (domsB_ok q)
    have e : dfL Ds = (dfX Ds).headD [] := by unfold dfL; rw [if_pos q]
    have e2 : dfB Ds = decide (dfX Ds ≠ []) := by unfold dfB; rw [q]; rfl
    rw [e, e2]
    obtain ⟨F, hF⟩ : ∃ F, (dfX Ds).headD [] = F := ⟨_, rfl⟩
    have HF : Hid (hdo (exts nwB Ds Ds.length []) [] = F) := Lib.hid (by rw [← hF]; rfl)
    obtain ⟨b, hbb⟩ : ∃ b, decide (dfX Ds ≠ []) = b := ⟨_, rfl⟩
    obtain ⟨n, hn⟩ : ∃ n, (dfX Ds).length = n := ⟨_, rfl⟩
    have HC : Hid (cntW (exts nwB Ds Ds.length []) = (n : Int)) := Lib.hid (by rw [← hn]; exact cntW_few (Nat.le_trans (dfX_few OK.out) (by omega)))
    have HT : Hid ((n ≠ 0 → b = true) ∧ (n = 0 → b = false ∧ F = [])) := Lib.hid (by
      rw [← hF, ← hbb, ← hn]
      cases hx : dfX Ds with
      | nil => exact ⟨fun h => absurd rfl h, fun _ => ⟨rfl, rfl⟩⟩
      | cons C R => exact ⟨fun _ => by simp, fun h => by simp at h⟩)
    rw [hF, hbb]
    clear q e e2 hv hF hbb hn
    go_enter Try.func16, Try.ntmps16
    go_wp2_with fail
    go_at_call 57; refine (l07Domains_any _ Ds _ HV.out o).mono ?_; rintro e w1 ⟨rfl, m, rfl⟩
    rw [H.out]
    have HB := Lib.hid (below_drewN (Below.refl w.heap.size w) m)
    have HV1 : Hid (LV (w.drewN m) _ Ds) := Lib.hid (HV.out.drewN m)
    go_wp2_with fail
    go_at_call 58; refine (l07All_any _ Ds _ HV1.out OK.out).mono ?_; rintro e w2 ⟨fv, B, sc, G, p, rfl, b2, hf, hs⟩
    have B2 := Lib.hid (HB.out.trans b2)
    have hf2 : II w.heap.size w2.heap.size w2 fv F := HF.out ▸ hf
    have HFF := Lib.hid hf2
    obtain ⟨fa, fc, rfl⟩ := SI.len hf2
    rw [HC.out]
    clear b2 hf hs hf2
    by_cases h0 : n = 0
    · obtain ⟨rfl, rfl⟩ := HT.out.2 h0
      subst h0
      go_wp2_with fail
      go_ret2
      exact ⟨_, rfl, SI.nil _ (Nat.le_refl _) _ _, B2.out⟩
    · obtain rfl : b = true := HT.out.1 h0
      have hz : ((n : Int) == 0) = false := by simpa using h0
      have hz2 : ¬ (n : Int) = 0 := by omega
      clear h0
      go_wp2_with fail
      go_ret2
      exact ⟨_, rfl, HFF.out, B2.out⟩
end Go.Proofs.Ytiobbclciboggaa
