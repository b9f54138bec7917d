/- ShrinkList: the model's side. -/
import Derived.Test.YtcnfmphokobgiaaLawF
import Derived.Test.YtcnfmphokobgiaaSh0
import Derived.Test.YtcnfmphokobgiaaGrw
import Derived.Deep.LoopGhost
import Derived.Outline
namespace Go.Proofs.Ytcnfmphokobgiaa
open Go.RowKit Go.ChangeShapes Go.WideShapes
attribute [local go_sem] run_negF

theorem l06Floats_any (v : Value) (Z : List Nat) (w : World) (hv : SL w v Z) (hn : Z.length ≤ 1048576) :
    Calls Try.prog 89 #[v] w (Tells (decide (1 ≤ Z.length) && (decide (Z.length ≤ 64) && finAll Z)) w) := by
  have HV := Lib.hid hv
  obtain ⟨ao, cap, rfl⟩ := hv.long'
  clear hv
  by_cases h1 : 1 ≤ Z.length
  · have i1 : (1 : Int) ≤ (Z.length : Int) := by omega
    by_cases h2 : Z.length ≤ 64
    · have i2 : (Z.length : Int) ≤ 64 := by omega
      rw [decide_eq_true h1, decide_eq_true h2, Bool.true_and, Bool.true_and]
      go_enter Try.func89, Try.ntmps89
      go_wp2_with fail
      go_at_call 130; refine (l02Finite_any _ Z _ HV.out hn).mono ?_; rintro e w2 ⟨rfl, n2, rfl⟩
      go_wp2_with fail
      go_ret
      exact tells _ rfl
    · have i2 : ¬ (Z.length : Int) ≤ 64 := by omega
      rw [decide_eq_false h2, Bool.false_and, Bool.and_false]
      go_enter Try.func89, Try.ntmps89
      go_wp2_with fail
      go_ret
      exact tells 0 rfl
  · have i1 : ¬ (1 : Int) ≤ (Z.length : Int) := by omega
    rw [decide_eq_false h1, Bool.false_and]
    go_enter Try.func89, Try.ntmps89
    go_wp2_with fail
    go_ret
    exact tells 0 rfl
theorem floats_is (t : Bool) (v : Value) (Z : List Nat) (w : World) (hv : SL w v Z) (hn : Z.length ≤ 1048576) (h : (decide (1 ≤ Z.length) && (decide (Z.length ≤ 64) && finAll Z)) = t) :
    Calls Try.prog 89 #[v] w (Tells t w) := by subst h; exact l06Floats_any v Z w hv hn
theorem least_is (t : Bool) (x : Nat) (w : World) (h : leastB x = t) : Calls Try.prog 90 #[.float .f32 x] w (Tells t w) := by subst h; exact l02Least_any x w

set_option maxRecDepth 100000 in
set_option maxHeartbeats 4000000 in
theorem l06Shrink_any (v : Value) (Z : List Nat) (b : Nat) (w : World) (hv : SL w v Z) (hn0 : 1 ≤ Z.length) (hn : Z.length ≤ 64) (hf : finAll Z = true) (hb : fin32 b = true) :
    Calls Try.prog 91 #[v, .float .f32 b] w (Made (Value.float .f32) (0 : Nat) (Z.map (shS b)) w) := by
  obtain ⟨i0, hi, hz0, hz1, hz2⟩ := info_parts Try.infoF
  have HF := Lib.hid hf
  have HFB := Lib.hid hb
  rcases hv with ⟨rfl, -⟩ | ⟨bb, off, cap, rfl, hpos, hbl, hcell⟩
  · exact absurd hn0 (by simp)
  have HC := Lib.hid hcell
  clear hcell hf hb
  go_enter Try.func91, Try.ntmps91
  go_wp2_with fail
  go_loopg [5, 6] Z.length (fun gk v i wr => ∃ k : Nat, k ≤ Z.length ∧ gk + k = Z.length ∧ i = .int .i64 k ∧ Below w.heap.size w wr ∧ Grows (Value.float .f32) 50 w.heap.size v (shT (shS b) Z k) wr)
  case atStart => exact ⟨0, Nat.zero_le _, by omega, rfl, below_alloc _ _, Grows.empty _ _ _ _ (Nat.le_refl _)⟩
  case round =>
    obtain ⟨k, hk, hgk, rfl, hB, hG⟩ := hrel
    have HB := Lib.hid hB
    have HG := Lib.hid hG
    have HML := Lib.hid (shT_len (f := shS b) hk)
    clear hB hG
    by_cases hlt : k < Z.length
    · have HUP := Lib.hid (shT_up (f := shS b) hlt)
      have HX := Lib.hid (fin_at HF.out hlt)
      have y0 : wr.cell? ⟨bb, off + k, none⟩ = some (.float .f32 (Z.getD k 0)) := by rw [HB.out.cell (p := ⟨bb, off + k, none⟩) hbl]; exact HC.out k hlt
      have hsz := HB.out.size
      generalize Z.getD k 0 = x at y0 HX HUP
      have rs := fun W => run_subF (P := Try.prog) HX.out HFB.out 50 W
      have ra := fun W => run_addF (P := Try.prog) HX.out HFB.out 50 W
      have HSH : Hid (shS b x = bif ltB x (negF b) then addF x b else (bif gtB x b then subF x b else 0)) := Lib.hid rfl
      generalize shS b x = q at HUP HSH
      cases h1 : gtB x b with
      | true =>
        rw [h1, cond_true] at HSH
        unfold gtB at h1
        cases h2 : ltB x (negF b) with
        | true =>
          rw [h2, cond_true] at HSH
          unfold ltB at h2
          obtain rfl := HSH.out.symm
          go_wp2_with (at_builtin; refine wpList_append_own _ rfl _ _ 49 rfl w.heap.size 50 i0 (.float .f32 0) 1 4 Try.underlying49 hi hz0 hz1 hz2 rfl (by decide) _ _ _ rfl (Grows.alloc HG.out _) ⟨wr.heap.size, 0, none⟩ 1 1 [.float .f32 (addF x b)] rfl rfl one_new (by intro u hu; simp at hu; subst hu; rfl) (by rw [HML.out]; unfold maxLen; omega) (by rw [HML.out]; omega) (by simp; omega) ?_)
          intro v' w' hown hgrow _
          have HN2 : Hid (Below w.heap.size w w' ∧ Grows (Value.float .f32) 50 w.heap.size v' (shT (shS b) Z (k + 1)) w') := Lib.hid ⟨(HB.out.alloc HB.out.size _).grown hgrow (by simp; omega) (fun g hg => HG.out.block g hg), by rw [HUP.out]; exact Grows.more (news := [addF x b]) rfl hown⟩
          clear hown hgrow
          go_wp2_with fail
          go_roundg (gk - 1)
          case measure => omega
          case rel => exact ⟨k + 1, by omega, by omega, by go_num, HN2.out.1, HN2.out.2⟩
        | false =>
          rw [h2, cond_false] at HSH
          unfold ltB at h2
          clear ra
          obtain rfl := HSH.out.symm
          go_wp2_with (at_builtin; refine wpList_append_own _ rfl _ _ 49 rfl w.heap.size 50 i0 (.float .f32 0) 1 4 Try.underlying49 hi hz0 hz1 hz2 rfl (by decide) _ _ _ rfl (Grows.alloc HG.out _) ⟨wr.heap.size, 0, none⟩ 1 1 [.float .f32 (subF x b)] rfl rfl one_new (by intro u hu; simp at hu; subst hu; rfl) (by rw [HML.out]; unfold maxLen; omega) (by rw [HML.out]; omega) (by simp; omega) ?_)
          intro v' w' hown hgrow _
          have HN2 : Hid (Below w.heap.size w w' ∧ Grows (Value.float .f32) 50 w.heap.size v' (shT (shS b) Z (k + 1)) w') := Lib.hid ⟨(HB.out.alloc HB.out.size _).grown hgrow (by simp; omega) (fun g hg => HG.out.block g hg), by rw [HUP.out]; exact Grows.more (news := [subF x b]) rfl hown⟩
          clear hown hgrow
          go_wp2_with fail
          go_roundg (gk - 1)
          case measure => omega
          case rel => exact ⟨k + 1, by omega, by omega, by go_num, HN2.out.1, HN2.out.2⟩
      | false =>
        rw [h1, cond_false] at HSH
        unfold gtB at h1
        clear rs
        cases h2 : ltB x (negF b) with
        | true =>
          rw [h2, cond_true] at HSH
          unfold ltB at h2
          obtain rfl := HSH.out.symm
          go_wp2_with (at_builtin; refine wpList_append_own _ rfl _ _ 49 rfl w.heap.size 50 i0 (.float .f32 0) 1 4 Try.underlying49 hi hz0 hz1 hz2 rfl (by decide) _ _ _ rfl (Grows.alloc HG.out _) ⟨wr.heap.size, 0, none⟩ 1 1 [.float .f32 (addF x b)] rfl rfl one_new (by intro u hu; simp at hu; subst hu; rfl) (by rw [HML.out]; unfold maxLen; omega) (by rw [HML.out]; omega) (by simp; omega) ?_)
          intro v' w' hown hgrow _
          have HN2 : Hid (Below w.heap.size w w' ∧ Grows (Value.float .f32) 50 w.heap.size v' (shT (shS b) Z (k + 1)) w') := Lib.hid ⟨(HB.out.alloc HB.out.size _).grown hgrow (by simp; omega) (fun g hg => HG.out.block g hg), by rw [HUP.out]; exact Grows.more (news := [addF x b]) rfl hown⟩
          clear hown hgrow
          go_wp2_with fail
          go_roundg (gk - 1)
          case measure => omega
          case rel => exact ⟨k + 1, by omega, by omega, by go_num, HN2.out.1, HN2.out.2⟩
        | false =>
          rw [h2, cond_false] at HSH
          unfold ltB at h2
          clear ra
          obtain rfl := HSH.out.symm
          go_wp2_with (at_builtin; refine wpList_append_own _ rfl _ _ 49 rfl w.heap.size 50 i0 (.float .f32 0) 1 4 Try.underlying49 hi hz0 hz1 hz2 rfl (by decide) _ _ _ rfl (Grows.alloc HG.out _) ⟨wr.heap.size, 0, none⟩ 1 1 [.float .f32 (0)] rfl rfl one_new (by intro u hu; simp at hu; subst hu; rfl) (by rw [HML.out]; unfold maxLen; omega) (by rw [HML.out]; omega) (by simp; omega) ?_)
          intro v' w' hown hgrow _
          have HN2 : Hid (Below w.heap.size w w' ∧ Grows (Value.float .f32) 50 w.heap.size v' (shT (shS b) Z (k + 1)) w') := Lib.hid ⟨(HB.out.alloc HB.out.size _).grown hgrow (by simp; omega) (fun g hg => HG.out.block g hg), by rw [HUP.out]; exact Grows.more (news := [0]) rfl hown⟩
          clear hown hgrow
          go_wp2_with fail
          go_roundg (gk - 1)
          case measure => omega
          case rel => exact ⟨k + 1, by omega, by omega, by go_num, HN2.out.1, HN2.out.2⟩
    · obtain rfl : k = Z.length := by omega
      go_wp2_with fail
      refine bodyPost_ret (results_tmp rfl _ _ _) rfl ?_
      exact ⟨_, rfl, by have h := HG.out.si (d := (0 : Nat)); rw [shT_all] at h; exact h, HB.out⟩

theorem specShrinkList_any (v : Value) (Z : List Nat) (b : Nat) (w : World) (hv : SL w v Z) (oZ : OKF Z) (_ : b < 4294967296) :
    Calls Try.prog 41 #[v, .float .f32 b] w (SaysLB (shL Z b) (okSh Z b) w) := by
  have hn := oZ.size
  have HV := Lib.hid hv
  obtain ⟨ao, cap, rfl⟩ := hv.long'
  unfold shL okSh
  clear hv
  cases h : (decide (1 ≤ Z.length) && (decide (Z.length ≤ 64) && finAll Z)) with
  | false =>
    have H := Lib.hid h
    clear h
    go_enter Try.func41, Try.ntmps41
    go_wp2_with fail
    go_at_call 89; refine (floats_is false _ Z _ HV.out hn H.out).mono ?_; rintro e w1 ⟨rfl, n1, rfl⟩
    go_wp2_with fail
    go_ret2
    exact ⟨_, rfl, SI.nil _ (Nat.le_refl _) _ _, below_drewN (Below.refl _ _) _⟩
  | true =>
    have H := Lib.hid h
    simp only [Bool.and_eq_true, decide_eq_true_eq] at h
    obtain ⟨hn0, hn1, hfa⟩ := h
    have HFA := Lib.hid hfa
    cases h2 : leastB b with
    | false =>
      have H2 := Lib.hid h2
      clear hfa h2
      go_enter Try.func41, Try.ntmps41
      go_wp2_with fail
      go_at_call 89; refine (floats_is true _ Z _ HV.out hn H.out).mono ?_; rintro e w1 ⟨rfl, n1, rfl⟩
      go_wp2_with fail
      go_at_call 90; refine (least_is false _ _ H2.out).mono ?_; rintro e w2 ⟨rfl, n2, rfl⟩
      go_wp2_with fail
      go_ret2
      exact ⟨_, rfl, SI.nil _ (Nat.le_refl _) _ _, below_drewN (Below.refl _ _) _⟩
    | true =>
      have H2 := Lib.hid h2
      have HFB : Hid (fin32 b = true) := Lib.hid (by unfold leastB at h2; simp only [Bool.and_eq_true] at h2; exact h2.1)
      have HE : Hid (Z.map (shS b) = Z.map (shI b)) := Lib.hid (List.map_congr_left fun x hx => sh_is h2 (by unfold finAll at hfa; exact List.all_eq_true.1 hfa x hx))
      clear hfa h2
      go_enter Try.func41, Try.ntmps41
      go_wp2_with fail
      go_at_call 89; refine (floats_is true _ Z _ HV.out hn H.out).mono ?_; rintro e w1 ⟨rfl, n1, rfl⟩
      go_wp2_with fail
      go_at_call 90; refine (least_is true _ _ H2.out).mono ?_; rintro e w2 ⟨rfl, n2, rfl⟩
      go_wp2_with fail
      go_at_call 91; refine (l06Shrink_any _ Z b (w.drewN (n1 + n2)) (show SL (w.drewN (n1 + n2)) _ Z from HV.out) hn0 hn1 HFA.out HFB.out).mono ?_; rintro e w3 ⟨q, rfl, hq, hb3⟩
      have HQ := Lib.hid hq
      have HB3 := Lib.hid hb3
      clear hq hb3
      go_wp2_with fail
      go_ret2
      refine ⟨_, rfl, ?_, ?_⟩
      · show FI w.heap.size w3.heap.size w3 q (Z.map (shI b))
        rw [← HE.out]; exact HQ.out
      · exact (below_drewN (Below.refl w.heap.size w) _).trans HB3.out
end Go.Proofs.Ytcnfmphokobgiaa
