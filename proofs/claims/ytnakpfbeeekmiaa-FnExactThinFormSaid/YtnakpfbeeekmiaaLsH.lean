/- Lists of lists: what their marks hold. -/
import Derived.Test.YtnakpfbeeekmiaaLsM
namespace Go.Proofs.Ytnakpfbeeekmiaa
open Go.RowKit Go.ChangeShapes Go.WideShapes

set_option maxHeartbeats 800000 in
theorem heldSS_any (v : Value) (k : Int) (C : List (List Int)) (w : World) (hv : LV w v (marksL k C)) (o : szL C ≤ 1048576) (hk0 : 0 ≤ k) (hk1 : k ≤ 549755813888) :
    Calls Try.prog 31 #[v, .int .i64 k] w (fun e w' => e = .returned (.int .i64 (k + (totAt C C.length : Nat))) ∧ Below w.heap.size w w') := by
  have hn : C.length ≤ 1048576 := Nat.le_trans (szL_len C) o
  have ho : totAt C C.length ≤ 1048576 := by unfold szL at o; omega
  have hlen := marksL_len k C
  rcases hv with ⟨h0, ao, cap, rfl⟩ | ⟨b, off, cap, U, rfl, hpos, hbl, hcell⟩
  · have h1 : C.length = 0 := by rw [← hlen, h0]; rfl
    have h2 : totAt C C.length = 0 := by rw [h1]; rfl
    rw [h2]
    clear h0 hlen
    go_enter Try.func31, Try.ntmps31
    go_wp2
    refine wp_loop_rounds 1 ?_
    rw [rounds_succ]
    go_wp2
    go_ret
    exact ⟨by simp, Below.refl _ _⟩
  · rw [hlen] at hcell hpos ⊢
    have HC : Hid (∀ W, Below w.heap.size w W → ∀ j, j < C.length → W.cell? ⟨b, off + j, none⟩ = some (U j) ∧ IL W (U j) (marksI (k + (totAt C j : Nat)) (C.getD j []).length)) := Lib.hid fun W hb j hj => by
      have h := hcell j (by omega)
      rw [marksL_at hj] at h
      exact ⟨by rw [hb.cell (p := ⟨b, off + j, none⟩) hbl]; exact h.1, h.2.below hb (Nat.le_refl _)⟩
    clear hcell hlen
    go_enter Try.func31, Try.ntmps31
    go_wp2
    go_loopw [1, 5] (fun kk i wr => ∃ j : Nat, j ≤ C.length ∧ i = .int .i64 j ∧ kk = .int .i64 (k + (totAt C j : Nat)) ∧ Below w.heap.size w wr) (fun _ i _ => C.length - (intOf i).toNat)
    case atStart => exact ⟨0, Nat.zero_le _, rfl, by simp [totAt], Below.refl _ _⟩
    case round =>
      obtain ⟨j, hj, rfl, rfl, hM⟩ := hrel
      by_cases hlt : j < C.length
      · obtain ⟨c0, i0⟩ := HC.out _ hM j hlt
        have HI := Lib.hid i0
        have HM := Lib.hid hM
        obtain ⟨n, hZ⟩ : ∃ n, n = (C.getD j []).length := ⟨_, rfl⟩
        have hz : n ≤ szL C := by rw [hZ]; exact szL_each hlt
        rw [← hZ] at HI
        have hm := totAt_le (C := C) hj
        have ht : totAt C (j + 1) = totAt C j + n := by rw [hZ]; rfl
        have HT := Lib.hid ht
        obtain ⟨t, htt⟩ : ∃ t, t = totAt C j := ⟨_, rfl⟩
        have HTT := Lib.hid htt
        rw [← htt] at hm HI ⊢
        generalize U j = u at c0 HI
        clear hM ht hZ htt i0
        go_wp2_with fail
        go_at_call 22; refine (heldI64_says _ _ n _ HI.out (by omega) (by omega) (by omega)).mono ?_; rintro e w2 ⟨rfl, b2⟩
        have H2 := Lib.hid (HM.out.trans (b2.mono HM.out.size))
        have hneg : decide (k + (t : Int) + (n : Int) < 0) = false := by simp; omega
        clear b2 HI HM c0
        go_wp2_with fail
        go_roundw
        case rel => exact ⟨j + 1, by omega, by go_num, by rw [HT.out, ← HTT.out]; go_num, H2.out⟩
        case measure => simp [intOf]; omega
      · obtain rfl : j = C.length := by omega
        have HM := Lib.hid hM
        clear hM
        go_wp2
        go_ret
        exact ⟨rfl, HM.out⟩
end Go.Proofs.Ytnakpfbeeekmiaa
