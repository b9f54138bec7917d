/- eqFloat32S is true of two slices that read as the same singles. -/
import Derived.Test.YtajekehidofkiaaF32s
import Derived.Deep.QuietTactic
import Derived.BigQuiet
import Derived.BigRegion
import Derived.Deep.RegionWith
namespace Go.Proofs.Ytajekehidofkiaa
open Go.RowKit
attribute [local go_sem] Fl.run_widen

set_option maxHeartbeats 2000000 in
theorem eqF32_num (b1 off1 cap1 b2 off2 cap2 : Nat) (Z : List Nat) (w : World) (hn : Z.length ≤ 1048576) (hc1 : ∀ i, i < Z.length → w.cell? ⟨b1, off1 + i, none⟩ = some (.float .f32 (Z.getD i 0))) (hc2 : ∀ i, i < Z.length → w.cell? ⟨b2, off2 + i, none⟩ = some (.float .f32 (Z.getD i 0))) :
    Calls Try.prog 32 #[.slice (some ⟨b1, off1, none⟩) Z.length cap1, .slice (some ⟨b2, off2, none⟩) Z.length cap2] w fun e w' => e = .returned (.bool true) ∧ ∃ n, w' = w.drewN n := by
  go_enter Try.func32, Try.ntmps32
  go_wp2
  go_loopw [5] (fun i wr => ∃ k : Nat, k ≤ Z.length ∧ i = .int .i64 k ∧ ∃ n, wr = w.drewN n) (fun i _ => Z.length - (intOf i).toNat)
  case atStart => exact ⟨0, Nat.zero_le _, rfl, 0, rfl⟩
  case round =>
    obtain ⟨k, hk, rfl, hwr⟩ := hrel
    by_cases hlt : k < Z.length
    · have c1 : wr.cell? ⟨b1, off1 + k, none⟩ = some (.float .f32 (Z.getD k 0)) := by obtain ⟨n, rfl⟩ := hwr; exact hc1 k hlt
      have c2 : wr.cell? ⟨b2, off2 + k, none⟩ = some (.float .f32 (Z.getD k 0)) := by obtain ⟨n, rfl⟩ := hwr; exact hc2 k hlt
      have HW : Hid (∀ m, ∃ n, wr.drewN m = w.drewN n) := Lib.hid (fun m => by obtain ⟨n, rfl⟩ := hwr; exact ⟨n + m, World.drewN_drewN _ _ _⟩)
      clear hc1 hc2 hwr
      rw [getD_at hlt] at c1 c2
      generalize Z[k] = z at c1 c2
      go_wp2
      go_region_with ((go_at_call 61; refine (same_any _ _ (by rw [Fl.cls_wres, Fl.cls_wres]) _).mono ?_; rintro e w' ⟨rfl, n, rfl⟩))
      all_goals
        go_wp2
        go_roundw
        case rel => exact ⟨k + 1, by omega, by go_num, HW.out _⟩
        case measure => simp [intOf]; omega
    · obtain rfl : k = Z.length := by omega
      have HW := Lib.hid hwr
      clear hc1 hc2 hwr
      go_wp2
      go_ret
      exact ⟨rfl, HW.out⟩
theorem eqF32_any (v1 v2 : Value) (Z : List Nat) (w : World) (hn : Z.length ≤ 1048576) (h1 : SL w v1 Z) (h2 : SL w v2 Z) :
    Calls Try.prog 32 #[v1, v2] w fun e w' => e = .returned (.bool true) ∧ ∃ n, w' = w.drewN n := by
  rcases h1 with ⟨rfl, ao, cap, rfl⟩ | ⟨b, off, cap, rfl, hpos, hbl, hcell⟩
  · rcases h2 with ⟨_, ao2, cap2, rfl⟩ | ⟨b2, off2, cap2, rfl, hpos2, hbl2, hcell2⟩
    · go_enter Try.func32, Try.ntmps32
      go_wp2
      refine wp_loop_rounds 1 ?_
      rw [rounds_succ]
      go_wp2
      go_ret
      exact ⟨rfl, 0, rfl⟩
    · exact absurd hpos2 (by simp)
  · rcases h2 with ⟨rfl, ao2, cap2, rfl⟩ | ⟨b2, off2, cap2, rfl, hpos2, hbl2, hcell2⟩
    · exact absurd hpos (by simp)
    · exact eqF32_num _ _ _ _ _ _ Z w hn hcell hcell2
end Go.Proofs.Ytajekehidofkiaa
