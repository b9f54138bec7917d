/- Sums of singles, from left to right. -/
import Derived.Test.YtimdlnbdnednaabF32s
namespace Go.Proofs.Ytimdlnbdnednaab
open Go.RowKit
attribute [local go_sem] run_add

def Ans32 (C : Option Nat) (w : World) (e : Ending) (w' : World) : Prop := ∃ r n, e = .returned (.float .f32 r) ∧ w' = w.drewN n ∧ Fl.cls .f32 r = C
def sumC (Z : List Nat) : Nat → Option Nat
  | 0 => some 0
  | k + 1 => Fl.arC .add .f32 (sumC Z k) (Fl.cls .f32 (Z.getD k 0))
theorem cls_zero : Fl.cls .f32 0 = some 0 := by decide
def SumAt (Z : List Nat) (k : Nat) (s : Value) : Prop := ∃ r, s = .float .f32 r ∧ Fl.cls .f32 r = sumC Z k
theorem sum_step {Z : List Nat} {k r : Nat} (w : World) (h : Fl.cls .f32 r = sumC Z k) : SumAt Z (k + 1) (.float .f32 (Fl.ares w .add .f32 r (Z.getD k 0))) :=
  ⟨_, rfl, by rw [Fl.cls_ares, h]; rfl⟩

set_option maxHeartbeats 400000 in
theorem l01Sum_any (v : Value) (Z : List Nat) (w : World) (hv : SL w v Z) (hn : Z.length ≤ 1048576) :
    Calls Try.prog 19 #[v] w (Ans32 (sumC Z Z.length) w) := by
  rcases hv with ⟨rfl, ao, cap, rfl⟩ | ⟨b, off, cap, rfl, hpos, hbl, hcell⟩
  · go_enter Try.func19, Try.ntmps19
    go_wp2
    refine wp_loop_rounds 1 ?_
    rw [rounds_succ]
    go_wp2
    refine bodyPost_ret (results_tmp rfl _ _ _) rfl ?_
    exact ⟨_, 0, rfl, rfl, cls_zero⟩
  · go_enter Try.func19, Try.ntmps19
    go_wp2
    go_loopw [3, 4] (fun s i wr => ∃ k : Nat, k ≤ Z.length ∧ i = .int .i64 k ∧ SumAt Z k s ∧ ∃ n, wr = w.drewN n) (fun _ i _ => Z.length - (intOf i).toNat)
    case atStart => exact ⟨0, Nat.zero_le _, rfl, ⟨0, rfl, cls_zero⟩, 0, rfl⟩
    case round =>
      obtain ⟨k, hk, rfl, ⟨r, rfl, hr⟩, n, rfl⟩ := hrel
      have HR := Lib.hid hr
      clear hr
      by_cases hlt : k < Z.length
      · have hc1 := hcell k hlt
        have hst := Lib.hid (fun W => sum_step W HR.out)
        have hg := Lib.hid (getD_at hlt)
        clear hcell
        go_wp2
        go_roundw
        case rel => exact ⟨k + 1, by omega, by go_num, by have h := hst.out (w.drewN n); rw [hg.out] at h; exact h, _, rfl⟩
        case measure => simp [intOf]; omega
      · obtain rfl : k = Z.length := by omega
        clear hcell
        go_wp2
        refine bodyPost_ret (results_tmp rfl _ _ _) rfl ?_
        exact ⟨_, _, rfl, rfl, HR.out⟩
def Ans32b (C : Option Nat) (w : World) (e : Ending) (w' : World) : Prop := ∃ r n, e = .returned (.tuple #[.float .f32 r, .bool true]) ∧ w' = w.drewN n ∧ Fl.cls .f32 r = C

theorem specSum_any (v : Value) (Z : List Nat) (w : World) (hv : SL w v Z) (hn : Z.length ≤ 256) :
    Calls Try.prog 9 #[v] w (Ans32b (sumC Z Z.length) w) := by
  have H := Lib.hid hv
  have hd : decide ((Z.length : Int) ≤ 256) = true := by simp; omega
  rcases hv with ⟨rfl, ao, cap, rfl⟩ | ⟨b, off, cap, rfl, hpos, hbl, hcell⟩
  · clear hd
    go_enter Try.func9, Try.ntmps9
    go_wp2_with (first | (go_at_call 19; refine (l01Sum_any _ [] _ H.out (by simp)).mono ?_; rintro e w' ⟨r, n, rfl, rfl, hc⟩; have HC := Lib.hid hc; clear hc) | (go_at_call 18; go_in))
    refine bodyPost_ret (results_tmp2 rfl _ _ _) rfl ?_
    exact ⟨_, _, rfl, rfl, Hid.out (by assumption)⟩
  · clear hcell
    go_enter Try.func9, Try.ntmps9
    go_wp2_with (first | (go_at_call 19; refine (l01Sum_any _ Z _ H.out (by omega)).mono ?_; rintro e w' ⟨r, n, rfl, rfl, hc⟩; have HC := Lib.hid hc; clear hc) | (go_at_call 18; go_in))
    refine bodyPost_ret (results_tmp2 rfl _ _ _) rfl ?_
    exact ⟨_, _, rfl, rfl, Hid.out (by assumption)⟩
end Go.Proofs.Ytimdlnbdnednaab
