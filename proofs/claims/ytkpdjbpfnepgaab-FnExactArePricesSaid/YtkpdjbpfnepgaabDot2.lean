/- Sums of products of two lists of singles, on both sides. -/
import Derived.Test.YtkpdjbpfnepgaabF32s
import Derived.Deep.QuietTactic
import Derived.BigQuiet
import Derived.BigRegion
import Derived.Deep.RegionWith
namespace Go.Proofs.Ytkpdjbpfnepgaab
open Go.RowKit
attribute [local go_sem] run_add run_mul

def Ans32 (C : Option Nat) (w : World) (e : Ending) (w' : World) : Prop := ∃ r n, e = .returned (.float .f32 r) ∧ w' = w.drewN n ∧ Fl.cls .f32 r = C
theorem cls_zero : Fl.cls .f32 0 = some 0 := by decide
def Ans32b (C : Option Nat) (w : World) (e : Ending) (w' : World) : Prop := ∃ r n, e = .returned (.tuple #[.float .f32 r, .bool true]) ∧ w' = w.drewN n ∧ Fl.cls .f32 r = C
def dotC (Y Z : List Nat) : Nat → Option Nat
  | 0 => some 0
  | k + 1 => Fl.arC .add .f32 (dotC Y Z k) (Fl.arC .mul .f32 (Fl.cls .f32 (Y.getD k 0)) (Fl.cls .f32 (Z.getD k 0)))
def DotAt (Y Z : List Nat) (k : Nat) (s : Value) : Prop := ∃ r, s = .float .f32 r ∧ Fl.cls .f32 r = dotC Y Z k
theorem dot_step {Y Z : List Nat} {k r : Nat} (w w' : World) (h : Fl.cls .f32 r = dotC Y Z k) : DotAt Y Z (k + 1) (.float .f32 (Fl.ares w .add .f32 r (Fl.ares w' .mul .f32 (Y.getD k 0) (Z.getD k 0)))) :=
  ⟨_, rfl, by rw [Fl.cls_ares, Fl.cls_ares, h]; rfl⟩

set_option maxHeartbeats 2000000 in
theorem l02Dot_num (b off cap b2 off2 cap2 : Nat) (Y Z : List Nat) (w : World) (hn : Y.length ≤ 1048576) (he : Y.length = Z.length)
    (hc1 : ∀ i, i < Y.length → w.cell? ⟨b, off + i, none⟩ = some (.float .f32 (Y.getD i 0))) (hc2 : ∀ i, i < Z.length → w.cell? ⟨b2, off2 + i, none⟩ = some (.float .f32 (Z.getD i 0))) :
    Calls Try.prog 57 #[.slice (some ⟨b, off, none⟩) Y.length cap, .slice (some ⟨b2, off2, none⟩) Z.length cap2] w (Ans32 (dotC Y Z Y.length) w) := by
  have hn2 : Z.length ≤ 1048576 := by omega
  have h12 : Y.length ≤ Z.length := by omega
  clear he
  go_enter Try.func57, Try.ntmps57
  go_wp2
  go_loopw [5, 6] (fun s i wr => ∃ k : Nat, k ≤ Y.length ∧ i = .int .i64 k ∧ DotAt Y Z k s ∧ ∃ n, wr = w.drewN n) (fun _ i _ => Y.length - (intOf i).toNat)
  case atStart => exact ⟨0, Nat.zero_le _, rfl, ⟨0, rfl, cls_zero⟩, 0, rfl⟩
  case round =>
    obtain ⟨k, hk, rfl, ⟨r, rfl, hr⟩, hwr⟩ := hrel
    have HR := Lib.hid hr
    clear hr
    by_cases hlt : k < Y.length
    · have hlt2 : k < Z.length := by omega
      have c1 : wr.cell? ⟨b, off + k, none⟩ = some (.float .f32 (Y.getD k 0)) := by obtain ⟨n, rfl⟩ := hwr; exact hc1 k hlt
      have c2 : wr.cell? ⟨b2, off2 + k, none⟩ = some (.float .f32 (Z.getD k 0)) := by obtain ⟨n, rfl⟩ := hwr; exact hc2 k (by omega)
      have HW : Hid (∀ m, ∃ n, wr.drewN m = w.drewN n) := Lib.hid (fun m => by obtain ⟨n, rfl⟩ := hwr; exact ⟨n + m, World.drewN_drewN _ _ _⟩)
      have hst := Lib.hid (fun W W' => dot_step (Y := Y) (Z := Z) W W' HR.out)
      generalize Y.getD k 0 = y at c1 hst
      generalize Z.getD k 0 = z at c2 hst
      clear hc1 hc2 hwr
      go_wp2
      go_region_with (fail)
      all_goals
        go_wp2
        go_roundw
        case rel => exact ⟨k + 1, by omega, by go_num, hst.out _ _, HW.out _⟩
        case measure => simp [intOf]; omega
    · obtain rfl : k = Y.length := by omega
      have HW := Lib.hid hwr
      clear hc1 hc2 hwr
      go_wp2
      refine bodyPost_ret (results_tmp rfl _ _ _) rfl ?_
      obtain ⟨n, hn⟩ := HW.out
      exact ⟨_, n, rfl, hn, HR.out⟩
set_option maxHeartbeats 1000000 in
theorem implDot_num (b off cap b2 off2 cap2 : Nat) (Y Z : List Nat) (w : World) (hn : Y.length ≤ 256) (he : Y.length = Z.length)
    (hc1 : ∀ i, i < Y.length → w.cell? ⟨b, off + i, none⟩ = some (.float .f32 (Y.getD i 0))) (hc2 : ∀ i, i < Z.length → w.cell? ⟨b2, off2 + i, none⟩ = some (.float .f32 (Z.getD i 0))) :
    Calls Try.prog 123 #[.slice (some ⟨b, off, none⟩) Y.length cap, .slice (some ⟨b2, off2, none⟩) Z.length cap2] w (Ans32b (dotC Y Z Y.length) w) := by
  have hn2 : Z.length ≤ 256 := by omega
  have h12 : Y.length ≤ Z.length := by omega
  have h21 : Z.length ≤ Y.length := by omega
  have hne : ((Y.length : Int) != (Z.length : Int)) = false := by simp; omega
  clear he
  go_enter Try.func123, Try.ntmps123
  go_wp2
  go_loopw [6, 21] (fun s i wr => ∃ k : Nat, k ≤ Y.length ∧ i = .int .i64 k ∧ DotAt Y Z k s ∧ ∃ n, wr = w.drewN n) (fun _ i _ => Y.length - (intOf i).toNat)
  case atStart => exact ⟨0, Nat.zero_le _, rfl, ⟨0, rfl, cls_zero⟩, 0, rfl⟩
  case round =>
    obtain ⟨k, hk, rfl, ⟨r, rfl, hr⟩, hwr⟩ := hrel
    have HR := Lib.hid hr
    clear hr
    by_cases hlt : k < Y.length
    · have hlt2 : k < Z.length := by omega
      have c1 : wr.cell? ⟨b, off + k, none⟩ = some (.float .f32 (Y.getD k 0)) := by obtain ⟨n, rfl⟩ := hwr; exact hc1 k hlt
      have c2 : wr.cell? ⟨b2, off2 + k, none⟩ = some (.float .f32 (Z.getD k 0)) := by obtain ⟨n, rfl⟩ := hwr; exact hc2 k (by omega)
      have HW : Hid (∀ m, ∃ n, wr.drewN m = w.drewN n) := Lib.hid (fun m => by obtain ⟨n, rfl⟩ := hwr; exact ⟨n + m, World.drewN_drewN _ _ _⟩)
      have hst := Lib.hid (fun W W' => dot_step (Y := Y) (Z := Z) W W' HR.out)
      generalize Y.getD k 0 = y at c1 hst
      generalize Z.getD k 0 = z at c2 hst
      clear hc1 hc2 hwr
      go_wp2
      go_roundw
      case rel => exact ⟨k + 1, by omega, by go_num, hst.out _ _, HW.out _⟩
      case measure => simp [intOf]; omega
    · obtain rfl : k = Y.length := by omega
      have HW := Lib.hid hwr
      clear hc1 hc2 hwr
      go_wp2
      refine bodyPost_ret (results_tmp2 rfl _ _ _) rfl ?_
      obtain ⟨n, hn⟩ := HW.out
      exact ⟨_, n, rfl, hn, HR.out⟩

theorem l02Dot_any (v u : Value) (Y Z : List Nat) (w : World) (hv : SL w v Y) (hu : SL w u Z) (hn : Y.length ≤ 1048576) (he : Y.length = Z.length) :
    Calls Try.prog 57 #[v, u] w (Ans32 (dotC Y Z Y.length) w) := by
  rcases hv with ⟨rfl, ao, cap, rfl⟩ | ⟨b, off, cap, rfl, hpos, hbl, hcell⟩
  · have hz : Z = [] := List.eq_nil_of_length_eq_zero (by rw [← he]; rfl)
    subst hz
    rcases hu with ⟨-, ao2, cap2, rfl⟩ | ⟨b2, off2, cap2, rfl, hpos2, -, -⟩
    · clear he
      go_enter Try.func57, Try.ntmps57
      go_wp2
      refine wp_loop_rounds 1 ?_
      rw [rounds_succ]
      go_wp2
      refine bodyPost_ret (results_tmp rfl _ _ _) rfl ?_
      exact ⟨_, 0, rfl, rfl, cls_zero⟩
    · exact absurd hpos2 (by simp)
  · rcases hu with ⟨rfl, ao2, cap2, rfl⟩ | ⟨b2, off2, cap2, rfl, hpos2, hbl2, hcell2⟩
    · rw [he] at hpos; exact absurd hpos (by simp)
    · exact l02Dot_num _ _ _ _ _ _ Y Z w hn he hcell hcell2
theorem implDot_zero (ao ao2 : Option Addr) (cap cap2 : Nat) (w : World) :
    Calls Try.prog 123 #[.slice ao 0 cap, .slice ao2 0 cap2] w (Ans32b (some 0) w) := by
  go_enter Try.func123, Try.ntmps123
  go_wp2
  refine wp_loop_rounds 1 ?_
  rw [rounds_succ]
  go_wp2
  refine bodyPost_ret (results_tmp2 rfl _ _ _) rfl ?_
  exact ⟨_, 0, rfl, rfl, cls_zero⟩
theorem implDot_yes (v u : Value) (Y Z : List Nat) (w : World) (hv : SL w v Y) (hu : SL w u Z) (h1 : Y.length ≤ 256) (h2 : Y.length = Z.length) :
    Calls Try.prog 123 #[v, u] w (Ans32b (dotC Y Z Y.length) w) := by
  rcases hv with ⟨rfl, ao, cap, rfl⟩ | ⟨b, off, cap, rfl, hpos, hbl, hcell⟩
  · have hz : Z = [] := List.eq_nil_of_length_eq_zero (by rw [← h2]; rfl)
    subst hz
    rcases hu with ⟨-, ao2, cap2, rfl⟩ | ⟨b2, off2, cap2, rfl, hpos2, -, -⟩
    · exact implDot_zero ao ao2 cap cap2 w
    · exact absurd hpos2 (by simp)
  · rcases hu with ⟨rfl, ao2, cap2, rfl⟩ | ⟨b2, off2, cap2, rfl, hpos2, hbl2, hcell2⟩
    · rw [h2] at hpos; exact absurd hpos (by simp)
    · exact implDot_num _ _ _ _ _ _ Y Z w h1 h2 hcell hcell2
end Go.Proofs.Ytkpdjbpfnepgaab
