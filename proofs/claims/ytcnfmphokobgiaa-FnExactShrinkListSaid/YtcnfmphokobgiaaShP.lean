/- ShrinkList: the program's side. -/
import Derived.Test.YtcnfmphokobgiaaShI
namespace Go.Proofs.Ytcnfmphokobgiaa
open Go.RowKit Go.ChangeShapes Go.WideShapes

theorem shrinkable_is (t : Bool) (v : Value) (Z : List Nat) (w : World) (hv : SL w v Z) (hn : Z.length ≤ 1048576) (h : (decide (1 ≤ Z.length) && (decide (Z.length ≤ 64) && finAll Z)) = t) :
    Calls Try.prog 92 #[v] w (Tells t w) := by subst h; exact implShrinkable_any v Z w hv hn
theorem share_is (t : Bool) (x : Nat) (w : World) (h : leastB x = t) : Calls Try.prog 93 #[.float .f32 x] w (Tells t w) := by subst h; exact implShare_any x w
theorem implShrink_no1 (v : Value) (Z : List Nat) (b : Nat) (w : World) (hv : SL w v Z) (hn : Z.length ≤ 1048576) (h : (decide (1 ≤ Z.length) && (decide (Z.length ≤ 64) && finAll Z)) = false) :
    Calls Try.prog 43 #[v, .float .f32 b] w (SaysLB [] false w) := by
  have HV := Lib.hid hv
  have H := Lib.hid h
  obtain ⟨ao, cap, rfl⟩ := hv.long'
  clear hv h
  go_enter Try.func43, Try.ntmps43
  go_wp2_with fail
  go_at_call 92; refine (shrinkable_is false _ Z _ HV.out hn H.out).mono ?_; rintro e w1 ⟨rfl, n1, rfl⟩
  go_wp2_with fail
  go_ret2
  exact ⟨_, rfl, SI.nil _ (Nat.le_refl _) _ _, below_drewN (Below.refl _ _) _⟩
theorem implShrink_no2 (v : Value) (Z : List Nat) (b : Nat) (w : World) (hv : SL w v Z) (hn : Z.length ≤ 1048576) (h : (decide (1 ≤ Z.length) && (decide (Z.length ≤ 64) && finAll Z)) = true) (h2 : leastB b = false) :
    Calls Try.prog 43 #[v, .float .f32 b] w (SaysLB [] false w) := by
  have HV := Lib.hid hv
  have H := Lib.hid h
  have H2 := Lib.hid h2
  obtain ⟨ao, cap, rfl⟩ := hv.long'
  clear hv h h2
  go_enter Try.func43, Try.ntmps43
  go_wp2_with fail
  go_at_call 92; refine (shrinkable_is true _ Z _ HV.out hn H.out).mono ?_; rintro e w1 ⟨rfl, n1, rfl⟩
  go_wp2_with fail
  go_at_call 93; refine (share_is false _ _ H2.out).mono ?_; rintro e w2 ⟨rfl, n2, rfl⟩
  go_wp2_with fail
  go_ret2
  exact ⟨_, rfl, SI.nil _ (Nat.le_refl _) _ _, below_drewN (Below.refl _ _) _⟩
set_option maxRecDepth 100000 in
set_option maxHeartbeats 4000000 in
theorem implShrink_yes (v : Value) (Z : List Nat) (b : Nat) (w : World) (hv : SL w v Z) (h : (decide (1 ≤ Z.length) && (decide (Z.length ≤ 64) && finAll Z)) = true) (h2 : leastB b = true) :
    Calls Try.prog 43 #[v, .float .f32 b] w (SaysLB (Z.map (shI b)) true w) := by
  obtain ⟨i0, hi, hz0, hz1, hz2⟩ := info_parts Try.infoF
  have HV := Lib.hid hv
  have H := Lib.hid h
  have H2 := Lib.hid h2
  have hh := h
  simp only [Bool.and_eq_true, decide_eq_true_eq] at hh
  obtain ⟨hn0, hn1, hfa⟩ := hh
  have HFA := Lib.hid hfa
  have HFB : Hid (fin32 b = true) := Lib.hid (by unfold leastB at h2; simp only [Bool.and_eq_true] at h2; exact h2.1)
  rcases hv with ⟨rfl, -⟩ | ⟨bb, off, cap, rfl, hpos, hbl, hcell⟩
  · exact absurd hn0 (by simp)
  have HC := Lib.hid hcell
  clear hcell h h2 hfa
  go_enter Try.func43, Try.ntmps43
  go_wp2_with fail
  go_at_call 92; refine (shrinkable_is true _ Z _ HV.out (by omega) H.out).mono ?_; rintro e w1 ⟨rfl, n1, rfl⟩
  go_wp2_with fail
  go_at_call 93; refine (share_is true _ _ H2.out).mono ?_; rintro e w2 ⟨rfl, n2, rfl⟩
  go_wp2_with fail
  go_loopg [6, 19] Z.length (fun gk v i wr => ∃ k : Nat, k ≤ Z.length ∧ gk + k = Z.length ∧ i = .int .i64 k ∧ Below w.heap.size w wr ∧ Grows (Value.float .f32) 50 w.heap.size v (shT (shI b) Z k) wr)
  case atStart => exact ⟨0, Nat.zero_le _, by omega, rfl, below_drewN (Below.refl _ _) _, Grows.nil _ _ _ _⟩
  case round =>
    obtain ⟨k, hk, hgk, rfl, hB, hG⟩ := hrel
    have HB := Lib.hid hB
    have HG := Lib.hid hG
    have HML := Lib.hid (shT_len (f := shI b) hk)
    clear hB hG
    by_cases hlt : k < Z.length
    · have HUP := Lib.hid (shT_up (f := shI b) hlt)
      have HX := Lib.hid (fin_at HFA.out hlt)
      have y0 : wr.cell? ⟨bb, off + k, none⟩ = some (.float .f32 (Z.getD k 0)) := by rw [HB.out.cell (p := ⟨bb, off + k, none⟩) hbl]; exact HC.out k hlt
      have hsz := HB.out.size
      generalize Z.getD k 0 = x at y0 HX HUP
      go_wp2_with fail
      go_at_call 94; refine (shrinkNumber_any x b _ HX.out HFB.out).mono ?_; rintro e w3 ⟨rfl, n3, rfl⟩
      go_wp2_with (at_builtin; refine wpList_append_own _ rfl _ _ 49 rfl w.heap.size 50 i0 (.float .f32 0) 1 4 Try.underlying49 hi hz0 hz1 hz2 rfl (by decide) _ _ _ rfl (Grows.alloc (HG.out.drewN _) _) ⟨wr.heap.size, 0, none⟩ 1 1 [.float .f32 (shI b x)] rfl rfl ?c1 ?c2 ?c3 ?c4 ?c5 ?_)
      case c1 => exact one_new
      case c2 => intro u hu; simp at hu; subst hu; rfl
      case c3 => rw [HML.out]; unfold maxLen; omega
      case c4 => rw [HML.out]; omega
      case c5 => simp; omega
      intro v' w' hown hgrow _
      have HN2 : Hid (Below w.heap.size w w' ∧ Grows (Value.float .f32) 50 w.heap.size v' (shT (shI b) Z (k + 1)) w') := Lib.hid ⟨((below_drewN HB.out n3).alloc (by simpa using HB.out.size) _).grown hgrow (by simp; omega) (fun g hg => HG.out.block g hg), by rw [HUP.out]; exact Grows.more (news := [shI b x]) rfl hown⟩
      clear hown hgrow
      go_wp2_with fail
      go_roundg (gk - 1)
      case measure => omega
      case rel => exact ⟨k + 1, by omega, by omega, by go_num, HN2.out.1, HN2.out.2⟩
    · obtain rfl : k = Z.length := by omega
      go_wp2_with fail
      go_ret2
      exact ⟨_, rfl, by have h := HG.out.si (d := (0 : Nat)); rw [shT_all] at h; exact h, HB.out⟩
theorem implShrinkList_any (v : Value) (Z : List Nat) (b : Nat) (w : World) (hv : SL w v Z) (oZ : OKF Z) (_ : b < 4294967296) :
    Calls Try.prog 43 #[v, .float .f32 b] w (SaysLB (shL Z b) (okSh Z b) w) := by
  unfold shL okSh
  cases h : (decide (1 ≤ Z.length) && (decide (Z.length ≤ 64) && finAll Z)) with
  | false => exact implShrink_no1 v Z b w hv oZ.size h
  | true =>
    cases h2 : leastB b with
    | false => exact implShrink_no2 v Z b w hv oZ.size h h2
    | true => exact implShrink_yes v Z b w hv h h2
end Go.Proofs.Ytcnfmphokobgiaa
