/- Letters and clauses: the program's side. -/
import Derived.Test.YtnakpfbeeekmiaaCl0
import Derived.Test.YtnakpfbeeekmiaaIl
import Derived.Test.YtnakpfbeeekmiaaGrw
import Derived.Deep.LoopGhost
import Derived.WalkSpells
namespace Go.Proofs.Ytnakpfbeeekmiaa
open Go.RowKit Go.ChangeShapes Go.WideShapes

theorem drewM {w wr : World} (h : ∃ n, wr = w.drewN n) (m : Nat) : ∃ n, wr.drewN m = w.drewN n := by
  obtain ⟨n, rfl⟩ := h
  exact ⟨n + m, World.drewN_drewN _ _ _⟩
theorem Tells.from {b : Bool} {w wr : World} {m : Nat} (h : ∀ m, ∃ n, wr.drewN m = w.drewN n) {c : Bool} (e : c = b) : Tells c w (.returned (.bool b)) (wr.drewN m) := by
  obtain ⟨n, hn⟩ := h m
  exact ⟨by rw [e], n, hn⟩
theorem letterOf_is (x : Int) (w : World) (h1 : -9223372036854775808 ≤ x) (h2 : x ≤ 9223372036854775807) :
    Calls Try.prog 120 #[.int .i64 x] w (fun e w' => e = .returned (.int .i64 (lw x)) ∧ w = w') := by
  by_cases h0 : x = -9223372036854775808
  · have hw : IntKind.i64.wrap (-x) = x := by rw [IntKind.wrap_i64]; omega
    have hl : lw x = x := by unfold lw; rw [if_pos h0]
    rw [hl]
    clear h0 hl h1 h2
    go_enter Try.func120, Try.ntmps120
    go_wp2
    go_ret
    exact ⟨rfl, rfl⟩
  · rw [lw_ltr h0]
    have hw : IntKind.i64.wrap (-x) = -x := by rw [IntKind.wrap_i64]; omega
    by_cases h3 : x < 0
    · have hl : ltr x = -x := by unfold ltr; rw [if_pos h3]
      have hm : ¬ (-x ≤ x) := by omega
      have hm2 : x ≤ -x := by omega
      have hmm : max x (-x) = -x := by omega
      rw [hl]
      go_enter Try.func120, Try.ntmps120
      go_wp2
      go_ret
      exact ⟨rfl, rfl⟩
    · have hl : ltr x = x := by unfold ltr; rw [if_neg h3]
      rw [hl]
      have hm : -x ≤ x := by omega
      have hmm : max x (-x) = x := by omega
      go_enter Try.func120, Try.ntmps120
      go_wp2
      go_ret
      exact ⟨rfl, rfl⟩
def letsK (c : List Int) (k : Nat) : List Int := (lets c).take k
theorem lets_take (c : List Int) (k : Nat) (h : k < c.length) : letsK c (k + 1) = letsK c k ++ [lw (c.getD k 0)] := by
  unfold letsK
  rw [List.take_add_one, ← lets_at h]
  have : k < (lets c).length := by rw [lets_len]; exact h
  simp [List.getD, this]
set_option maxRecDepth 100000 in
set_option maxHeartbeats 4000000 in
theorem lettersOf_any (v : Value) (c : List Int) (w : World) (hv : IL w v c) (hn : c.length ≤ 1048576) (hx : ∀ i, -9223372036854775808 ≤ c.getD i 0 ∧ c.getD i 0 ≤ 9223372036854775807) :
    Calls Try.prog 101 #[v] w (Made (Value.int .i64) (0 : Int) (lets c) w) := by
  obtain ⟨i0, hi, hz0, hz1, hz2⟩ := info_parts Try.infoI
  rcases hv with ⟨rfl, ao, cap, rfl⟩ | ⟨b, off, cap, rfl, hpos, hbl, hcell⟩
  · go_enter Try.func101, Try.ntmps101
    go_wp2_with fail
    refine wp_loop_rounds 1 ?_
    rw [rounds_succ]
    go_wp2
    refine bodyPost_ret (results_tmp rfl _ _ _) rfl ?_
    exact ⟨_, rfl, SI.nil _ (Nat.le_refl _) _ _, Below.refl _ _⟩
  have HC := Lib.hid hcell
  have HX := Lib.hid hx
  clear hcell hx
  go_enter Try.func101, Try.ntmps101
  go_wp2_with fail
  go_loopg [3, 8] c.length (fun gk v i wr => ∃ k : Nat, k ≤ c.length ∧ gk + k = c.length ∧ i = .int .i64 k ∧ Below w.heap.size w wr ∧ Grows (Value.int .i64) 2 w.heap.size v (letsK c k) wr)
  case atStart => exact ⟨0, Nat.zero_le _, by omega, rfl, Below.refl _ _, Grows.nil _ _ _ _⟩
  case round =>
    obtain ⟨k, hk, hgk, rfl, hB, hG⟩ := hrel
    have HB := Lib.hid hB
    have HG := Lib.hid hG
    by_cases hlt : k < c.length
    · have HML : Hid ((letsK c k).length = k) := Lib.hid (by unfold letsK; rw [List.length_take, lets_len]; omega)
      have c0 : wr.cell? ⟨b, off + k, none⟩ = some (.int .i64 (c.getD k 0)) := by rw [hB.cell (p := ⟨b, off + k, none⟩) hbl]; exact HC.out k hlt
      have HUP := Lib.hid (lets_take c k hlt)
      have hr := HX.out k
      generalize c.getD k 0 = x at c0 HUP hr
      have HR := Lib.hid hr
      clear hB hG hr
      go_wp2_with fail
      go_at_call 120; refine (letterOf_is x _ HR.out.1 HR.out.2).mono ?_; rintro e w' ⟨rfl, rfl⟩
      go_wp2_with (at_builtin; refine wpList_append_own _ rfl _ _ 25 rfl w.heap.size 2 i0 (.int .i64 0) 1 8 Try.underlying25 hi hz0 hz1 hz2 rfl (by decide) _ _ _ rfl (Grows.alloc HG.out _) ⟨wr.heap.size, 0, none⟩ 1 1 [.int .i64 (lw x)] rfl rfl ?c1 ?c2 ?c3 ?c4 ?c5 ?_)
      case c1 => exact one_new
      case c2 => intro u hu; simp at hu; subst hu; rfl
      case c3 => rw [HML.out]; unfold maxLen; omega
      case c4 => rw [HML.out]; omega
      case c5 => have := HB.out.size; simp; omega
      intro v' w' hown hgrow _
      have HN2 : Hid (Below w.heap.size w w' ∧ Grows (Value.int .i64) 2 w.heap.size v' (letsK c (k + 1)) w') := Lib.hid ⟨(HB.out.alloc HB.out.size _).grown hgrow (by have := HB.out.size; simp; omega) (fun g hg => HG.out.block g hg), by rw [HUP.out]; exact Grows.more (news := [lw x]) rfl hown⟩
      clear hown hgrow c0
      go_wp2_with fail
      go_roundg (gk - 1)
      case measure => omega
      case rel => exact ⟨k + 1, by omega, by omega, by go_num, HN2.out.1, HN2.out.2⟩
    · obtain rfl : k = c.length := by omega
      have HE : Hid (letsK c c.length = lets c) := Lib.hid (List.take_of_length_le (by rw [lets_len]; omega))
      clear hB hG
      go_wp2_with fail
      refine bodyPost_ret (results_tmp rfl _ _ _) rfl ?_
      exact ⟨_, rfl, by have h := HG.out; rw [HE.out] at h; exact h.si, HB.out⟩
theorem alB_step {n : Int} {L : List Int} {k : Nat} (hk : k < L.length) (h : asc1 n L k = false) : alB n L = false := by
  unfold alB
  rw [rngNot hk h, Bool.false_and]
theorem alB_end {n : Int} {L : List Int} (h : ∀ j, j < L.length → asc1 n L j = true) : alB n L = inB n 1 10 := by
  unfold alB
  rw [rngAll h, Bool.true_and]
set_option maxHeartbeats 4000000 in
theorem areLetters_any (n : Int) (v : Value) (L : List Int) (w : World) (hv : IL w v L) (hn : L.length ≤ 1048576) :
    Calls Try.prog 111 #[.int .i64 n, v] w (Tells (alB n L) w) := by
  rcases hv with ⟨rfl, ao, cap, rfl⟩ | ⟨b, off, cap, rfl, hpos, hbl, hcell⟩
  · obtain ⟨t, ht⟩ : ∃ t, t = alB n [] := ⟨_, rfl⟩
    have H0 := Lib.hid (show (decide (1 ≤ n) && decide (n ≤ 10)) = t by rw [ht]; rfl)
    rw [← ht]
    clear ht
    go_enter Try.func111, Try.ntmps111
    go_wp2_with fail
    refine wp_loop_rounds 1 ?_
    rw [rounds_succ]
    go_wp2_with fail
    go_at_call 56; refine (isFrom_is t n 1 10 _ H0.out).mono ?_; rintro e w' ⟨rfl, m, rfl⟩
    go_wp2_with fail
    go_ret
    exact tells _ rfl
  have HC := Lib.hid hcell
  clear hcell
  go_enter Try.func111, Try.ntmps111
  go_wp2_with fail
  go_loopg [9] L.length (fun gk i wr => ∃ k : Nat, k ≤ L.length ∧ gk + k = L.length ∧ i = .int .i64 k ∧ (∀ j, j < k → asc1 n L j = true) ∧ ∃ m, wr = w.drewN m)
  case atStart => exact ⟨0, Nat.zero_le _, by omega, rfl, fun j hj => by omega, 0, rfl⟩
  case round =>
    obtain ⟨k, hk, hgk, rfl, hall, hwr⟩ := hrel
    have HL := Lib.hid hall
    have HW := Lib.hid (drewM hwr)
    clear hall
    by_cases hlt : k < L.length
    · have c0 : wr.cell? ⟨b, off + k, none⟩ = some (.int .i64 (L.getD k 0)) := by obtain ⟨n, rfl⟩ := hwr; exact HC.out k hlt
      by_cases hk0 : k = 0
      · subst hk0
        obtain ⟨t, ht⟩ : ∃ t, t = inB (L.getD 0 0) 1 n := ⟨_, rfl⟩
        have HA : Hid (asc1 n L 0 = t) := Lib.hid (by unfold asc1; rw [ht]; simp)
        generalize L.getD 0 0 = x at c0 ht
        have HT := Lib.hid (show (decide (1 ≤ x) && decide (x ≤ n)) = t from ht.symm)
        clear hwr ht
        rw [Nat.add_zero] at c0
        cases t with
        | false =>
          go_wp2_with fail
          go_at_call 56; refine (isFrom_is false x 1 n _ HT.out).mono ?_; rintro e w' ⟨rfl, m, rfl⟩
          go_wp2_with fail
          go_ret
          exact Tells.from HW.out (alB_step hlt HA.out)
        | true =>
          go_wp2_with fail
          go_at_call 56; refine (isFrom_is true x 1 n _ HT.out).mono ?_; rintro e w' ⟨rfl, m, rfl⟩
          go_wp2_with fail
          go_roundg (gk - 1)
          case measure => omega
          case rel => exact ⟨1, by omega, by omega, by go_num, fun j hj => by obtain rfl : j = 0 := by omega
                                                                              exact HA.out, HW.out m⟩
      · have d0 : wr.cell? ⟨b, off + (k - 1), none⟩ = some (.int .i64 (L.getD (k - 1) 0)) := by obtain ⟨n, rfl⟩ := hwr; exact HC.out (k - 1) (by omega)
        have hgt : decide (0 < k) = true := by simp; omega
        have hgt2 : decide ((0 : Int) < (k : Int)) = true := by simp; omega
        have hsub : ((k : Int) - 1).toNat = k - 1 := by omega
        have hsl : (k : Int) - 1 < (L.length : Int) := by omega
        have hsz : (0 : Int) ≤ (k : Int) - 1 := by omega
        obtain ⟨t, ht⟩ : ∃ t, t = inB (L.getD k 0) 1 n := ⟨_, rfl⟩
        obtain ⟨q, hq⟩ : ∃ q, q = decide (L.getD (k - 1) 0 < L.getD k 0) := ⟨_, rfl⟩
        have HA : Hid (asc1 n L k = (t && q)) := Lib.hid (by unfold asc1; rw [ht, hq, decide_eq_false hk0, Bool.false_or])
        generalize L.getD k 0 = x at c0 ht hq
        generalize L.getD (k - 1) 0 = y at d0 hq
        have HT := Lib.hid (show (decide (1 ≤ x) && decide (x ≤ n)) = t from ht.symm)
        clear hwr ht
        cases t with
        | false =>
          go_wp2_with fail
          go_at_call 56; refine (isFrom_is false x 1 n _ HT.out).mono ?_; rintro e w' ⟨rfl, m, rfl⟩
          go_wp2_with fail
          go_ret
          exact Tells.from HW.out (alB_step hlt HA.out)
        | true =>
          by_cases hyx : y < x
          · have hge : ¬ x ≤ y := by omega
            rw [decide_eq_true hyx] at hq
            subst hq
            go_wp2_with fail
            go_at_call 56; refine (isFrom_is true x 1 n _ HT.out).mono ?_; rintro e w' ⟨rfl, m, rfl⟩
            go_wp2_with fail
            go_roundg (gk - 1)
            case measure => omega
            case rel => exact ⟨k + 1, by omega, by omega, by go_num, fun j hj => by
              by_cases e : j = k
              · subst e; exact HA.out
              · exact HL.out j (by omega), HW.out m⟩
          · have hge : x ≤ y := by omega
            rw [decide_eq_false hyx] at hq
            subst hq
            go_wp2_with fail
            go_at_call 56; refine (isFrom_is true x 1 n _ HT.out).mono ?_; rintro e w' ⟨rfl, m, rfl⟩
            go_wp2_with fail
            go_ret
            exact Tells.from HW.out (alB_step hlt HA.out)
    · obtain rfl : k = L.length := by omega
      obtain ⟨t, ht⟩ : ∃ t, t = alB n L := ⟨_, rfl⟩
      have H0 := Lib.hid (show (decide (1 ≤ n) && decide (n ≤ 10)) = t by rw [ht, alB_end HL.out]; rfl)
      have HTT := Lib.hid ht.symm
      clear ht hwr
      go_wp2_with fail
      go_at_call 56; refine (isFrom_is t n 1 10 _ H0.out).mono ?_; rintro e w' ⟨rfl, m, rfl⟩
      go_wp2_with fail
      go_ret
      exact Tells.from HW.out HTT.out
theorem implClause_any (n : Int) (v : Value) (c : List Int) (w : World) (hv : IL w v c) (hn : c.length ≤ 1048576) (hx : ∀ i, -9223372036854775808 ≤ c.getD i 0 ∧ c.getD i 0 ≤ 9223372036854775807) :
    Calls Try.prog 85 #[.int .i64 n, v] w (Says (clB n c) w) := by
  have HV := Lib.hid hv
  obtain ⟨ao, cap, rfl⟩ := hv.long
  clear hv
  go_enter Try.func85, Try.ntmps85
  go_wp2_with fail
  go_at_call 101; refine (lettersOf_any _ c _ HV.out hn hx).mono ?_; rintro e w1 ⟨v1, rfl, i1, b1⟩
  have I1 := Lib.hid (II.il i1)
  have B1 := Lib.hid b1
  obtain ⟨x1, y1, rfl⟩ := II.len' i1
  clear i1 b1
  go_wp2_with fail
  go_at_call 111; refine (areLetters_any n _ (lets c) _ I1.out (by rw [lets_len]; exact hn)).mono ?_; rintro e w2 ⟨rfl, m, rfl⟩
  go_wp2_with fail
  go_ret
  exact says rfl (below_drewN B1.out _)
end Go.Proofs.Ytnakpfbeeekmiaa
