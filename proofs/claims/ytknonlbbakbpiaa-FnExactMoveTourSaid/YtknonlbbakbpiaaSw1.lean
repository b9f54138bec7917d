/- A part of a list that is turned around: slices.Reverse of a part; turnPart. -/
import Derived.Test.YtknonlbbakbpiaaSw0
import Derived.Test.YtknonlbbakbpiaaRev
import Derived.Test.YtknonlbbakbpiaaClI
namespace Go.Proofs.Ytknonlbbakbpiaa
open Go.RowKit Go.ChangeShapes Go.WideShapes

/-- The part of n from i on, m turned from both ends. -/
def winF (T : List Int) (i n m : Nat) : List Int := (List.range T.length).map fun j => if (i ≤ j ∧ j < i + m) ∨ (i + n ≤ j + m ∧ j < i + n) then T.getD (i + (i + n - 1) - j) 0 else T.getD j 0
theorem winF_len (T : List Int) (i n m : Nat) : (winF T i n m).length = T.length := by simp [winF]
theorem winF_at {T : List Int} {i n m j : Nat} (h : j < T.length) : (winF T i n m).getD j 0 = if (i ≤ j ∧ j < i + m) ∨ (i + n ≤ j + m ∧ j < i + n) then T.getD (i + (i + n - 1) - j) 0 else T.getD j 0 := by simp [winF, List.getD, h]
theorem winF_0 (T : List Int) (i n : Nat) : winF T i n 0 = T := by
  refine List.ext_getElem (winF_len _ _ _ _) fun j a b => ?_
  have h := winF_at (i := i) (n := n) (m := 0) b
  rw [if_neg (by omega)] at h
  simpa [List.getD, a, b] using h
theorem winF_end {T : List Int} {i n m : Nat} (hn : 1 ≤ n) (hm : n ≤ m + m + 1) (hm2 : m ≤ n) : winF T i n m = turnF T i (i + n - 1) := by
  refine List.ext_getElem (by rw [winF_len, turnF_len]) fun j a b => ?_
  have hj : j < T.length := by rw [winF_len] at a; exact a
  have h1 := winF_at (i := i) (n := n) (m := m) hj
  have h2 := turnF_at (i := i) (k := i + n - 1) hj
  have e : (winF T i n m).getD j 0 = (turnF T i (i + n - 1)).getD j 0 := by
    rw [h1, h2]
    by_cases q : i ≤ j ∧ j ≤ i + n - 1
    · rw [if_pos q]
      by_cases p : (i ≤ j ∧ j < i + m) ∨ (i + n ≤ j + m ∧ j < i + n)
      · rw [if_pos p]
      · rw [if_neg p]
        have : i + (i + n - 1) - j = j := by omega
        rw [this]
    · rw [if_neg q, if_neg (by omega)]
  simpa [List.getD, a, b] using e
theorem winF_step {T : List Int} {i n m : Nat} (hm : m + m + 1 < n) : ((winF T i n m).set (i + m) (T.getD (i + (n - 1 - m)) 0)).set (i + (n - 1 - m)) (T.getD (i + m) 0) = winF T i n (m + 1) := by
  refine List.ext_getElem (by simp [winF_len]) fun j a b => ?_
  have hj : j < T.length := by rw [winF_len] at b; exact b
  have h1 := winF_at (i := i) (n := n) (m := m) hj
  have h2 := winF_at (i := i) (n := n) (m := m + 1) hj
  have e2 : (winF T i n (m + 1))[j] = (winF T i n (m + 1)).getD j 0 := by simp [List.getD, b]
  have e1 : (winF T i n m)[j]'(by rw [winF_len]; exact hj) = (winF T i n m).getD j 0 := by simp [List.getD, winF_len, hj]
  rw [e2, h2, List.getElem_set, List.getElem_set]
  by_cases q1 : i + (n - 1 - m) = j
  · rw [if_pos q1, if_pos (by omega)]
    have : i + (i + n - 1) - j = i + m := by omega
    rw [this]
  · rw [if_neg q1]
    by_cases q2 : i + m = j
    · rw [if_pos q2, if_pos (by omega)]
      have : i + (i + n - 1) - j = i + (n - 1 - m) := by omega
      rw [this]
    · rw [if_neg q2, e1, h1]
      by_cases q : (i ≤ j ∧ j < i + m) ∨ (i + n ≤ j + m ∧ j < i + n)
      · rw [if_pos q, if_pos (by omega)]
      · rw [if_neg q, if_neg (by omega)]
theorem winF_left {T : List Int} {i n m : Nat} (hT : i + n ≤ T.length) (hm : m + m + 1 < n) : (winF T i n m).getD (i + m) 0 = T.getD (i + m) 0 := by rw [winF_at (by omega), if_neg (by omega)]
theorem winF_right {T : List Int} {i n m : Nat} (hT : i + n ≤ T.length) (hm : m + m + 1 < n) : (winF T i n m).getD (i + (n - 1 - m)) 0 = T.getD (i + (n - 1 - m)) 0 := by rw [winF_at (by omega), if_neg (by omega)]
structure WnAt (w : World) (b off : Nat) (Z : List Int) (wr : World) : Prop where
  turned : Turned b (b + 1) w wr
  arr : Arr (Value.int .i64) 0 wr b off Z
theorem WnAt.two {w wr : World} {b off x y : Nat} {Z : List Int} (h : WnAt w b off Z wr) (hx : x < Z.length) (hy : y < Z.length) (p q : Int) : WnAt w b off ((Z.set x p).set y q) ((wr.setCell ⟨b, off + x, none⟩ (.int .i64 p)).setCell ⟨b, off + y, none⟩ (.int .i64 q)) := by
  refine ⟨(h.turned.setCell (Nat.le_refl _) (Nat.lt_succ_self _) _).setCell (Nat.le_refl _) (Nat.lt_succ_self _) _, ?_⟩
  exact (h.arr.set hx p).set (i := y) (by rw [List.length_set]; exact hy) q
theorem WnAt.drew {w wr : World} {b off : Nat} {Z : List Int} (h : WnAt w b off Z wr) (n : Nat) : WnAt w b off Z (wr.drewN n) := ⟨h.turned.drewN n, h.arr.drewN n⟩
def Windowed (b off : Nat) (Z : List Int) (w : World) (e : Ending) (w' : World) : Prop := e = .returned (.tuple #[]) ∧ WnAt w b off Z w'
set_option maxHeartbeats 2000000 in
theorem reversePart_any (b off i n cap : Nat) (T : List Int) (w : World) (h : Arr (Value.int .i64) 0 w b off T) (hn : 1 ≤ n) (hT : i + n ≤ T.length) (hl : T.length ≤ 1000) :
    Calls Try.prog 146 #[.slice (some ⟨b, off + i, none⟩) n cap] w (Windowed b off (turnF T i (i + n - 1)) w) := by
  have H0 : Hid (WnAt w b off (winF T i n 0) w) := Lib.hid ⟨Turned.refl _ _ _, by rw [winF_0]; exact h⟩
  obtain ⟨p, hp⟩ : ∃ p, n = p + 1 := ⟨n - 1, by omega⟩
  subst hp
  clear h hn
  go_enter Try.func146, Try.ntmps146
  go_wp2_with fail
  go_loopg [2, 3] (p + 1) (fun gk x y wr => ∃ k m : Nat, k + m = p ∧ gk + k = p + 1 ∧ x = .int .i64 k ∧ y = .int .i64 m ∧ k ≤ m + 1 ∧ WnAt w b off (winF T i (p + 1) k) wr)
  case atStart => exact ⟨0, p, by omega, by omega, rfl, rfl, by omega, H0.out⟩
  case round =>
    clear H0
    obtain ⟨k, m, hkm, hgk, rfl, rfl, hk1, hat⟩ := hrel
    have HA := Lib.hid hat
    have hf := hat.arr.free
    by_cases hlt : k < m
    · have x0 := hat.arr.cells (i + k) (by rw [winF_len]; omega)
      have y0 := hat.arr.cells (i + m) (by rw [winF_len]; omega)
      have hm : m = p + 1 - 1 - k := by omega
      rw [winF_left hT (by omega)] at x0
      rw [hm, winF_right hT (by omega), ← hm] at y0
      rw [← Nat.add_assoc] at x0 y0
      have hst := (HA.out.drew 1).two (x := i + k) (y := i + m) (by rw [winF_len]; omega) (by rw [winF_len]; omega) (T.getD (i + m) 0) (T.getD (i + k) 0)
      have hw := winF_step (T := T) (i := i) (n := p + 1) (m := k) (by omega)
      rw [← hm] at hw
      rw [hw, ← Nat.add_assoc, ← Nat.add_assoc] at hst
      have HN := Lib.hid hst
      generalize T.getD (i + k) 0 = x at x0 HN
      generalize T.getD (i + m) 0 = y at y0 HN
      have f1 := hf (off + i + k)
      have f2 := hf (off + i + m)
      have lk : (k : Int) < (p : Int) + 1 := by omega
      have lm : (m : Int) < (p : Int) + 1 := by omega
      have lk2 : (k : Int) < ((p + 1 : Nat) : Int) := by omega
      have lm2 : (m : Int) < ((p + 1 : Nat) : Int) := by omega
      have hne : ¬ k = m := by omega
      have hne2 : ¬ m = k := by omega
      clear hf hst hw hm hat
      go_wp2_with fail
      go_region_with (fail)
      all_goals
        go_wp2_with fail
        go_roundg (gk - 1)
        case measure => omega
        case rel => exact ⟨k + 1, m - 1, by omega, by omega, by go_num, by rw [show (m : Int) - 1 = ((m - 1 : Nat) : Int) by omega], by omega, HN.out⟩
    · have HE := Lib.hid (winF_end (T := T) (i := i) (n := p + 1) (m := k) (by omega) (by omega) (by omega))
      clear hf hat
      go_wp2_with fail
      refine bodyPost_ret (v := .tuple #[]) (by simp [results, Try.results146, go_sem]) rfl ?_
      exact ⟨rfl, by rw [← HE.out]; exact HA.out⟩
set_option maxHeartbeats 2000000 in
theorem turnPart_any (v : Value) (T : List Int) (i k : Nat) (w : World) (hv : IL w v T) (hi : i < T.length) (hk : k < T.length) (hl : T.length ≤ 1000) :
    Calls Try.prog 79 #[v, .int .i64 i, .int .i64 k] w (Made (Value.int .i64) (0 : Int) (turnF T i k) w) := by
  have CL := Lib.hid (cloneI_any v T w hv (by omega))
  obtain ⟨va, vc, rfl⟩ := hv.long
  clear hv
  by_cases h : i < k
  · go_enter Try.func79, Try.ntmps79
    go_wp2_with fail
    go_at_call 144; refine CL.out.mono ?_; rintro e w2 ⟨u, rfl, s2, b2⟩
    obtain ⟨hh, ⟨hz, -⟩ | ⟨b, off, cap, rfl, hpos, hb1, hb2, hfr, hcell⟩⟩ := s2
    · rw [hz] at hi; simp at hi
    have HA : Hid (Arr (Value.int .i64) 0 w2 b off T) := Lib.hid ⟨hcell, hfr⟩
    have B2 := Lib.hid b2
    have f1 : IntKind.i64.wrap ((k : Int) + 1) = (k : Int) + 1 := IntWalk.i64_in _ (by omega)
    have f2 : (0 : Int) ≤ (k : Int) + 1 := by omega
    have f3 : ((k : Int) + 1).toNat = k + 1 := by omega
    have f4 : (i : Int) ≤ (k : Int) + 1 := by omega
    have f5 : (k : Int) + 1 ≤ ((T.length + cap : Nat) : Int) := by omega
    have f6 : i ≤ k + 1 := by omega
    have f7 : k + 1 ≤ T.length + cap := by omega
    have f8 : ¬ T.length + cap = i := by omega
    have hii : (i : Int) < (k : Int) := by omega
    clear hcell hfr b2 hpos
    go_wp2_with fail
    go_at_call 146; refine (reversePart_any b off i (k + 1 - i) _ T _ HA.out (by omega) (by omega) hl).mono ?_; rintro e w3 ⟨rfl, hW⟩
    have HW := Lib.hid hW
    have HI : Hid (i + (k + 1 - i) - 1 = k) := Lib.hid (by omega)
    clear hW f1 f2 f3 f4 f5 f6 f7 f8
    go_wp2_with fail
    refine bodyPost_ret (v := .slice (some ⟨b, off, none⟩) T.length (T.length + cap)) (by simp [results, Try.results79, go_sem]) rfl ?_
    have h3 := HW.out
    rw [HI.out] at h3
    exact ⟨_, rfl, ⟨Nat.le_refl _, Or.inr ⟨b, off, cap, by rw [turnF_len], by rw [turnF_len]; omega, hb1, Nat.lt_of_lt_of_le hb2 h3.turned.size, h3.arr.free, h3.arr.cells⟩⟩, B2.out.trans ((h3.turned.below (by omega)).mono hb1)⟩
  · have e := turnF_id (T := T) h
    rw [e]
    have h' : ¬ (i : Int) < (k : Int) := by omega
    go_enter Try.func79, Try.ntmps79
    go_wp2_with fail
    go_at_call 144; refine CL.out.mono ?_; rintro e w2 ⟨u, rfl, s2, b2⟩
    have S2 := Lib.hid s2
    have B2 := Lib.hid b2
    obtain ⟨ua, uc, rfl⟩ := SI.len s2
    clear s2 b2
    go_wp2_with fail
    refine bodyPost_ret (results_tmp rfl _ _ _) rfl ?_
    exact ⟨_, rfl, S2.out, B2.out⟩
end Go.Proofs.Ytknonlbbakbpiaa
