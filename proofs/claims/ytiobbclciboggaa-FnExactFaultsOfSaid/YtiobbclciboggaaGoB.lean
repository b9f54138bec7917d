/- Which one goes out of a full room: the program, by what is still to come. -/
import Derived.Test.YtiobbclciboggaaGoA
namespace Go.Proofs.Ytiobbclciboggaa
open Go.RowKit Go.ChangeShapes Go.WideShapes

set_option maxRecDepth 100000 in
set_option maxHeartbeats 4000000 in
theorem outer_any (v : Value) (rest : List Nat) (c p x y : Nat) (w : World) (hv : IL w v (intsN rest)) (hn : rest.length ≤ 1048576) (hc : w.cell? ⟨c, 0, none⟩ = some v) (hp : w.cell? ⟨p, 0, none⟩ = some (.func (.func 129) #[] #[.pointer (some ⟨c, 0, none⟩)])) :
    Calls Try.prog 131 #[.int .i64 (x : Int), .int .i64 (y : Int), .pointer (some ⟨p, 0, none⟩)] w (fun e w' => e = .returned (.bool (ltF rest x y)) ∧ ∃ q, w' = w.drewN q) := by
  obtain ⟨ix, hix⟩ : ∃ ix : Nat → Nat, ∀ u, rest.idxOf u = ix u := ⟨fun u => rest.idxOf u, fun _ => rfl⟩
  have AX : Hid (∀ (u m : Nat), Calls Try.prog 129 #[.int .i64 (u : Int), .pointer (some ⟨c, 0, none⟩)] (w.drewN m) (fun e w' => e = .returned (.int .i64 ((ix u : Nat) : Int)) ∧ ∃ q, w' = (w.drewN m).drewN q)) := Lib.hid (fun u m => by rw [← hix u]; exact again_any v rest c u (w.drewN m) (VL.drewN hv m) hn hc)
  have e : ltF rest x y = (decide (ix y < ix x) || (decide (ix x = ix y) && decide (x < y))) := by rw [← hix, ← hix]; rfl
  rw [e]
  clear hv hc e hix
  by_cases h1 : ix y < ix x
  · have i1 : ((ix y : Nat) : Int) < ((ix x : Nat) : Int) := by omega
    rw [decide_eq_true h1]
    have H1 := Lib.hid h1
    clear h1
    go_enter Try.func131, Try.ntmps131
    go_wp2_with fail
    go_quiet ((go_at_call 129; exact Calls.quiet_of (AX.out _ _)))
    go_wp2_with fail
    go_ret
    exact ⟨rfl, _, rfl⟩
  · by_cases h2 : ix x = ix y
    · have i1 : ¬ ((ix y : Nat) : Int) < ((ix x : Nat) : Int) := by omega
      have i2 : (((ix x : Nat) : Int) == ((ix y : Nat) : Int)) = true := by rw [h2]; simp
      have i3 : ((ix x : Nat) : Int) = ((ix y : Nat) : Int) := by rw [h2]
      rw [decide_eq_false h1, decide_eq_true h2]
      have hxy : decide ((x : Int) < (y : Int)) = decide (x < y) := by rw [decide_eq_decide]; omega
      have HXY := Lib.hid hxy
      clear h1 h2 hxy
      go_enter Try.func131, Try.ntmps131
      go_wp2_with fail
      go_quiet ((go_at_call 129; exact Calls.quiet_of (AX.out _ _)))
      go_wp2_with fail
      go_ret
      exact ⟨by simp, _, rfl⟩
    · have i1 : ¬ ((ix y : Nat) : Int) < ((ix x : Nat) : Int) := by omega
      have i2 : (((ix x : Nat) : Int) == ((ix y : Nat) : Int)) = false := by simp; omega
      have i3 : ¬ ((ix x : Nat) : Int) = ((ix y : Nat) : Int) := by omega
      have i5 : (ix x == ix y) = false := by simpa using h2
      rw [decide_eq_false h1, decide_eq_false h2]
      go_enter Try.func131, Try.ntmps131
      go_wp2_with fail
      go_quiet ((go_at_call 129; exact Calls.quiet_of (AX.out _ _)))
      go_wp2_with fail
      go_ret
      exact ⟨rfl, _, rfl⟩
set_option maxRecDepth 100000 in
set_option maxHeartbeats 4000000 in
theorem outest_any (v u : Value) (rest Y : List Nat) (c p : Nat) (w : World) (hv : IL w v (intsN rest)) (hn : rest.length ≤ 1048576) (hu : IL w u (intsN Y)) (hm : Y.length ≤ 1048576) (h0 : 0 < Y.length) (hc : w.cell? ⟨c, 0, none⟩ = some v) (hp : w.cell? ⟨p, 0, none⟩ = some (.func (.func 129) #[] #[.pointer (some ⟨c, 0, none⟩)])) :
    Calls Try.prog 130 #[u, .func (.func 131) #[] #[.pointer (some ⟨p, 0, none⟩)]] w (fun e w' => e = .returned (.tuple #[.int .i64 ((fstN (ltF rest) Y Y.length : Nat) : Int), .bool true]) ∧ ∃ q, w' = w.drewN q) := by
  rcases hu with ⟨hz, -⟩ | ⟨b, off, cap, rfl, hpos, hbl, hcell⟩
  · have := congrArg List.length hz
    rw [intsN_len, List.length_nil] at this
    omega
  rw [intsN_len] at hcell ⊢
  have HC : Hid (∀ i, i < Y.length → w.cell? ⟨b, off + i, none⟩ = some (.int .i64 ((Y.getD i 0 : Nat) : Int))) := Lib.hid fun i hi => by rw [hcell i hi, intsN_at hi]
  have HV := Lib.hid hv
  have HPP := Lib.hid hp
  have HCC := Lib.hid hc
  have l0 : (0 : Int) < (Y.length : Int) := by omega
  clear hcell hv hp hc hpos
  go_enter Try.func130, Try.ntmps130
  go_wp2_with fail
  go_loopg [6, 11] Y.length (fun gk s i wr => ∃ k : Nat, k ≤ Y.length ∧ gk + k = Y.length ∧ i = .int .i64 k ∧ s = .int .i64 ((fstN (ltF rest) Y k : Nat) : Int) ∧ ∃ m, wr = w.drewN m)
  case atStart => exact ⟨0, Nat.zero_le _, by omega, rfl, rfl, 0, rfl⟩
  case round =>
    obtain ⟨k, hk, hgk, rfl, rfl, hwr⟩ := hrel
    by_cases hlt : k < Y.length
    · have y1 : wr.cell? ⟨b, off + k, none⟩ = some (.int .i64 ((Y.getD k 0 : Nat) : Int)) := by obtain ⟨m, rfl⟩ := hwr; exact HC.out k hlt
      have lk : (k : Int) < (Y.length : Int) := by omega
      match k, hk with
      | 0, _ =>
        have HU : Hid (fstN (ltF rest) Y 1 = Y.getD 0 0) := Lib.hid rfl
        rw [Nat.add_zero] at y1
        have HW := Lib.hid hwr
        clear hwr
        generalize Y.getD 0 0 = x at y1 HU
        go_wp2_with fail
        go_roundg (gk - 1)
        case measure => omega
        case rel => exact ⟨1, by omega, by omega, by go_num, by rw [HU.out], HW.out⟩
      | k + 1, _ =>
        have HU : Hid (fstN (ltF rest) Y (k + 2) = if ltF rest (Y.getD (k + 1) 0) (fstN (ltF rest) Y (k + 1)) then Y.getD (k + 1) 0 else fstN (ltF rest) Y (k + 1)) := Lib.hid rfl
        have HK := Lib.hid (outer_any v rest c p (Y.getD (k + 1) 0) (fstN (ltF rest) Y (k + 1)) wr (by obtain ⟨m, rfl⟩ := hwr; exact VL.drewN HV.out m) hn (by obtain ⟨m, rfl⟩ := hwr; exact HCC.out) (by obtain ⟨m, rfl⟩ := hwr; exact HPP.out))
        have HW : Hid (∀ q, ∃ m, wr.drewN q = w.drewN m) := Lib.hid fun q => by obtain ⟨m, rfl⟩ := hwr; exact ⟨_, World.drewN_drewN _ _ _⟩
        have ne : decide ((((k + 1 : Nat) : Int)) = 0) = false := by simp; omega
        have ne2 : ¬ (((k + 1 : Nat) : Int)) = 0 := by omega
        clear hwr
        generalize fstN (ltF rest) Y (k + 1) = s at HU HK
        generalize Y.getD (k + 1) 0 = x at y1 HU HK
        generalize hK : k + 1 = K at *
        cases ht : ltF rest x s with
        | true =>
          rw [ht] at HU HK
          go_wp2_with fail
          go_at_call 131; refine (HK.out).mono ?_; rintro e w1 ⟨rfl, q, rfl⟩
          go_wp2_with fail
          go_roundg (gk - 1)
          case measure => omega
          case rel => exact ⟨K + 1, by omega, by omega, by go_num, by rw [show K + 1 = k + 2 by omega, HU.out]; rfl, HW.out _⟩
        | false =>
          rw [ht] at HU HK
          go_wp2_with fail
          go_at_call 131; refine (HK.out).mono ?_; rintro e w1 ⟨rfl, q, rfl⟩
          go_wp2_with fail
          go_roundg (gk - 1)
          case measure => omega
          case rel => exact ⟨K + 1, by omega, by omega, by go_num, by rw [show K + 1 = k + 2 by omega, HU.out]; rfl, HW.out _⟩
    · obtain rfl : k = Y.length := by omega
      have HW := Lib.hid hwr
      clear hwr
      go_wp2_with fail
      refine bodyPost_ret (results_tmp2 rfl _ _ _) rfl ?_
      exact ⟨rfl, HW.out⟩
end Go.Proofs.Ytiobbclciboggaa
