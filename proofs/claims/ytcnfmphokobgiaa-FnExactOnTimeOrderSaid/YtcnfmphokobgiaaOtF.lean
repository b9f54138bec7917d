/- The longest of the jobs that are kept: the program. -/
import Derived.Test.YtcnfmphokobgiaaJbI
import Derived.Test.YtcnfmphokobgiaaIns0
import Derived.Deep.QuietTactic
import Derived.BigQuiet
import Derived.Deep.LoopGhost
namespace Go.Proofs.Ytcnfmphokobgiaa
open Go.RowKit Go.ChangeShapes Go.WideShapes

/-- The first of the greatest of k. -/
def fstN (lt : Nat → Nat → Bool) (Y : List Nat) : Nat → Nat
  | 0 => 0
  | 1 => Y.getD 0 0
  | k + 2 => if lt (Y.getD (k + 1) 0) (fstN lt Y (k + 1)) then Y.getD (k + 1) 0 else fstN lt Y (k + 1)
def lonB2 (Z : List Ac) (x y : Nat) : Bool := decide ((Z.getD y zA).f < (Z.getD x zA).f)
theorem fstN_in {lt : Nat → Nat → Bool} {Y : List Nat} {n : Nat} (h : ∀ i, i < Y.length → Y.getD i 0 < n) : ∀ k, 1 ≤ k → k ≤ Y.length → fstN lt Y k < n
  | 0, h0, _ => by omega
  | 1, _, h1 => h 0 (by omega)
  | k + 2, _, h1 => by
    have ih := fstN_in (lt := lt) h (k + 1) (by omega) (by omega)
    unfold fstN
    split
    · exact h _ (by omega)
    · exact ih
set_option maxHeartbeats 1000000 in
theorem longer_any (v : Value) (Z : List Ac) (c x y : Nat) (w : World) (hv : AV w v Z) (hn : Z.length ≤ 1048576) (hx : x < Z.length) (hy : y < Z.length) (hc : w.cell? ⟨c, 0, none⟩ = some v) :
    Calls Try.prog 86 #[.int .i64 x, .int .i64 y, .pointer (some ⟨c, 0, none⟩)] w (fun e w' => e = .returned (.bool (lonB2 Z x y)) ∧ ∃ q, w' = w.drewN q) := by
  rcases hv with ⟨rfl, _⟩ | ⟨b, off, cap, rfl, hpos, hbl, hcell⟩
  · simp at hx
  have y1 := (hcell x hx).c0
  have y2 := (hcell y hy).c0
  have hli : (x : Int) < (Z.length : Int) := by omega
  have hlj : (y : Int) < (Z.length : Int) := by omega
  clear hcell
  unfold lonB2
  generalize (Z.getD x zA).f = p at y1 ⊢
  generalize (Z.getD y zA).f = q at y2 ⊢
  go_enter Try.func86, Try.ntmps86
  go_wp2_with fail
  go_quiet (fail)
  go_wp2_with fail
  go_ret
  exact ⟨rfl, _, rfl⟩
set_option maxRecDepth 100000 in
set_option maxHeartbeats 4000000 in
theorem longest_any (v u : Value) (Z : List Ac) (Y : List Nat) (c : Nat) (w : World) (hv : AV w v Z) (hn : Z.length ≤ 1048576) (hu : IL w u (intsN Y)) (hY : ∀ i, i < Y.length → Y.getD i 0 < Z.length) (hm : Y.length ≤ 1048576) (h0 : 0 < Y.length) (hc : w.cell? ⟨c, 0, none⟩ = some v) :
    Calls Try.prog 85 #[u, .func (.func 86) #[] #[.pointer (some ⟨c, 0, none⟩)]] w (fun e w' => e = .returned (.tuple #[.int .i64 ((fstN (lonB2 Z) Y Y.length : Nat) : Int), .bool true]) ∧ ∃ q, w' = w.drewN q) := by
  rcases hu with ⟨hz, -⟩ | ⟨b, off, cap, rfl, hpos, hbl, hcell⟩
  · have := congrArg List.length hz
    rw [intsN_len, List.length_nil] at this
    omega
  rw [intsN_len] at hcell ⊢
  have HC : Hid (∀ i, i < Y.length → w.cell? ⟨b, off + i, none⟩ = some (.int .i64 ((Y.getD i 0 : Nat) : Int))) := Lib.hid fun i hi => by rw [hcell i hi, intsN_at hi]
  have HV := Lib.hid hv
  have HY := Lib.hid hY
  have HCC := Lib.hid hc
  have HIN := Lib.hid (fstN_in (lt := lonB2 Z) hY)
  have l0 : (0 : Int) < (Y.length : Int) := by omega
  clear hcell hv hY hc hpos
  go_enter Try.func85, Try.ntmps85
  go_wp2_with fail
  go_loopg [6, 11] Y.length (fun gk s i wr => ∃ k : Nat, k ≤ Y.length ∧ gk + k = Y.length ∧ i = .int .i64 k ∧ s = .int .i64 ((fstN (lonB2 Z) Y k : Nat) : Int) ∧ ∃ m, wr = w.drewN m)
  case atStart => exact ⟨0, Nat.zero_le _, by omega, rfl, rfl, 0, rfl⟩
  case round =>
    obtain ⟨k, hk, hgk, rfl, rfl, hwr⟩ := hrel
    by_cases hlt : k < Y.length
    · have y1 : wr.cell? ⟨b, off + k, none⟩ = some (.int .i64 ((Y.getD k 0 : Nat) : Int)) := by obtain ⟨m, rfl⟩ := hwr; exact HC.out k hlt
      have lk : (k : Int) < (Y.length : Int) := by omega
      match k, hk with
      | 0, _ =>
        have HU : Hid (fstN (lonB2 Z) Y 1 = Y.getD 0 0) := Lib.hid rfl
        rw [Nat.add_zero] at y1
        have HW := Lib.hid hwr
        clear hwr
        generalize Y.getD 0 0 = x at y1 HU
        go_wp2_with fail
        go_roundg (gk - 1)
        case measure => omega
        case rel => exact ⟨1, by omega, by omega, by go_num, by rw [HU.out], HW.out⟩
      | k + 1, _ =>
        have hx := HY.out (k + 1) hlt
        have hi := HIN.out (k + 1) (by omega) (by omega)
        have HU : Hid (fstN (lonB2 Z) Y (k + 2) = if lonB2 Z (Y.getD (k + 1) 0) (fstN (lonB2 Z) Y (k + 1)) then Y.getD (k + 1) 0 else fstN (lonB2 Z) Y (k + 1)) := Lib.hid rfl
        have HK := Lib.hid (longer_any v Z c (Y.getD (k + 1) 0) (fstN (lonB2 Z) Y (k + 1)) wr (by obtain ⟨m, rfl⟩ := hwr; exact HV.out.dn m) hn hx hi (by obtain ⟨m, rfl⟩ := hwr; exact HCC.out))
        have HW : Hid (∀ q, ∃ m, wr.drewN q = w.drewN m) := Lib.hid fun q => by obtain ⟨m, rfl⟩ := hwr; exact ⟨_, World.drewN_drewN _ _ _⟩
        have ne : decide ((((k + 1 : Nat) : Int)) = 0) = false := by simp; omega
        have ne2 : ¬ (((k + 1 : Nat) : Int)) = 0 := by omega
        clear hwr hx hi
        generalize fstN (lonB2 Z) Y (k + 1) = s at HU HK
        generalize Y.getD (k + 1) 0 = x at y1 HU HK
        generalize hK : k + 1 = K at *
        cases ht : lonB2 Z x s with
        | true =>
          rw [ht] at HU HK
          go_wp2_with fail
          go_at_call 86; refine (HK.out).mono ?_; rintro e w1 ⟨rfl, q, rfl⟩
          go_wp2_with fail
          go_roundg (gk - 1)
          case measure => omega
          case rel => exact ⟨K + 1, by omega, by omega, by go_num, by rw [show K + 1 = k + 2 by omega, HU.out]; rfl, HW.out _⟩
        | false =>
          rw [ht] at HU HK
          go_wp2_with fail
          go_at_call 86; refine (HK.out).mono ?_; rintro e w1 ⟨rfl, q, rfl⟩
          go_wp2_with fail
          go_roundg (gk - 1)
          case measure => omega
          case rel => exact ⟨K + 1, by omega, by omega, by go_num, by rw [show K + 1 = k + 2 by omega, HU.out]; rfl, HW.out _⟩
    · obtain rfl : k = Y.length := by omega
      have HW := Lib.hid hwr
      clear hwr
      go_wp2_with fail
      refine bodyPost_ret (results_tmp2 rfl _ _ _) rfl ?_
      exact ⟨rfl, HW.out⟩
end Go.Proofs.Ytcnfmphokobgiaa
