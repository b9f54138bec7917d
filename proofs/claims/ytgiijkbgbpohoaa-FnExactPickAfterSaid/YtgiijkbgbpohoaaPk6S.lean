/- The first number that is greater than all before: the model. -/
import Derived.Test.YtgiijkbgbpohoaaPk6
import Derived.Test.YtgiijkbgbpohoaaRowA
import Derived.Deep.QuietTactic
import Derived.BigQuiet
namespace Go.Proofs.Ytgiijkbgbpohoaa
open Go.RowKit Go.ChangeShapes Go.WideShapes

theorem drewMoreP {w wr : World} (h : ∃ m, wr = w.drewN m) : ∀ n, ∃ m, wr.drewN n = w.drewN m := by
  obtain ⟨m, rfl⟩ := h
  exact fun n => ⟨_, World.drewN_drewN _ _ _⟩
set_option maxHeartbeats 1000000 in
theorem specPick_no (v : Value) (L : List Int) (l : Int) (w : World) (hv : IL w v L) (hn : L.length ≤ 1048576) (h : pkB L l = false) :
    Calls Try.prog 46 #[v, .int .i64 l] w (SaysIB 0 false w) := by
  obtain ⟨ao, cap, rfl⟩ := hv.long
  clear hv
  by_cases h1 : (L.length : Int) < 1
  · clear h
    go_enter Try.func46, Try.ntmps46
    go_wp2_with fail
    go_ret2
    exact saysIB rfl (Below.refl _ _)
  · by_cases h2 : 64 < (L.length : Int)
    · have hd : decide ((L.length : Int) > 64) = true := by simp; omega
      have hd1 : decide ((L.length : Int) < 1) = false := by simp; omega
      clear h
      go_enter Try.func46, Try.ntmps46
      go_wp2_with fail
      go_ret2
      exact saysIB rfl (Below.refl _ _)
    · have hd : decide ((L.length : Int) > 64) = false := by simp; omega
      have hd1 : decide ((L.length : Int) < 1) = false := by simp; omega
      have wn : IntKind.i64.wrap ((L.length : Int) - 1) = (L.length : Int) - 1 := IntWalk.i64_in _ (by omega)
      have T := Lib.hid (show (decide (0 ≤ l) && decide (l ≤ (L.length : Int) - 1)) = false by
        unfold pkB pk64 inB at h
        rw [decide_eq_true (by omega : 1 ≤ (L.length : Int)), decide_eq_true (by omega : (L.length : Int) ≤ 64)] at h
        simpa using h)
      clear h
      go_enter Try.func46, Try.ntmps46
      go_wp2_with fail
      go_at_call 67; refine (l00In_is false l 0 ((L.length : Int) - 1) _ T.out).mono ?_; rintro e w1 ⟨rfl, m1, rfl⟩
      go_wp2_with fail
      go_ret2
      exact saysIB rfl (below_drewN (Below.refl _ _) _)
set_option maxRecDepth 100000 in
set_option maxHeartbeats 4000000 in
theorem specPick_yes (v : Value) (L : List Int) (l : Nat) (w : World) (hv : IL w v L) (n1 : 1 ≤ L.length) (n2 : L.length ≤ 64) (hl : l < L.length) :
    Calls Try.prog 46 #[v, .int .i64 l] w (SaysIB (pkF L l (L.length - l) l : Nat) true w) := by
  have T := Lib.hid (show (decide ((0 : Int) ≤ (l : Int)) && decide ((l : Int) ≤ (L.length : Int) - 1)) = true by simp; omega)
  obtain ⟨G, hG⟩ : ∃ G, pkF L l (L.length - l) l = G := ⟨_, rfl⟩
  rw [hG]
  have HG := Lib.hid hG
  have hd : decide ((L.length : Int) > 64) = false := by simp; omega
  have hd1 : decide ((L.length : Int) < 1) = false := by simp; omega
  have wn : IntKind.i64.wrap ((L.length : Int) - 1) = (L.length : Int) - 1 := IntWalk.i64_in _ (by omega)
  rcases hv with ⟨hz, -⟩ | ⟨b, off, cap, rfl, hpos, hbl, hcell⟩
  · rw [hz] at n1; simp at n1
  have HC := Lib.hid hcell
  clear hcell hG
  go_enter Try.func46, Try.ntmps46
  go_wp2_with fail
  go_at_call 67; refine (l00In_is true l 0 ((L.length : Int) - 1) _ T.out).mono ?_; rintro e w1 ⟨rfl, m1, rfl⟩
  go_wp2_with fail
  go_loopg [7] (L.length - l) (fun gk i wr => ∃ k : Nat, k ≤ L.length ∧ gk + k = L.length ∧ i = .int .i64 k ∧ pkF L l gk k = G ∧ ∃ m, wr = w.drewN m)
  case atStart => exact ⟨l, by omega, by omega, rfl, HG.out, _, rfl⟩
  case round =>
    obtain ⟨k, hk, hgk, rfl, hpk, hwr⟩ := hrel
    have HWR := Lib.hid hwr
    have HPK := Lib.hid hpk
    clear hpk
    by_cases hlt : k < L.length
    · obtain ⟨g, rfl⟩ : ∃ g, gk = g + 1 := ⟨gk - 1, by omega⟩
      clear hwr
      obtain ⟨wo, rfl⟩ : ∃ x : World, x = wr := ⟨_, rfl⟩
      obtain ⟨g2, rfl⟩ : ∃ x : Nat, x = g := ⟨_, rfl⟩
      go_wp2_with fail
      go_loopg [8, 9] l (fun gk s i wr => ∃ p : Nat, p ≤ l ∧ gk + p = l ∧ i = .int .i64 p ∧ s = .bool (grB L p k) ∧ ∃ m, wr = w.drewN m)
      case atStart => exact ⟨0, Nat.zero_le _, by omega, rfl, rfl, HWR.out⟩
      case round =>
        obtain ⟨p, hp, hgp, rfl, rfl, hwr⟩ := hrel
        have HW := Lib.hid (drewMoreP hwr)
        have HWR2 := Lib.hid hwr
        have HU := Lib.hid (grB_up L p k)
        by_cases hlp : p < l
        · have c1 : wr.cell? ⟨b, off + k, none⟩ = some (.int .i64 (L.getD k 0)) := by obtain ⟨m, rfl⟩ := hwr; exact HC.out k hlt
          have c2 : wr.cell? ⟨b, off + p, none⟩ = some (.int .i64 (L.getD p 0)) := by obtain ⟨m, rfl⟩ := hwr; exact HC.out p (by omega)
          generalize L.getD k 0 = x at c1 HU
          generalize L.getD p 0 = y at c2 HU
          have hpl : p < L.length := by omega
          clear hwr
          cases q : grB L p k with
          | false =>
            have HU2 := Lib.hid (HU.out.trans (by rw [q]; rfl : _ = false))
            clear q
            go_wp2_with fail
            go_quiet (fail)
            go_wp2_with fail
            go_roundg (gk - 1)
            case measure => omega
            case rel => exact ⟨p + 1, by omega, by omega, by go_num, by rw [HU2.out], HW.out _⟩
          | true =>
            by_cases hq : y < x
            · have hdq : decide (x > y) = true := by simp; omega
              have HU2 := Lib.hid (HU.out.trans (by rw [q, decide_eq_true hq]; rfl : _ = true))
              clear q
              go_wp2_with fail
              go_quiet (fail)
              go_wp2_with fail
              go_roundg (gk - 1)
              case measure => omega
              case rel => exact ⟨p + 1, by omega, by omega, by go_num, by rw [HU2.out], HW.out _⟩
            · have hdq : decide (x > y) = false := by simp; omega
              have HU2 := Lib.hid (HU.out.trans (by rw [q, decide_eq_false hq]; rfl : _ = false))
              clear q
              go_wp2_with fail
              go_quiet (fail)
              go_wp2_with fail
              go_roundg (gk - 1)
              case measure => omega
              case rel => exact ⟨p + 1, by omega, by omega, by go_num, by rw [HU2.out], HW.out _⟩
        · obtain rfl : p = l := by omega
          clear hwr
          cases q : grB L p k with
          | true =>
            have HY := Lib.hid ((pkF_yes (g := g2) q).symm.trans HPK.out)
            clear q
            go_wp2_with fail
            go_ret2
            obtain ⟨m, rfl⟩ := HWR2.out
            exact saysIB (by rw [HY.out]) (below_drewN (Below.refl _ _) m)
          | false =>
            have HY := Lib.hid ((pkF_no (g := g2) q).symm.trans HPK.out)
            clear q
            go_wp2_with fail
            go_roundg g2
            case measure => omega
            case rel => exact ⟨k + 1, by omega, by omega, by go_num, HY.out, HWR2.out⟩
    · obtain rfl : k = L.length := by omega
      obtain rfl : gk = 0 := by omega
      have HY : Hid (((L.length - 1 : Nat) : Int) = (G : Int)) := Lib.hid (by rw [← HPK.out]; rfl)
      clear hwr
      go_wp2_with fail
      go_ret2
      obtain ⟨m, rfl⟩ := HWR.out
      exact saysIB (by rw [← HY.out]; omega) (below_drewN (Below.refl _ _) m)
theorem specPickAfter_any (v : Value) (L : List Int) (l : Int) (w : World) (hv : IL w v L) (o : OKI L) (_ : -9223372036854775808 ≤ l ∧ l ≤ 9223372036854775807) :
    Calls Try.prog 46 #[v, .int .i64 l] w (SaysIB (pkI L l) (pkB L l) w) := by
  cases h : pkB L l with
  | false => rw [pkI_no h]; exact specPick_no v L l w hv o.size h
  | true =>
    obtain ⟨n1, n2, hl, hlt⟩ := pkB_ok h
    rw [pkI_yes h]
    have := specPick_yes v L l.toNat w hv n1 n2 hlt
    rw [← hl] at this
    exact this
end Go.Proofs.Ytgiijkbgbpohoaa
