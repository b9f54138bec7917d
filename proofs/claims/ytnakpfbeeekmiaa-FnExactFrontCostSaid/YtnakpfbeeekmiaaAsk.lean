/- Lists of asks: both sides. -/
import Derived.Test.YtnakpfbeeekmiaaArF
import Derived.Test.YtnakpfbeeekmiaaMix
import Derived.Test.YtnakpfbeeekmiaaIl
import Derived.Deep.QuietTactic
import Derived.BigQuiet
namespace Go.Proofs.Ytnakpfbeeekmiaa
open Go.RowKit Go.ChangeShapes Go.WideShapes

def few64 (n : Nat) : Bool := decide (1 ≤ (n : Int)) && decide ((n : Int) ≤ 64)
def asksB (L : List Int) (m : Int) : Bool := allIn L 0 m && few64 L.length
theorem few64_cases {n : Nat} : (few64 n = true ∧ 1 ≤ (n : Int) ∧ (n : Int) ≤ 64) ∨ (few64 n = false ∧ (n : Int) < 1) ∨ (few64 n = false ∧ 1 ≤ (n : Int) ∧ 64 < (n : Int)) := by
  unfold few64
  by_cases h1 : 1 ≤ (n : Int)
  · by_cases h2 : (n : Int) ≤ 64
    · exact Or.inl ⟨by simp [h1, h2], h1, h2⟩
    · exact Or.inr (Or.inr ⟨by simp; omega, h1, by omega⟩)
  · exact Or.inr (Or.inl ⟨by simp; omega, by omega⟩)
set_option maxHeartbeats 1000000 in
theorem l06Asks_any (v : Value) (L : List Int) (n : Int) (w : World) (hv : IL w v L) (hn : L.length ≤ 1048576) (n1 : 1 ≤ n) (n2 : n ≤ 64) :
    Calls Try.prog 87 #[v, .int .i64 n] w (Tells (asksB L (n - 1)) w) := by
  unfold asksB
  have wq : IntKind.i64.wrap (n - 1) = n - 1 := by rw [IntKind.wrap_i64]; omega
  rcases hv with ⟨rfl, ao, cap, rfl⟩ | ⟨b, off, cap, rfl, hpos, hbl, hcell⟩
  · go_enter Try.func87, Try.ntmps87
    go_wp2
    refine wp_loop_rounds 1 ?_
    rw [rounds_succ]
    go_wp2
    go_ret
    exact tells 0 rfl
  · have HC := Lib.hid hcell
    clear hcell
    go_enter Try.func87, Try.ntmps87
    go_wp2
    go_loopw [5] (fun i wr => ∃ k : Nat, k ≤ L.length ∧ i = .int .i64 k ∧ (∀ j, j < k → inB (L.getD j 0) 0 (n - 1) = true) ∧ ∃ m, wr = w.drewN m) (fun i _ => L.length - (intOf i).toNat)
    case atStart => exact ⟨0, Nat.zero_le _, rfl, fun j hj => by omega, 0, rfl⟩
    case round =>
      obtain ⟨k, hk, rfl, hall, hwr⟩ := hrel
      have HL := Lib.hid hall
      have HW := Lib.hid (drew_more hwr)
      clear hall
      by_cases hlt : k < L.length
      · have c1 : wr.cell? ⟨b, off + k, none⟩ = some (.int .i64 (L.getD k 0)) := by obtain ⟨n, rfl⟩ := hwr; exact HC.out k hlt
        obtain ⟨y, hy⟩ : ∃ y, y = L.getD k 0 := ⟨_, rfl⟩
        rw [← hy] at c1
        have HY := Lib.hid hy
        clear hy hwr
        cases ht : inB y 0 (n - 1) with
        | false =>
          have T := Lib.hid (show (decide (0 ≤ y) && decide (y ≤ n - 1)) = false from ht)
          clear ht
          go_wp2_with (go_at_call 78; refine (l00In_is _ y 0 (n - 1) _ T.out).mono ?_; rintro e w' ⟨rfl, m, rfl⟩)
          go_ret
          obtain ⟨m2, h2⟩ := HW.out m
          exact ⟨ret_bool (by rw [allIn_no hlt (by rw [← HY.out]; exact T.out), Bool.false_and]), m2, h2⟩
        | true =>
          have T := Lib.hid (show (decide (0 ≤ y) && decide (y ≤ n - 1)) = true from ht)
          clear ht
          go_wp2_with (go_at_call 78; refine (l00In_is _ y 0 (n - 1) _ T.out).mono ?_; rintro e w' ⟨rfl, m, rfl⟩)
          go_roundw
          case rel => exact ⟨k + 1, by omega, by go_num, fun j hj => by
            by_cases e : j = k
            · subst e; rw [← HY.out]; exact T.out
            · exact HL.out j (by omega), HW.out m⟩
          case measure => simp [intOf]; omega
      · obtain rfl : k = L.length := by omega
        have HWR := Lib.hid hwr
        have HA : Hid (allIn L 0 (n - 1) = true) := Lib.hid (rngAll HL.out)
        clear hwr
        rcases few64_cases (n := L.length) with ⟨f, f1, f2⟩ | ⟨f, f1⟩ | ⟨f, f1, f2⟩
        · have F := Lib.hid f
          clear f
          go_wp2
          go_ret
          exact ⟨ret_bool (by rw [HA.out, F.out]; simp <;> omega), HWR.out⟩
        · omega
        · have F := Lib.hid f
          clear f
          go_wp2
          go_ret
          exact ⟨ret_bool (by rw [HA.out, F.out]; simp <;> omega), HWR.out⟩
theorem l06Asks_is (t : Bool) (v : Value) (L : List Int) (n : Int) (w : World) (hv : IL w v L) (hn : L.length ≤ 1048576) (n1 : 1 ≤ n) (n2 : n ≤ 64) (ht : asksB L (n - 1) = t) :
    Calls Try.prog 87 #[v, .int .i64 n] w (Tells t w) := by subst ht; exact l06Asks_any v L n w hv hn n1 n2
set_option maxHeartbeats 1000000 in
theorem areAsks_any (v : Value) (L : List Int) (m : Int) (w : World) (hv : IL w v L) (hn : L.length ≤ 1048576) :
    Calls Try.prog 88 #[v, .int .i64 m] w (Tells (asksB L m) w) := by
  have HV := Lib.hid hv
  obtain ⟨ao, cap, rfl⟩ := hv.long
  have e : asksB L m = (few64 L.length && allIn L 0 m) := Bool.and_comm _ _
  rw [e]
  cases h1 : few64 L.length with
  | false =>
    have H1 := Lib.hid (show (decide (1 ≤ (L.length : Int)) && decide ((L.length : Int) ≤ 64)) = false from h1)
    clear h1 hv e
    go_enter Try.func88, Try.ntmps88
    go_wp2_with fail
    go_at_call 56; refine (isFrom_is false _ 1 64 _ H1.out).mono ?_; rintro e w' ⟨rfl, m, rfl⟩
    go_wp2_with fail
    go_ret
    exact tells _ rfl
  | true =>
    have H1 := Lib.hid (show (decide (1 ≤ (L.length : Int)) && decide ((L.length : Int) ≤ 64)) = true from h1)
    obtain ⟨t, h2⟩ : ∃ t, allIn L 0 m = t := ⟨_, rfl⟩
    have H2 := Lib.hid h2
    rw [h2]
    clear h1 h2 hv e
    go_enter Try.func88, Try.ntmps88
    go_wp2_with fail
    go_at_call 56; refine (isFrom_is true _ 1 64 _ H1.out).mono ?_; rintro e w' ⟨rfl, m1, rfl⟩
    go_wp2_with fail
    go_at_call 112; refine (areFrom_is t 0 _ L m _ (VL.drewN HV.out _) hn H2.out).mono ?_; rintro e w' ⟨rfl, m2, rfl⟩
    go_wp2_with fail
    go_ret
    exact tells _ (Bool.true_and _).symm
theorem areAsks_is (t : Bool) (v : Value) (L : List Int) (m : Int) (w : World) (hv : IL w v L) (hn : L.length ≤ 1048576) (ht : asksB L m = t) :
    Calls Try.prog 88 #[v, .int .i64 m] w (Tells t w) := by subst ht; exact areAsks_any v L m w hv hn
end Go.Proofs.Ytnakpfbeeekmiaa
