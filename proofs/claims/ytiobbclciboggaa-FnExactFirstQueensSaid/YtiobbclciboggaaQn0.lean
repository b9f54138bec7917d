/- Queens that are apart: what they are, and the program's test. -/
import Derived.Test.YtiobbclciboggaaIl
import Derived.Test.YtiobbclciboggaaSz
import Derived.Deep.QuietTactic
import Derived.BigQuiet
namespace Go.Proofs.Ytiobbclciboggaa
open Go.RowKit Go.ChangeShapes Go.WideShapes

/-- Does the queen in row i meet one in column x, in the row behind P? -/
def metB (P : List Int) (x : Int) (i : Nat) : Bool := decide (P.getD i 0 = x) || (decide (P.getD i 0 = x - ((P.length : Int) - (i : Int))) || decide (P.getD i 0 = x + ((P.length : Int) - (i : Int))))
def apB (P : List Int) (x : Int) : Bool := (List.range P.length).all fun i => !metB P x i
theorem apB_no {P : List Int} {x : Int} {i : Nat} (hi : i < P.length) (h : metB P x i = true) : apB P x = false := rngNot hi (by rw [h]; rfl)
theorem apB_yes {P : List Int} {x : Int} (h : ∀ i, i < P.length → metB P x i = false) : apB P x = true := rngAll fun i hi => by rw [h i hi]; rfl
set_option maxHeartbeats 1000000 in
theorem apart_any (v : Value) (P : List Int) (x : Int) (w : World) (hv : IL w v P) (hn : P.length ≤ 1000) (hx0 : 0 ≤ x) (hx1 : x ≤ 1000) :
    Calls Try.prog 114 #[v, .int .i64 x] w (Tells (apB P x) w) := by
  rcases hv with ⟨rfl, ao, cap, rfl⟩ | ⟨b, off, cap, rfl, hpos, hbl, hcell⟩
  · go_enter Try.func114, Try.ntmps114
    go_wp2_with fail
    refine wp_loop_rounds 1 ?_
    rw [rounds_succ]
    go_wp2_with fail
    go_ret
    exact tells 0 rfl
  · have HC := Lib.hid hcell
    clear hcell
    go_enter Try.func114, Try.ntmps114
    go_wp2_with fail
    go_loopg [10] P.length (fun gk i wr => ∃ k : Nat, k ≤ P.length ∧ gk + k = P.length ∧ i = .int .i64 k ∧ (∀ j, j < k → metB P x j = false) ∧ ∃ m, wr = w.drewN m)
    case atStart => exact ⟨0, Nat.zero_le _, by omega, rfl, fun j hj => by omega, 0, rfl⟩
    case round =>
      obtain ⟨k, hk, hgk, rfl, hall, hwr⟩ := hrel
      have HL := Lib.hid hall
      have HW := Lib.hid hwr
      clear hall
      by_cases hlt : k < P.length
      · have c1 : wr.cell? ⟨b, off + k, none⟩ = some (.int .i64 (P.getD k 0)) := by obtain ⟨n, rfl⟩ := hwr; exact HC.out k hlt
        obtain ⟨y, hy⟩ : ∃ y, y = P.getD k 0 := ⟨_, rfl⟩
        obtain ⟨d, hd⟩ : ∃ d : Int, d = (P.length : Int) - (k : Int) := ⟨_, rfl⟩
        have HM : Hid (metB P x k = (decide (y = x) || (decide (y = x - d) || decide (y = x + d)))) := Lib.hid (by unfold metB; rw [hy, hd])
        have d1 : 0 ≤ d := by omega
        have d2 : d ≤ 1000 := by omega
        have wd : IntKind.i64.wrap ((P.length : Int) - (k : Int)) = d := by rw [IntWalk.i64_in _ (by omega)]; exact hd.symm
        have w1 : IntKind.i64.wrap (x - d) = x - d := IntWalk.i64_in _ (by omega)
        have w2 : IntKind.i64.wrap (x + d) = x + d := IntWalk.i64_in _ (by omega)
        rw [← hy] at c1
        clear hwr hy hd
        by_cases q1 : y = x
        · have HR : Hid (false = apB P x) := Lib.hid (apB_no hlt (by rw [HM.out, decide_eq_true q1]; rfl)).symm
          obtain ⟨n, hn2⟩ := HW.out
          subst hn2
          clear HW
          go_wp2_with fail
          go_ret
          exact tells _ HR.out
        by_cases q2 : y = x - d
        · have HR : Hid (false = apB P x) := Lib.hid (apB_no hlt (by rw [HM.out, decide_eq_true q2, Bool.true_or, Bool.or_true])).symm
          obtain ⟨n, hn2⟩ := HW.out
          subst hn2
          have t2 : (y == x - d) = true := by simpa using q2
          have t1 : (y == x) = false := by simpa using q1
          clear HW q2 q1
          go_wp2_with fail
          go_ret
          exact tells _ HR.out
        by_cases q3 : y = x + d
        · have HR : Hid (false = apB P x) := Lib.hid (apB_no hlt (by rw [HM.out, decide_eq_true q3, Bool.or_true, Bool.or_true])).symm
          obtain ⟨n, hn2⟩ := HW.out
          subst hn2
          have t3 : (y == x + d) = true := by simpa using q3
          have t2 : (y == x - d) = false := by simpa using q2
          have t1 : (y == x) = false := by simpa using q1
          clear HW q3 q2 q1
          go_wp2_with fail
          go_ret
          exact tells _ HR.out
        have HU : Hid (∀ j, j < k + 1 → metB P x j = false) := Lib.hid fun j hj => by
          by_cases e : j = k
          · subst e; rw [HM.out, decide_eq_false q1, decide_eq_false q2, decide_eq_false q3]; rfl
          · exact HL.out j (by omega)
        have t3 : (y == x + d) = false := by simpa using q3
        have t2 : (y == x - d) = false := by simpa using q2
        have t1 : (y == x) = false := by simpa using q1
        clear q3 q2 q1
        go_wp2_with fail
        go_roundg (gk - 1)
        case measure => omega
        case rel => exact ⟨k + 1, by omega, by omega, by go_num, HU.out, HW.out⟩
      · obtain rfl : k = P.length := by omega
        have HR : Hid (true = apB P x) := Lib.hid (apB_yes HL.out).symm
        obtain ⟨n, hn2⟩ := HW.out
        subst hn2
        clear HW hwr
        go_wp2_with fail
        go_ret
        exact tells _ HR.out
end Go.Proofs.Ytiobbclciboggaa
