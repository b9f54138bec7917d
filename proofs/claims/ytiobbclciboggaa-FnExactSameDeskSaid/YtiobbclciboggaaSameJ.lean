/- Are lists of jobs the same? The program, and what '==' of jobs says. -/
import Derived.Test.YtiobbclciboggaaJobK
import Derived.Test.YtiobbclciboggaaSz
import Derived.Test.YtiobbclciboggaaArF
import Derived.Laws.StructEq
namespace Go.Proofs.Ytiobbclciboggaa
open Go.RowKit Go.ChangeShapes Go.WideShapes

theorem Tells.of {b c : Bool} {w wr : World} (h : ∀ m, ∃ n, wr.drewN m = w.drewN n) {m : Nat} (e : c = b) : Tells c w (.returned (.bool b)) (wr.drewN m) := by
  obtain ⟨n, hn⟩ := h m
  rw [hn, e]
  exact ⟨rfl, n, rfl⟩
def eqA (a c : Ac) : Bool := (a.f == c.f) && ((a.t == c.t) && ((a.r == c.r) && (a.c == c.c)))
def sameA (Y Z : List Ac) : Bool := decide (Y.length = Z.length) && (List.range Y.length).all fun i => eqA (Y.getD i zA) (Z.getD i zA)
theorem sameA_lens {Y Z : List Ac} (h : Y.length ≠ Z.length) : sameA Y Z = false := by unfold sameA; rw [decide_eq_false h]; rfl
theorem sameA_yes {Y Z : List Ac} (h : Y.length = Z.length) (k : ∀ i, i < Y.length → eqA (Y.getD i zA) (Z.getD i zA) = true) : sameA Y Z = true := by unfold sameA; rw [decide_eq_true h, rngAll k]; rfl
theorem sameA_no {Y Z : List Ac} {i : Nat} (hi : i < Y.length) (k : eqA (Y.getD i zA) (Z.getD i zA) = false) : sameA Y Z = false := by unfold sameA; rw [rngNot hi k]; simp

/-- Two arcs by '=='. -/
theorem run_eqJob (a c : Ac) (w : World) : (Op.equalIn 10000 107 (.agg #[.int .i64 a.f, .int .i64 a.t, .int .i64 a.r, .int .i64 a.c]) (.agg #[.int .i64 c.f, .int .i64 c.t, .int .i64 c.r, .int .i64 c.c])).run Try.prog w = .ok (eqA a c) w := by
  have u3 := Try.underlying2
  have a3 := Try.isAgg2
  have z3 := Try.sizeOf2
  have hS : Try.prog.underlying 107 = some (.struct (Try.prog.fieldsOf 107)) := by kernel_rfl
  rw [show (10000 : Nat) = 9999 + 1 from rfl, run_equalIn_agg w 9999 107 _ _ hS (by kernel_rfl)]
  simp only [Program.fieldsOf, Try.underlying107]
  go_simp
  unfold eqA
  by_cases h1 : a.f = c.f <;> by_cases h2 : a.t = c.t <;> by_cases h3 : a.r = c.r <;> by_cases h4 : a.c = c.c <;> simp [h1, h2, h3, h4]
theorem guard_job : Try.prog.eqGuardType Try.prog.depth 107 = false := by kernel_rfl
theorem run_guardA (op : BinOp) (x y : Operand) (xs ys : Array Value) (w : World) : (eqGuard op 107 x y (.agg xs) (.agg ys)).run Try.prog w = .ok () w := run_eqGuard_agg w op _ x y xs ys guard_job
theorem run_neqA (a c : Ac) (w : World) : (binOp .neq 107 (.agg #[.int .i64 a.f, .int .i64 a.t, .int .i64 a.r, .int .i64 a.c]) (.agg #[.int .i64 c.f, .int .i64 c.t, .int .i64 c.r, .int .i64 c.c])).run Try.prog w = .ok (.bool (!eqA a c)) w := by
  rw [run_neq_struct, run_eqJob]; rfl
attribute [local go_sem high] run_neqA run_eqJob run_guardA

set_option maxHeartbeats 4000000 in
theorem eqJobs_num (b1 off1 cap1 b2 off2 cap2 : Nat) (Y Z : List Ac) (w : World) (hn : Y.length ≤ 1048576) (he : Y.length = Z.length) (hc1 : ∀ i, i < Y.length → ArcAt w b1 (off1 + i * 4) (Y.getD i zA)) (hc2 : ∀ i, i < Z.length → ArcAt w b2 (off2 + i * 4) (Z.getD i zA)) :
    Calls Try.prog 99 #[.slice (some ⟨b1, off1, none⟩) Y.length cap1, .slice (some ⟨b2, off2, none⟩) Z.length cap2] w (Tells (sameA Y Z) w) := by
  have HE := Lib.hid he
  have C1 := Lib.hid hc1
  have C2 := Lib.hid hc2
  have hne : ((Y.length : Int) != (Z.length : Int)) = false := by simp; omega
  have hle : Z.length ≤ 1048576 := by omega
  clear he hc1 hc2
  go_enter Try.func99, Try.ntmps99
  go_wp2
  go_loopw [13] (fun i wr => ∃ k : Nat, k ≤ Y.length ∧ i = .int .i64 k ∧ (∀ j, j < k → eqA (Y.getD j zA) (Z.getD j zA) = true) ∧ ∃ n, wr = w.drewN n) (fun i _ => Y.length - (intOf i).toNat)
  case atStart => exact ⟨0, Nat.zero_le _, rfl, fun j hj => by omega, 0, rfl⟩
  case round =>
    obtain ⟨k, hk, rfl, hall, hwr⟩ := hrel
    have HL := Lib.hid hall
    have HW := Lib.hid (drew_more hwr)
    clear hall
    by_cases hlt : k < Y.length
    · have hlt2 : k < Z.length := by have := HE.out; omega
      have e1 : ArcAt wr b1 (off1 + k * 4) (Y.getD k zA) := by obtain ⟨n, rfl⟩ := hwr; exact (C1.out k hlt).dn n
      have e2 : ArcAt wr b2 (off2 + k * 4) (Z.getD k zA) := by obtain ⟨n, rfl⟩ := hwr; exact (C2.out k hlt2).dn n
      obtain ⟨a, ha⟩ : ∃ a, a = Y.getD k zA := ⟨_, rfl⟩
      obtain ⟨c, hc⟩ : ∃ c, c = Z.getD k zA := ⟨_, rfl⟩
      rw [← ha] at e1
      rw [← hc] at e2
      have HA := Lib.hid ha
      have HC := Lib.hid hc
      obtain ⟨c0, c1, c2, c3⟩ := e1
      obtain ⟨d0, d1, d2, d3⟩ := e2
      clear hwr ha hc
      cases q : eqA a c with
      | true =>
        have Q := Lib.hid q
        go_wp2_with fail
        go_quiet (fail)
        go_wp2_with fail
        go_roundw
        case rel => exact ⟨k + 1, by omega, by go_num, fun j hj => by
          by_cases e : j = k
          · subst e; rw [← HA.out, ← HC.out]; exact Q.out
          · exact HL.out j (by omega), HW.out _⟩
        case measure => simp [intOf]; omega
      | false =>
        have Q := Lib.hid q
        go_wp2_with fail
        go_quiet (fail)
        go_wp2_with fail
        go_ret
        exact Tells.of HW.out (sameA_no hlt (by rw [← HA.out, ← HC.out]; exact Q.out))
    · obtain rfl : k = Y.length := by omega
      clear hwr
      go_wp2_with fail
      go_ret
      exact Tells.of (m := 0) HW.out (sameA_yes HE.out HL.out)
theorem eqJobs_any (u v : Value) (Y Z : List Ac) (w : World) (hn : Y.length ≤ 1048576) (hm : Z.length ≤ 1048576) (hu : AV w u Y) (hv : AV w v Z) :
    Calls Try.prog 99 #[u, v] w (Tells (sameA Y Z) w) := by
  by_cases he : Y.length = Z.length
  · rcases hu with ⟨rfl, ao, cap, rfl⟩ | ⟨b, off, cap, rfl, hpos, hbl, hcell⟩
    · have hz : Z = [] := List.eq_nil_of_length_eq_zero he.symm
      subst hz
      obtain ⟨ao2, cap2, rfl⟩ := hv.long
      clear hv
      go_enter Try.func99, Try.ntmps99
      go_wp2
      refine wp_loop_rounds 1 ?_
      rw [rounds_succ]
      go_wp2
      go_ret
      exact tells 0 rfl
    · rcases hv with ⟨rfl, -⟩ | ⟨b2, off2, cap2, rfl, hpos2, hbl2, hcell2⟩
      · simp at he; rw [he] at hpos; simp at hpos
      · exact eqJobs_num _ _ _ _ _ _ Y Z w hn he hcell hcell2
  · have HS := Lib.hid (sameA_lens he)
    obtain ⟨ao, cap, rfl⟩ := hu.long
    obtain ⟨ao2, cap2, rfl⟩ := hv.long
    have hne : ((Y.length : Int) != (Z.length : Int)) = true := by simp; omega
    clear hu hv he
    go_enter Try.func99, Try.ntmps99
    go_wp2
    go_ret
    exact tells 0 HS.out.symm
end Go.Proofs.Ytiobbclciboggaa
