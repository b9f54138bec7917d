/- Lists whose numbers come to the front: the program, for all arguments. -/
import Derived.Test.YtnakpfbeeekmiaaFrI
import Derived.Test.YtnakpfbeeekmiaaAskN
namespace Go.Proofs.Ytnakpfbeeekmiaa
open Go.RowKit Go.ChangeShapes Go.WideShapes

def frB (A : List Int) (n : Int) : Bool := inB n 1 64 && asksB A (n - 1)
def frC (A : List Int) (n : Int) : Int := if frB A n then ((fcS (A.map Int.toNat) n.toNat A.length).2 : Nat) else 0
def frL (A : List Int) (n : Int) : List Int := if frB A n then intsN (fcS (A.map Int.toNat) n.toNat A.length).1 else []
theorem frB_ok {A : List Int} {n : Int} (h : frB A n = true) : ∃ (N : Nat) (Q : List Nat), n = (N : Int) ∧ A = intsN Q ∧ 1 ≤ N ∧ N ≤ 64 ∧ Q.length ≤ 64 ∧ (∀ x ∈ Q, x < N) ∧ asksB (intsN Q) ((N : Int) - 1) = true ∧ frC A n = ((fcS Q N Q.length).2 : Nat) ∧ frL A n = intsN (fcS Q N Q.length).1 := by
  have h0 := h
  unfold frB at h
  simp only [Bool.and_eq_true] at h
  obtain ⟨h1, h2⟩ := h
  have r := inB_ok h1
  obtain ⟨hA, hb⟩ := asks_nat h2
  have hl : A.length ≤ 64 := by
    have : few64 A.length = true := by unfold asksB at h2; simp only [Bool.and_eq_true] at h2; exact h2.2
    unfold few64 at this; simp only [Bool.and_eq_true, decide_eq_true_eq] at this; omega
  have hn : ((n.toNat : Nat) : Int) = n := by omega
  refine ⟨n.toNat, A.map Int.toNat, hn.symm, hA, by omega, by omega, by simp; exact hl, fun x hx => by have := hb x hx; omega, by rw [hn, ← hA]; exact h2, ?_, ?_⟩
  · unfold frC; rw [if_pos h0, List.length_map]
  · unfold frL; rw [if_pos h0, List.length_map]
theorem frL_len (A : List Int) (n : Int) : (frL A n).length ≤ 1048576 := by
  cases h : frB A n with
  | true =>
    obtain ⟨N, Q, -, -, -, h64, -, hx, -, -, e⟩ := frB_ok h
    rw [e, intsN_len, (fcS_ok hx Q.length (Nat.le_refl _)).1.len]
    omega
  | false => unfold frL; rw [h]; simp
set_option maxHeartbeats 2000000 in
theorem implFrontCost_any (v : Value) (A : List Int) (n : Int) (w : World) (hv : IL w v A) (o : OKI A) (_ : -9223372036854775808 ≤ n ∧ n ≤ 9223372036854775807) :
    Calls Try.prog 46 #[v, .int .i64 n] w (SaysIJB (frC A n) (frL A n) (frB A n) w) := by
  cases h : frB A n with
  | true =>
    obtain ⟨N, Q, rfl, rfl, a, b, c, d, e, f, g⟩ := frB_ok h
    rw [f, g]
    exact implFront_yes v Q N w hv e a b c d
  | false =>
    have e1 : frC A n = 0 := by unfold frC; rw [h]; rfl
    have e2 : frL A n = [] := by unfold frL; rw [h]; rfl
    rw [e1, e2]
    have HV := Lib.hid hv
    obtain ⟨ao, cap, rfl⟩ := hv.long
    clear hv e1 e2
    cases h1 : inB n 1 64 with
    | false =>
      have H1 : Hid ((decide ((1 : Int) ≤ n) && decide (n ≤ 64)) = false) := Lib.hid h1
      clear h h1
      go_enter Try.func46, Try.ntmps46
      go_wp2_with fail
      go_at_call 56; refine (isFrom_is false _ 1 64 _ H1.out).mono ?_; rintro e w2 ⟨rfl, m2, rfl⟩
      go_wp2_with fail
      refine bodyPost_ret (v := .tuple #[.int .i64 0, .slice none 0 0, .bool false]) (by simp [results, Try.results46, go_sem]) rfl ?_
      exact ⟨_, rfl, SI.nil _ (Nat.le_refl _) _ _, below_drewN (Below.refl _ _) _⟩
    | true =>
      have H1 : Hid ((decide ((1 : Int) ≤ n) && decide (n ≤ 64)) = true) := Lib.hid h1
      have H2 : Hid (asksB A (n - 1) = false) := Lib.hid (by unfold frB at h; rw [h1, Bool.true_and] at h; exact h)
      have r := inB_ok h1
      have wq : IntKind.i64.wrap (n - 1) = n - 1 := by rw [IntKind.wrap_i64]; omega
      clear h h1
      go_enter Try.func46, Try.ntmps46
      go_wp2_with fail
      go_at_call 56; refine (isFrom_is true _ 1 64 _ H1.out).mono ?_; rintro e w2 ⟨rfl, m2, rfl⟩
      go_wp2_with fail
      go_at_call 88; refine (areAsks_is false _ A (n - 1) _ (VL.drewN HV.out _) o.size H2.out).mono ?_; rintro e w1 ⟨rfl, m1, rfl⟩
      go_wp2_with fail
      refine bodyPost_ret (v := .tuple #[.int .i64 0, .slice none 0 0, .bool false]) (by simp [results, Try.results46, go_sem]) rfl ?_
      exact ⟨_, rfl, SI.nil _ (Nat.le_refl _) _ _, below_drewN (Below.refl _ _) _⟩
end Go.Proofs.Ytnakpfbeeekmiaa
