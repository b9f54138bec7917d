/- Shrinking of finite singles: the program's side. -/
import Derived.Test.YtcnfmphokobgiaaLawF
import Derived.Test.YtcnfmphokobgiaaSh0
import Derived.Test.YtcnfmphokobgiaaGrw
import Derived.Deep.LoopGhost
import Derived.Outline
namespace Go.Proofs.Ytcnfmphokobgiaa
open Go.RowKit Go.ChangeShapes Go.WideShapes
attribute [local go_sem] run_negF

theorem implShare_any (x : Nat) (w : World) : Calls Try.prog 93 #[.float .f32 x] w (Tells (leastB x) w) := by
  unfold leastB geB
  cases hf : fin32 x with
  | true =>
    have HF := Lib.hid hf
    clear hf
    go_enter Try.func93, Try.ntmps93
    go_wp2_with (go_at_call 131; refine (implFinite_any _ _).mono ?_; rintro e w' ⟨rfl, m, rfl⟩; rw [HF.out])
    go_ret
    exact tells _ (by simp)
  | false =>
    have HF := Lib.hid hf
    clear hf
    go_enter Try.func93, Try.ntmps93
    go_wp2_with (go_at_call 131; refine (implFinite_any _ _).mono ?_; rintro e w' ⟨rfl, m, rfl⟩; rw [HF.out])
    go_ret
    exact tells _ rfl
theorem isFrom_any (lo n hi : Int) (w : World) : Calls Try.prog 104 #[.int .i64 lo, .int .i64 n, .int .i64 hi] w (Tells (decide (lo ≤ n) && decide (n ≤ hi)) w) := by
  by_cases h1 : lo ≤ n
  · by_cases h2 : n ≤ hi
    · rw [decide_eq_true h1, decide_eq_true h2]
      go_enter Try.func104, Try.ntmps104
      go_wp2
      go_ret
      exact tells 0 (by simp)
    · rw [decide_eq_true h1, decide_eq_false h2]
      go_enter Try.func104, Try.ntmps104
      go_wp2
      go_ret
      exact tells 0 (by simp)
  · rw [decide_eq_false h1]
    go_enter Try.func104, Try.ntmps104
    go_wp2
    go_ret
    exact tells 0 (by simp)
theorem isFrom_is (t : Bool) (lo n hi : Int) (w : World) (h : (decide (lo ≤ n) && decide (n ≤ hi)) = t) : Calls Try.prog 104 #[.int .i64 lo, .int .i64 n, .int .i64 hi] w (Tells t w) := by
  subst h; exact isFrom_any lo n hi w
theorem implShrinkable_any (v : Value) (Z : List Nat) (w : World) (hv : SL w v Z) (hn : Z.length ≤ 1048576) :
    Calls Try.prog 92 #[v] w (Tells (decide (1 ≤ Z.length) && (decide (Z.length ≤ 64) && finAll Z)) w) := by
  have HV := Lib.hid hv
  obtain ⟨ao, cap, rfl⟩ := hv.long'
  clear hv
  by_cases h1 : 1 ≤ Z.length ∧ Z.length ≤ 64
  · have H1 : Hid ((decide ((1 : Int) ≤ (Z.length : Int)) && decide ((Z.length : Int) ≤ 64)) = true) := Lib.hid (by simp; omega)
    rw [decide_eq_true h1.1, decide_eq_true h1.2, Bool.true_and, Bool.true_and]
    clear h1
    go_enter Try.func92, Try.ntmps92
    go_wp2_with fail
    go_at_call 104; refine (isFrom_is true _ _ _ _ H1.out).mono ?_; rintro e w1 ⟨rfl, n1, rfl⟩
    go_wp2_with fail
    go_at_call 100; refine (areFinite_any _ _ Z _ (show SL (w.drewN n1) _ Z from HV.out) hn).mono ?_; rintro e w2 ⟨rfl, n2, rfl⟩
    go_wp2_with fail
    go_ret
    exact ⟨by show Ending.returned (.bool (finN (↑Z.length) Z)) = _; unfold finN; simp, _, rfl⟩
  · have H1 : Hid ((decide ((1 : Int) ≤ (Z.length : Int)) && decide ((Z.length : Int) ≤ 64)) = false) := Lib.hid (by simp; omega)
    have HE : Hid ((decide (1 ≤ Z.length) && (decide (Z.length ≤ 64) && finAll Z)) = false) := Lib.hid (by
      by_cases a : 1 ≤ Z.length
      · rw [decide_eq_false (show ¬ Z.length ≤ 64 by omega)]; simp
      · rw [decide_eq_false a]; simp)
    rw [HE.out]
    clear h1
    go_enter Try.func92, Try.ntmps92
    go_wp2_with fail
    go_at_call 104; refine (isFrom_is false _ _ _ _ H1.out).mono ?_; rintro e w1 ⟨rfl, n1, rfl⟩
    go_wp2_with fail
    go_ret
    exact tells _ rfl

/-- A single that a quiet call answers. -/
def TellsF (x : Nat) (w : World) (e : Ending) (w' : World) : Prop := e = .returned (.float .f32 x) ∧ ∃ n, w' = w.drewN n
set_option maxHeartbeats 1000000 in
theorem shrinkNumber_any (x b : Nat) (w : World) (hx : fin32 x = true) (hb : fin32 b = true) :
    Calls Try.prog 94 #[.float .f32 x, .float .f32 b] w (TellsF (shI b x) w) := by
  have rs := fun W => run_subF (P := Try.prog) hx hb 50 W
  have ra := fun W => run_addF (P := Try.prog) hx hb 50 W
  unfold shI
  cases h1 : gtB x b with
  | true =>
    unfold gtB at h1
    clear ra
    go_enter Try.func94, Try.ntmps94
    go_wp2
    go_ret
    exact ⟨rfl, 0, rfl⟩
  | false =>
    unfold gtB at h1
    clear rs
    cases h2 : ltB x (negF b) with
    | true =>
      unfold ltB at h2
      go_enter Try.func94, Try.ntmps94
      go_wp2
      go_ret
      exact ⟨rfl, 0, rfl⟩
    | false =>
      unfold ltB at h2
      clear ra
      go_enter Try.func94, Try.ntmps94
      go_wp2
      go_ret
      exact ⟨rfl, 0, rfl⟩
end Go.Proofs.Ytcnfmphokobgiaa
