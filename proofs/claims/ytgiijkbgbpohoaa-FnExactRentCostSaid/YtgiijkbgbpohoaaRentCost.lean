/- RentCost answers as its model, for all arguments; it writes into no argument. -/
import Derived.Test.YtgiijkbgbpohoaaRent
import Derived.Test.YtgiijkbgbpohoaaIl
import Derived.Deep.RegionWith
import Derived.Deep.DeepCutAuto
import Derived.Test.YtgiijkbgbpohoaaFrame
import Derived.Outline
namespace Go.Proofs.Ytgiijkbgbpohoaa
open Go.ChangeShapes Go.WideShapes Go.ChangeAt Go.RowKit Go.ChangeMaps

set_option maxRecDepth 100000 in
set_option maxHeartbeats 8000000 in
theorem fnExactRentCost_main  (d : Int) (b : Int) (l : Int) (w : World) (o0 : -9223372036854775808 ≤ d ∧ d ≤ 9223372036854775807) (o1 : -9223372036854775808 ≤ b ∧ b ≤ 9223372036854775807) (o2 : -9223372036854775808 ≤ l ∧ l ≤ 9223372036854775807) :
    Calls Try.prog 10 #[.int .i64 d, .int .i64 b, .int .i64 l] w (Says true w) := by
  skip
  go_enter Try.func10, Try.ntmps10
  go_wp2_with fail
  go_at_call 40; refine (specRentCost_any d b l _  o0 o1 o2).mono ?_; rintro e w1 ⟨rfl, b⟩
  have bz := b
  have z1 : w.heap.size ≤ w1.heap.size := bz.size
  have H1 := Lib.hid ((Below.refl w.heap.size w).trans (bz.mono (Below.refl w.heap.size w).size))
  clear b bz
  go_wp2_with fail
  go_at_call 41; refine (implRentCost_any d b l _  o0 o1 o2).mono ?_; rintro e w2 ⟨rfl, b⟩
  have bz := b
  have z2 : w1.heap.size ≤ w2.heap.size := bz.size
  have H2 := Lib.hid (H1.out.trans (bz.mono H1.out.size))
  clear b bz H1
  go_wp2_with fail
  go_ret
  exact says rfl H2.out
set_option maxRecDepth 100000 in
set_option maxHeartbeats 8000000 in
theorem fnExactRentCost_all  (d : Int) (b : Int) (l : Int) (w : World) (f0 : -9223372036854775808 ≤ d ∧ d ≤ 9223372036854775807) (f1 : -9223372036854775808 ≤ b ∧ b ≤ 9223372036854775807) (f2 : -9223372036854775808 ≤ l ∧ l ≤ 9223372036854775807) :
    Calls Try.prog 10 #[.int .i64 d, .int .i64 b, .int .i64 l] w (Says true w) := by
  exact fnExactRentCost_main  d b l w  f0 f1 f2

theorem Try.own : ownKnob Try.prog.godebug = none := by kernel_rfl
theorem Try.laidOut : laidOutB Try.prog = true := by kernel_rfl
theorem f32_lt {x : Nat} (h : (Lit.float .f32 x).wf = true) : x < 4294967296 := by simpa [Lit.wf] using h
theorem f64_lt {x : Nat} (h : (Lit.float .f64 x).wf = true) : x < 18446744073709551616 := by simpa [Lit.wf] using h
theorem i64_in {x : Int} (h : (Lit.int .i64 x).wf = true) : -9223372036854775808 ≤ x ∧ x ≤ 9223372036854775807 := by
  have h1 : IntKind.i64.min = -9223372036854775808 := by decide
  have h2 : IntKind.i64.max = 9223372036854775807 := by decide
  simp only [Lit.wf, Bool.and_eq_true, decide_eq_true_eq, h1, h2] at h
  exact h

set_option maxRecDepth 100000 in
theorem fnExactRentCost_lifted (os : Os) (started : os.Started) (H : Type) (enc : TypeId × Value → H) :
    ReturnsInHanded {} Try.checked os 10 .any (Rows.fnExactRentCostSpec.pre6 enc Try.prog Try.f10 [] false) (Rows.fnExactRentCostSpec.post enc Try.prog Try.f10 false true false false) := by
  refine Frame.law_lifted (tb := 4) Try.own started (by kernel_rfl) Try.func10
    (ChangeSpec.witness6 (enc := enc) (C := Try.checked) false ⟨#[], #[.int .i64 0, .int .i64 0, .int .i64 0], []⟩ 8 (by kernel_rfl) (by kernel_rfl) (by kernel_rfl) (by kernel_rfl))
    Try.laidOut (by kernel_rfl) rfl (by kernel_rfl) Try.underlying4 (fun ds hd => ?_) ?_
  · rw [Try.params10] at hd
    match ds, hd with
    | [_, _, _], _ => exact ⟨rfl, rfl, rfl⟩
  intro W base args ds p hval0 hA0 hlt hsz0
  have hval : ∀ (j : Nat) t v, Try.f10.params[j]? = some t → args[j]? = some v → Value.okWide Try.prog W .any base t v := hval0
  have hA : DataW.TrodAll enc Try.prog W 0 (fun _ => true) true Try.f10.params.toList args.toList ds p := hA0
  have hsz : (DataW.weightsEach Try.prog Try.f10.params.toList ds).all (· ≤ reachBytes) = true := hsz0
  rw [Try.params10] at hA hval hsz
  clear hval0 hA0 hsz0
  obtain ⟨v0, v1, v2, d0, d1, d2, p0, p1, p2, rfl, rfl, rfl, h0, h1, h2⟩ := trodAll_three hA
  obtain ⟨a0, rfl, rfl, rfl, w0⟩ := open_int Try.underlying2 (hval 0 2 v0 rfl rfl) h0
  have b0 := i64_in w0
  obtain ⟨a1, rfl, rfl, rfl, w1⟩ := open_int Try.underlying2 (hval 1 2 v1 rfl rfl) h1
  have b1 := i64_in w1
  obtain ⟨a2, rfl, rfl, rfl, w2⟩ := open_int Try.underlying2 (hval 2 2 v2 rfl rfl) h2
  have b2 := i64_in w2
  exact fnExactRentCost_all a0 a1 a2 W  b0 b1 b2

theorem fnExactRentCost_holds : Rows.FnExactRentCostSaid :=
  OpenClaim.holds_of_wide 10 Try.f10 rfl rfl rfl rfl rfl rfl rfl ⟨rfl, rfl, rfl, rfl, rfl⟩ rfl rfl rfl rfl rfl (by kernel_rfl) Try.func10 (by kernel_rfl)
    (of_decide_eq_true (by kernel_rfl)) (by unfold Func.isWrapper; first | (rw [if_pos (by decide +kernel)]; kernel_rfl) | (rw [if_neg (by decide +kernel)]; exact ⟨rfl, rfl⟩))
    (fun os started H enc _ => fnExactRentCost_lifted os started H enc)
end Go.Proofs.Ytgiijkbgbpohoaa
