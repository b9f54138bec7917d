/- CheckOf answers as its model, for every start and every string. -/
import Derived.Test.YtimdlnbdnednaacRows
import Derived.Test.YtimdlnbdnednaacFrame
import Derived.WalkKit
import Derived.WalkSpells
import Derived.WalkLawsBesides
import Derived.Lib.Hide
import Derived.ProofKit
namespace Go.Proofs.Ytimdlnbdnednaac
open Go.ChangeShapes Go.WideShapes Go.ChangeAt Go.RowKit Go.ChangeMaps

def chk (c : Int) (b : UInt8) : Int := (907 * c + (b.toNat : Int) + 179) % 65003
def chkTo (c : Int) (s : ByteArray) (k : Nat) : Int := (s.data.toList.take k).foldl chk c
theorem chkTo_zero (c : Int) (s : ByteArray) : chkTo c s 0 = c := rfl
theorem chkTo_succ (c : Int) (s : ByteArray) (k : Nat) (h : k < s.size) : chkTo c s (k + 1) = chk (chkTo c s k) (s[k]'h) := by
  unfold chkTo
  have hl : k < s.data.toList.length := by simpa using h
  rw [List.take_succ_eq_append_getElem hl, List.foldl_append]; rfl
theorem chk_in (c : Int) (b : UInt8) : 0 ≤ chk c b ∧ chk c b < 65003 := by unfold chk; omega
theorem chkTo_in (c : Int) (s : ByteArray) (h0 : 0 ≤ c) (h1 : c < 65003) : ∀ k, k ≤ s.size → 0 ≤ chkTo c s k ∧ chkTo c s k < 65003
  | 0, _ => ⟨h0, h1⟩
  | k + 1, h => by rw [chkTo_succ c s k h]; exact chk_in _ _

set_option maxHeartbeats 400000 in
theorem l01Check_any (c : Int) (s : ByteArray) (hs : s.size ≤ maxLen) (h0 : 0 ≤ c) (h1 : c < 65003) (w : World) :
    Calls Try.prog 57 #[.int .i64 c, .string s] w fun e w' => e = .returned (.int .i64 (chkTo c s s.size)) ∧ w = w' := by
  unfold maxLen at hs
  go_enter Try.func57, Try.ntmps57
  go_wp2
  go_loop [0, 5] (fun n i => ∃ k : Nat, k ≤ s.size ∧ i = .int .i64 k ∧ n = .int .i64 (chkTo c s k)) (fun _ i => s.size - (intOf i).toNat)
  case atStart => exact ⟨0, Nat.zero_le _, rfl, rfl⟩
  case round =>
    obtain ⟨k, hk, rfl, rfl⟩ := hrel
    obtain ⟨r0, r1⟩ := chkTo_in c s h0 h1 k hk
    by_cases hp : k < s.size
    · have hst := Lib.hid (chkTo_succ c s k hp)
      generalize chkTo c s k = x at r0 r1 hst ⊢
      have hb := (s[k]'hp).toNat_lt
      go_wp2
      go_round
      case rel => exact ⟨k + 1, by omega, by go_num, by rw [hst.out]; unfold chk; first | rfl | go_num⟩
      case measure => simp [intOf]; omega
    · obtain rfl : k = s.size := by omega
      go_wp2
      go_ret
      exact ⟨rfl, rfl⟩
theorem specCheck_yes (c : Int) (s : ByteArray) (hs : s.size ≤ maxLen) (h0 : 0 ≤ c) (h1 : c < 65003) (w : World) :
    Calls Try.prog 26 #[.int .i64 c, .string s] w fun e w' => e = .returned (.tuple #[.int .i64 (chkTo c s s.size), .bool true]) ∧ w = w' := by
  have hd : decide (c ≤ 65002) = true := by simp; omega
  go_enter Try.func26, Try.ntmps26
  go_wp2_with (first | (go_at_call 57; refine (l01Check_any c s hs h0 h1 _).mono ?_; rintro e w' ⟨rfl, rfl⟩) | (go_at_call 56; go_in))
  go_ret2
  exact ⟨rfl, rfl⟩
theorem specCheck_no (c : Int) (s : ByteArray) (h : c < 0 ∨ 65002 < c) (w : World) :
    Calls Try.prog 26 #[.int .i64 c, .string s] w fun e w' => e = .returned (.tuple #[.int .i64 0, .bool false]) ∧ w = w' := by
  rcases h with h | h
  · go_enter Try.func26, Try.ntmps26
    go_wp2
    go_ret2
    exact ⟨rfl, rfl⟩
  · have hd : decide (c ≤ 65002) = false := by simp; omega
    have h2 : 0 ≤ c := by omega
    go_enter Try.func26, Try.ntmps26
    go_wp2
    go_ret2
    exact ⟨rfl, rfl⟩
set_option maxHeartbeats 400000 in
theorem implCheck_yes (c : Int) (s : ByteArray) (hs : s.size ≤ maxLen) (h0 : 0 ≤ c) (h1 : c < 65003) (w : World) :
    Calls Try.prog 27 #[.int .i64 c, .string s] w fun e w' => e = .returned (.tuple #[.int .i64 (chkTo c s s.size), .bool true]) ∧ w = w' := by
  unfold maxLen at hs
  go_enter Try.func27, Try.ntmps27
  go_wp2
  go_loop [6, 17] (fun n i => ∃ k : Nat, k ≤ s.size ∧ i = .int .i64 k ∧ n = .int .i64 (chkTo c s k)) (fun _ i => s.size - (intOf i).toNat)
  case atStart => exact ⟨0, Nat.zero_le _, rfl, rfl⟩
  case round =>
    obtain ⟨k, hk, rfl, rfl⟩ := hrel
    obtain ⟨r0, r1⟩ := chkTo_in c s h0 h1 k hk
    by_cases hp : k < s.size
    · have hst := Lib.hid (chkTo_succ c s k hp)
      generalize chkTo c s k = x at r0 r1 hst ⊢
      have hb := (s[k]'hp).toNat_lt
      go_wp2
      go_round
      case rel => exact ⟨k + 1, by omega, by go_num, by rw [hst.out]; unfold chk; first | rfl | go_num⟩
      case measure => simp [intOf]; omega
    · obtain rfl : k = s.size := by omega
      go_wp2
      go_ret2
      exact ⟨rfl, rfl⟩
theorem implCheck_no (c : Int) (s : ByteArray) (h : c < 0 ∨ 65002 < c) (w : World) :
    Calls Try.prog 27 #[.int .i64 c, .string s] w fun e w' => e = .returned (.tuple #[.int .i64 0, .bool false]) ∧ w = w' := by
  rcases h with h | h
  all_goals
    go_enter Try.func27, Try.ntmps27
    go_wp2
    go_ret2
    exact ⟨rfl, rfl⟩
theorem fnExactCheckOf_any (c : Int) (s : ByteArray) (hs : s.size ≤ maxLen) (w : World) :
    Calls Try.prog 9 #[.int .i64 c, .string s] w fun e w' => e = .returned (.bool true) ∧ Below w.heap.size w w' := by
  by_cases h : 0 ≤ c ∧ c < 65003
  · obtain ⟨h0, h1⟩ := h
    go_enter Try.func9, Try.ntmps9
    go_wp2_with (first | (go_at_call 26; refine (specCheck_yes _ _ hs h0 h1 _).mono ?_; rintro e w' ⟨rfl, rfl⟩) | (go_at_call 27; refine (implCheck_yes _ _ hs h0 h1 _).mono ?_; rintro e w' ⟨rfl, rfl⟩))
    all_goals
      go_ret
      exact ⟨rfl, Below.refl _ _⟩
  · have h' : c < 0 ∨ 65002 < c := by omega
    clear h
    have H := Lib.hid h'
    clear h'
    go_enter Try.func9, Try.ntmps9
    go_wp2_with (first | (go_at_call 26; refine (specCheck_no _ _ H.out _).mono ?_; rintro e w' ⟨rfl, rfl⟩) | (go_at_call 27; refine (implCheck_no _ _ H.out _).mono ?_; rintro e w' ⟨rfl, rfl⟩))
    all_goals
      go_ret
      exact ⟨rfl, Below.refl _ _⟩

theorem Try.own : ownKnob Try.prog.godebug = none := by kernel_rfl
theorem Try.laidOut : laidOutB Try.prog = true := by kernel_rfl
theorem f32_lt {x : Nat} (h : (Lit.float .f32 x).wf = true) : x < 4294967296 := by simpa [Lit.wf] using h
theorem f64_lt {x : Nat} (h : (Lit.float .f64 x).wf = true) : x < 18446744073709551616 := by simpa [Lit.wf] using h
theorem i64_in {x : Int} (h : (Lit.int .i64 x).wf = true) : -9223372036854775808 ≤ x ∧ x ≤ 9223372036854775807 := by
  have h1 : IntKind.i64.min = -9223372036854775808 := by decide
  have h2 : IntKind.i64.max = 9223372036854775807 := by decide
  simp only [Lit.wf, Bool.and_eq_true, decide_eq_true_eq, h1, h2] at h
  exact h

set_option maxRecDepth 100000 in
theorem fnExactCheckOf_lifted (os : Os) (started : os.Started) (H : Type) (enc : TypeId × Value → H) :
    ReturnsInHanded {} Try.checked os 9 .any (Rows.fnExactCheckOfSpec.pre6 enc Try.prog Try.f9 [] false) (Rows.fnExactCheckOfSpec.post enc Try.prog Try.f9 false true false false) := by
  refine Frame.law_lifted (tb := 4) Try.own started (by kernel_rfl) Try.func9
    (ChangeSpec.witness6 (enc := enc) (C := Try.checked) false ⟨#[], #[.int .i64 0, .string ByteArray.empty], []⟩ 8 (by kernel_rfl) (by kernel_rfl) (by kernel_rfl) (by kernel_rfl))
    Try.laidOut (by kernel_rfl) rfl (by kernel_rfl) Try.underlying4 (fun ds hd => ?_) ?_
  · rw [Try.params9] at hd
    match ds, hd with
    | [_, _], _ => exact ⟨rfl, rfl, rfl⟩
  intro W base args ds p hval0 hA0 hlt hsz0
  have hval : ∀ (j : Nat) t v, Try.f9.params[j]? = some t → args[j]? = some v → Value.okWide Try.prog W .any base t v := hval0
  have hA : DataW.TrodAll enc Try.prog W 0 (fun _ => true) true Try.f9.params.toList args.toList ds p := hA0
  have hsz : (DataW.weightsEach Try.prog Try.f9.params.toList ds).all (· ≤ reachBytes) = true := hsz0
  rw [Try.params9] at hA hval hsz
  clear hval0 hA0 hsz0
  obtain ⟨v0, v1, d0, d1, p0, p1, rfl, rfl, rfl, h0, h1⟩ := trodAll_two hA
  obtain ⟨a0, rfl, rfl, rfl, w0⟩ := open_int Try.underlying2 (hval 0 2 v0 rfl rfl) h0
  have b0 := i64_in w0
  obtain ⟨a1, rfl, rfl, rfl, b1⟩ := open_string Try.underlying9 (hval 1 9 v1 rfl rfl) h1
  exact fnExactCheckOf_any a0 a1 b1 W

theorem fnExactCheckOf_holds : Rows.FnExactCheckOfSaid :=
  OpenClaim.holds_of_wide 9 Try.f9 rfl rfl rfl rfl rfl rfl rfl ⟨rfl, rfl, rfl, rfl, rfl⟩ rfl rfl rfl rfl rfl (by kernel_rfl) Try.func9 (by kernel_rfl)
    (of_decide_eq_true (by kernel_rfl)) (by unfold Func.isWrapper; first | (rw [if_pos (by decide +kernel)]; kernel_rfl) | (rw [if_neg (by decide +kernel)]; exact ⟨rfl, rfl⟩))
    (fun os started H enc _ => fnExactCheckOf_lifted os started H enc)
end Go.Proofs.Ytimdlnbdnednaac
