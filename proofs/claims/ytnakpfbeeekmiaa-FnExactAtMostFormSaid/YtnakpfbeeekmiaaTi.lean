/- The letters that a number tells: the program. -/
import Derived.Test.YtnakpfbeeekmiaaVa0
import Derived.Test.YtnakpfbeeekmiaaMdP
import Derived.Test.YtnakpfbeeekmiaaOwn
namespace Go.Proofs.Ytnakpfbeeekmiaa
open Go.RowKit Go.ChangeShapes Go.WideShapes

theorem and_pow (n d : Nat) : n &&& 2 ^ d = if n.testBit d then 2 ^ d else 0 := by
  apply Nat.eq_of_testBit_eq
  intro i
  rw [Nat.testBit_and, Nat.testBit_two_pow]
  by_cases h : d = i
  · subst h
    cases n.testBit d <;> simp
  · rw [decide_eq_false h, Bool.and_false]
    cases n.testBit d
    · simp
    · simp only [if_true, Nat.testBit_two_pow]
      rw [decide_eq_false h]
set_option maxRecDepth 100000 in
set_option maxHeartbeats 4000000 in
theorem trueIn_any (L M : Nat) (w : World) (hL : L ≤ 10) (hM : M < 1024) :
    Calls Try.prog 83 #[.int .i64 L, .int .i64 M] w (Made (Value.int .i64) (0 : Int) (trueK L M L) w) := by
  obtain ⟨i0, hi, hz0, hz1, hz2⟩ := info_parts Try.infoI
  go_enter Try.func83, Try.ntmps83
  go_wp2_with fail
  go_loopg [5, 6] L (fun gk v i wr => ∃ k : Nat, k ≤ L ∧ gk + k = L ∧ i = .int .i64 ((k : Int) + 1) ∧ Below w.heap.size w wr ∧ Grows (Value.int .i64) 2 w.heap.size v (trueK L M k) wr)
  case atStart => exact ⟨0, Nat.zero_le _, by omega, rfl, Below.refl _ _, Grows.nil _ _ _ _⟩
  case round =>
    obtain ⟨k, hk, hgk, rfl, hB, hG⟩ := hrel
    have HB := Lib.hid hB
    have HG := Lib.hid hG
    by_cases hlt : k < L
    · have hle : (k : Int) + 1 ≤ (L : Int) := by omega
      obtain ⟨p1, p2⟩ := pow10 (L := L - (k + 1)) (by omega)
      have hand := i64_and62 M (2 ^ (L - (k + 1))) (by omega) (by omega)
      rw [and_pow] at hand
      obtain ⟨D, hD⟩ : ∃ D, D = 2 ^ (L - (k + 1)) := ⟨_, rfl⟩
      rw [← hD] at p1 p2 hand
      have HD := Lib.hid hD
      have HK : Hid (((k + 1 : Nat) : Int) = (k : Int) + 1) := Lib.hid (by omega)
      clear hD hB hG
      cases hm : M.testBit (L - (k + 1)) with
      | true =>
        have hml := trueK_len L M k
        have HUP := Lib.hid (trueK_yes hm)
        have HML : Hid ((trueK L M k).length ≤ k) := Lib.hid hml
        have hand1 : bits .and .i64 (M : Int) (D : Int) = (D : Int) := by rw [hand, hm]; rfl
        have hne : ((D : Int) != 0) = true := by simp; omega
        clear hml hm hand
        go_wp2_with fail
        go_at_call 110; refine (digitOf_is (L : Int) ((k : Int) + 1) L (k + 1) _ rfl HK.out.symm (by omega) hL).mono ?_; rintro e w' ⟨rfl, rfl⟩
        rw [← HD.out]
        go_wp2_with (at_builtin; refine wpList_append_own _ rfl _ _ 25 rfl w.heap.size 2 i0 (.int .i64 0) 1 8 Try.underlying25 hi hz0 hz1 hz2 rfl (by decide) _ _ _ rfl (Grows.alloc HG.out _) ⟨wr.heap.size, 0, none⟩ 1 1 [.int .i64 ((k : Int) + 1)] rfl rfl ?c1 ?c2 ?c3 ?c4 ?c5 ?_)
        case c1 => exact one_new
        case c2 => intro u hu; simp at hu; subst hu; rfl
        case c3 => have := HML.out; unfold maxLen; omega
        case c4 => have := HML.out; omega
        case c5 => have := HB.out.size; simp; omega
        intro v' w' hown hgrow _
        have HN2 : Hid (Below w.heap.size w w' ∧ Grows (Value.int .i64) 2 w.heap.size v' (trueK L M (k + 1)) w') := Lib.hid ⟨(HB.out.alloc HB.out.size _).grown hgrow (by have := HB.out.size; simp; omega) (fun g hg => HG.out.block g hg), by rw [HUP.out]; exact Grows.more (news := [(k : Int) + 1]) rfl hown⟩
        clear hown hgrow
        go_wp2_with fail
        go_roundg (gk - 1)
        case measure => omega
        case rel => exact ⟨k + 1, by omega, by omega, by go_num, HN2.out.1, HN2.out.2⟩
      | false =>
        have HUP := Lib.hid (trueK_no hm)
        have hand1 : bits .and .i64 (M : Int) (D : Int) = 0 := by rw [hand, hm]; rfl
        clear hm hand
        go_wp2_with fail
        go_at_call 110; refine (digitOf_is (L : Int) ((k : Int) + 1) L (k + 1) _ rfl HK.out.symm (by omega) hL).mono ?_; rintro e w' ⟨rfl, rfl⟩
        rw [← HD.out]
        go_wp2_with fail
        go_roundg (gk - 1)
        case measure => omega
        case rel => exact ⟨k + 1, by omega, by omega, by go_num, HB.out, by rw [HUP.out]; exact HG.out⟩
    · obtain rfl : k = L := by omega
      clear hB hG
      go_wp2_with fail
      refine bodyPost_ret (results_tmp rfl _ _ _) rfl ?_
      exact ⟨_, rfl, HG.out.si, HB.out⟩
theorem BoolAt.keep {w w1 w2 : World} {B : Nat} {Z : List Bool} (h : BoolAt w B Z w1) (b : Below w1.heap.size w1 w2) : BoolAt w B Z w2 :=
  ⟨h.below.trans (b.mono h.below.size), Nat.lt_of_lt_of_le h.lt b.size, h.ge, h.arr.below b h.lt⟩
end Go.Proofs.Ytnakpfbeeekmiaa
