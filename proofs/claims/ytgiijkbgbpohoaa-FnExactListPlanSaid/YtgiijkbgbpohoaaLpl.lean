/- Jobs put on machines in order: both sides. -/
import Derived.Test.YtgiijkbgbpohoaaLpM
import Derived.Test.YtgiijkbgbpohoaaLpS
import Derived.Test.YtgiijkbgbpohoaaLpI
import Derived.Test.YtgiijkbgbpohoaaNumB
namespace Go.Proofs.Ytgiijkbgbpohoaa
open Go.RowKit Go.ChangeShapes Go.WideShapes

def lplL (Z : List Ac) (m : Int) : List Int := if macB Z m then lpP Z (numL Z.length) m.toNat Z.length else []
def lplI (Z : List Ac) (m : Int) : Int := if macB Z m then lpM Z (numL Z.length) m.toNat Z.length else 0
theorem lpl_no {Z : List Ac} {m : Int} (h : macB Z m = false) : lplL Z m = [] ∧ lplI Z m = 0 := by unfold lplL lplI; rw [h]; exact ⟨rfl, rfl⟩
theorem lpl_yes {Z : List Ac} {m : Int} (h : macB Z m = true) : lplL Z m = lpP Z (numL Z.length) m.toNat Z.length ∧ lplI Z m = lpM Z (numL Z.length) m.toNat Z.length := by unfold lplL lplI; rw [if_pos h, if_pos h]; exact ⟨rfl, rfl⟩
theorem lplL_len (Z : List Ac) (m : Int) : (lplL Z m).length ≤ 1048576 := by
  cases h : macB Z m with
  | false => rw [(lpl_no h).1]; simp
  | true => rw [(lpl_yes h).1, lpP_len]; have := (macB_ok h).1.n2; omega
set_option maxRecDepth 100000 in
set_option maxHeartbeats 4000000 in
theorem specLpl_yes (v : Value) (Z : List Ac) (m : Int) (w : World) (hv : AV w v Z) (hn : Z.length ≤ 1048576) (h : macB Z m = true) :
    Calls Try.prog 42 #[v, .int .i64 m] w (SaysJIB (lplL Z m) (lplI Z m) true w) := by
  obtain ⟨i0, hi, hz0, hz1, hz2⟩ := info_parts Try.infoI
  have HV := Lib.hid hv
  have H := Lib.hid h
  obtain ⟨hJ, hm, m1, m8⟩ := macB_ok h
  have HE := Lib.hid (lpl_yes h)
  have J := Lib.hid hJ
  have n2 := hJ.n2
  generalize m.toNat = M at hm m1 m8 HE
  subst hm
  have HNL := Lib.hid fun k => numL_len k
  have HUP := Lib.hid fun k => numL_up k
  have HT := Lib.hid (numL_tour Z.length)
  obtain ⟨ao, cap, rfl⟩ := hv.long
  clear hv h hJ
  go_enter Try.func42, Try.ntmps42
  go_wp2_with fail
  go_at_call 69; refine (l06Mach_is true _ Z (M : Int) _ HV.out hn H.out).mono ?_; rintro e w1 ⟨rfl, q, rfl⟩
  obtain ⟨w1, hw1⟩ : ∃ x, x = w.drewN q := ⟨_, rfl⟩
  rw [← hw1]
  have B1 : Hid (Below w.heap.size w w1) := Lib.hid (by rw [hw1]; exact below_drewN (Below.refl _ _) q)
  have HG0 := Lib.hid (Grows.empty (Value.int .i64) 2 w1.heap.size w1 (Nat.le_refl _))
  have HB0 := Lib.hid (below_alloc w1 (.cells #[] 2))
  clear hw1
  go_wp2_with fail
  go_loopg [7, 8] Z.length (fun gk s i wr => ∃ k : Nat, k ≤ Z.length ∧ gk + k = Z.length ∧ i = .int .i64 k ∧ Below w1.heap.size w1 wr ∧ Grows (Value.int .i64) 2 w1.heap.size s (numL k) wr)
  case atStart => exact ⟨0, Nat.zero_le _, by omega, rfl, HB0.out, HG0.out⟩
  case round =>
    clear HG0 HB0
    obtain ⟨k, hk, hgk, rfl, hB, hG⟩ := hrel
    have HB := Lib.hid hB
    have HG := Lib.hid hG
    clear hB hG
    by_cases hlt : k < Z.length
    · go_wp2_with (at_builtin; refine wpList_append_own _ rfl _ _ 29 rfl w1.heap.size 2 i0 (.int .i64 0) 1 8 Try.underlying29 hi hz0 hz1 hz2 rfl (by decide) _ _ _ rfl (Grows.alloc HG.out _) ⟨wr.heap.size, 0, none⟩ 1 1 [.int .i64 (k : Int)] rfl rfl ?c1 ?c2 ?c3 ?c4 ?c5 ?_)
      case c1 => exact one_new
      case c2 => intro u hu; simp at hu; subst hu; rfl
      case c3 => rw [HNL.out]; unfold maxLen; omega
      case c4 => rw [HNL.out]; omega
      case c5 => have := HB.out.size; simp; omega
      intro v' w' hown hgrow _
      have HN2 : Hid (Below w1.heap.size w1 w' ∧ Grows (Value.int .i64) 2 w1.heap.size v' (numL (k + 1)) w') := Lib.hid ⟨(HB.out.alloc HB.out.size _).grown hgrow (by have := HB.out.size; simp; omega) (fun g hg => HG.out.block g hg), by rw [HUP.out]; exact Grows.more (news := [(k : Int)]) rfl hown⟩
      clear hown hgrow
      go_wp2_with fail
      go_roundg (gk - 1)
      case measure => omega
      case rel => exact ⟨k + 1, by omega, by omega, by go_num, HN2.out.1, HN2.out.2⟩
    · obtain rfl : k = Z.length := by omega
      have I1 := Lib.hid (HG.out.si (d := (0 : Int))).vl
      have h1 := (HG.out.si (d := (0 : Int))).len
      obtain ⟨a1, c1, rfl⟩ := h1
      have B3 : Hid (Below w.heap.size w wr) := Lib.hid (B1.out.trans (HB.out.mono B1.out.size))
      go_wp2_with fail
      go_at_call 70; refine (l06List_any _ _ Z (numL Z.length) M _ (HV.out.below B3.out (Nat.le_refl _)) I1.out J.out HT.out m1 m8).mono ?_; rintro e w2 ⟨v2, rfl, i2, b2⟩
      rw [← HE.out.2]
      rw [← HE.out.1] at i2
      have I2 := Lib.hid (SI.wide i2 (lo' := w.heap.size) B3.out.size (Nat.le_refl _) (Nat.le_refl _))
      have B2 := Lib.hid (B3.out.trans (b2.mono B3.out.size))
      have h2 := i2.len
      obtain ⟨a2, c2, rfl⟩ := h2
      clear i2 b2
      go_wp2_with fail
      refine bodyPost_ret (v := .tuple #[.slice a2 (lplL Z (M : Int)).length c2, .int .i64 (lplI Z (M : Int)), .bool true]) (by simp [results, Try.results42, go_sem]) rfl ?_
      exact ⟨_, rfl, I2.out, B2.out⟩
theorem specListPlan_any (v : Value) (Z : List Ac) (m : Int) (w : World) (hv : AV w v Z) (o : OKA Z) (_ : -9223372036854775808 ≤ m ∧ m ≤ 9223372036854775807) :
    Calls Try.prog 42 #[v, .int .i64 m] w (SaysJIB (lplL Z m) (lplI Z m) (macB Z m) w) := by
  have hn := o.size
  cases h : macB Z m with
  | true => exact specLpl_yes v Z m w hv hn h
  | false =>
    rw [(lpl_no h).1, (lpl_no h).2]
    have HV := Lib.hid hv
    obtain ⟨ao, cap, rfl⟩ := hv.long
    have H := Lib.hid h
    clear hv h
    go_enter Try.func42, Try.ntmps42
    go_wp2_with fail
    go_at_call 69; refine (l06Mach_is false _ Z m _ HV.out hn H.out).mono ?_; rintro e w1 ⟨rfl, q, rfl⟩
    go_wp2_with fail
    refine bodyPost_ret (v := .tuple #[.slice none 0 0, .int .i64 0, .bool false]) (by simp [results, Try.results42, go_sem]) rfl ?_
    exact ⟨_, rfl, SI.nil _ (Nat.le_refl _) _ _, below_drewN (Below.refl _ _) q⟩
set_option maxHeartbeats 4000000 in
theorem implListPlan_any (v : Value) (Z : List Ac) (m : Int) (w : World) (hv : AV w v Z) (o : OKA Z) (_ : -9223372036854775808 ≤ m ∧ m ≤ 9223372036854775807) :
    Calls Try.prog 43 #[v, .int .i64 m] w (SaysJIB (lplL Z m) (lplI Z m) (macB Z m) w) := by
  have hn := o.size
  have HV := Lib.hid hv
  obtain ⟨ao, cap, rfl⟩ := hv.long
  clear hv
  cases h : macB Z m with
  | false =>
    rw [(lpl_no h).1, (lpl_no h).2]
    have H := Lib.hid h
    clear h
    go_enter Try.func43, Try.ntmps43
    go_wp2_with fail
    go_at_call 71; refine (forMach_is false _ Z m _ HV.out hn H.out).mono ?_; rintro e w1 ⟨rfl, b1⟩
    have B1 := Lib.hid b1
    clear b1
    go_wp2_with fail
    refine bodyPost_ret (v := .tuple #[.slice none 0 0, .int .i64 0, .bool false]) (by simp [results, Try.results43, go_sem]) rfl ?_
    exact ⟨_, rfl, SI.nil _ (Nat.le_refl _) _ _, B1.out⟩
  | true =>
    have H := Lib.hid h
    obtain ⟨hJ, hm, m1, m8⟩ := macB_ok h
    have HE := Lib.hid (lpl_yes h)
    have J := Lib.hid hJ
    have n2 := hJ.n2
    generalize m.toNat = M at hm m1 m8 HE
    subst hm
    have HT := Lib.hid (numL_tour Z.length)
    clear h hJ
    go_enter Try.func43, Try.ntmps43
    go_wp2_with fail
    go_at_call 71; refine (forMach_is true _ Z (M : Int) _ HV.out hn H.out).mono ?_; rintro e w1 ⟨rfl, b1⟩
    have B1 := Lib.hid b1
    clear b1
    go_wp2_with fail
    go_at_call 73; refine (numbersBelow_any Z.length _ (by omega)).mono ?_; rintro e w2 ⟨v2, rfl, i2, b2⟩
    have B2 := Lib.hid (B1.out.trans (b2.mono B1.out.size))
    have I2 := Lib.hid i2.vl
    have h2 := i2.len
    obtain ⟨a2, c2, rfl⟩ := h2
    clear i2 b2
    go_wp2_with fail
    go_at_call 72; refine (putOn_any _ _ Z (numL Z.length) M _ (HV.out.below B2.out (Nat.le_refl _)) I2.out J.out HT.out m1 m8).mono ?_; rintro e w3 ⟨v3, rfl, i3, b3⟩
    rw [← HE.out.2]
    rw [← HE.out.1] at i3
    have I3 := Lib.hid (SI.wide i3 (lo' := w.heap.size) B2.out.size (Nat.le_refl _) (Nat.le_refl _))
    have B3 := Lib.hid (B2.out.trans (b3.mono B2.out.size))
    have h3 := i3.len
    obtain ⟨a3, c3, rfl⟩ := h3
    clear i3 b3
    go_wp2_with fail
    refine bodyPost_ret (v := .tuple #[.slice a3 (lplL Z (M : Int)).length c3, .int .i64 (lplI Z (M : Int)), .bool true]) (by simp [results, Try.results43, go_sem]) rfl ?_
    exact ⟨_, rfl, I3.out, B3.out⟩
end Go.Proofs.Ytgiijkbgbpohoaa
