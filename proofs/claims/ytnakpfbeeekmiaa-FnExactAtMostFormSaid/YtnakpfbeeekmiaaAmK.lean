/- The form of at most some letters: the program, early ends. -/
import Derived.Test.YtnakpfbeeekmiaaAmJ
namespace Go.Proofs.Ytnakpfbeeekmiaa
open Go.RowKit Go.ChangeShapes Go.WideShapes

attribute [local irreducible] popN cmb
set_option maxHeartbeats 2000000 in
theorem implAm_no (n m : Int) (w : World) (h : (inB n 1 10 && inB m 0 n) = false) :
    Calls Try.prog 40 #[.int .i64 n, .int .i64 m] w (SaysFB ⟨0, []⟩ false w) := by
  have HRS : Hid (Res2 (w.alloc (.cells #[.int .i64 0, .slice none 0 0] 29)) w.heap.size) := Lib.hid ⟨⟨.int .i64 0, by go_simp⟩, ⟨.slice none 0 0, by go_simp⟩, fun i => by go_simp⟩
  have HB1 : Hid (∀ A, Below w.heap.size w (w.alloc A)) := Lib.hid fun A => below_alloc w A
  cases h1 : inB n 1 10 with
  | false =>
    have H1 := Lib.hid h1
    clear h h1
    go_enter Try.func40, Try.ntmps40
    go_wp2_with fail
    go_at_call 56; refine (isFrom_is false n 1 10 _ H1.out).mono ?_; rintro e w4 ⟨rfl, m1, rfl⟩
    have R4 := Lib.hid (HRS.out.keep (below_drewN (Below.refl _ _) m1) HRS.out.lt)
    have B4 := Lib.hid (below_drewN (HB1.out (.cells #[.int .i64 0, .slice none 0 0] 29)) m1)
    generalize World.drewN _ m1 = w4 at R4 B4 ⊢
    have hr4 := R4.out.lt
    obtain ⟨⟨u0, r0⟩, ⟨u1, r1⟩, rf⟩ := R4.out
    have rf0 := rf 0
    have rf1 := rf 1
    clear rf
    go_wp2_with fail
    refine bodyPost_ret (v := .tuple #[.agg #[.int .i64 0, .slice none 0 0], .bool false]) (by simp [results, Try.results40, r0, r1, go_sem]) rfl ?_
    generalize hX : World.setCell _ _ _ = X
    have hT : Turned w.heap.size (w.heap.size + 1) w4 X := by
      rw [← hX]
      repeat (refine Turned.setCell ?_ (by simp) (by simp) _)
      exact Turned.refl _ _ _
    clear hX
    exact saysFB_no (B4.out.trans (hT.below (by omega)))
  | true =>
    rw [h1, Bool.true_and] at h
    have H1 := Lib.hid h1
    have H2 := Lib.hid h
    clear h h1
    go_enter Try.func40, Try.ntmps40
    go_wp2_with fail
    go_at_call 56; refine (isFrom_is true n 1 10 _ H1.out).mono ?_; rintro e w4 ⟨rfl, m1, rfl⟩
    go_wp2_with fail
    go_at_call 56; refine (isFrom_is false m 0 n _ H2.out).mono ?_; rintro e w5 ⟨rfl, m2, rfl⟩
    rw [World.drewN_drewN]
    have R4 := Lib.hid (HRS.out.keep (below_drewN (Below.refl _ _) (m1 + m2)) HRS.out.lt)
    have B4 := Lib.hid (below_drewN (HB1.out (.cells #[.int .i64 0, .slice none 0 0] 29)) (m1 + m2))
    generalize World.drewN _ (m1 + m2) = w4 at R4 B4 ⊢
    have hr4 := R4.out.lt
    obtain ⟨⟨u0, r0⟩, ⟨u1, r1⟩, rf⟩ := R4.out
    have rf0 := rf 0
    have rf1 := rf 1
    clear rf
    go_wp2_with fail
    refine bodyPost_ret (v := .tuple #[.agg #[.int .i64 0, .slice none 0 0], .bool false]) (by simp [results, Try.results40, r0, r1, go_sem]) rfl ?_
    generalize hX : World.setCell _ _ _ = X
    have hT : Turned w.heap.size (w.heap.size + 1) w4 X := by
      rw [← hX]
      repeat (refine Turned.setCell ?_ (by simp) (by simp) _)
      exact Turned.refl _ _ _
    clear hX
    exact saysFB_no (B4.out.trans (hT.below (by omega)))
theorem implAtMostForm_any (n m : Int) (w : World) (_ : -9223372036854775808 ≤ n ∧ n ≤ 9223372036854775807) (_ : -9223372036854775808 ≤ m ∧ m ≤ 9223372036854775807) : Calls Try.prog 40 #[.int .i64 n, .int .i64 m] w (SaysFB (amF n m) (amB n m) w) := by
  cases h : (inB n 1 10 && inB m 0 n) with
  | false =>
    have hb : amB n m = false := by unfold amB; rw [← Bool.and_assoc, h]; rfl
    rw [amF_no hb, hb]
    exact implAm_no n m w h
  | true =>
    rw [Bool.and_eq_true] at h
    have n1 := inB_ok h.1
    have n2 := inB_ok h.2
    obtain ⟨L, rfl⟩ : ∃ L : Nat, n = (L : Int) := ⟨n.toNat, by omega⟩
    obtain ⟨k, rfl⟩ : ∃ k : Nat, m = (k : Int) := ⟨m.toNat, by omega⟩
    have hr := implAm_run L k (amB (L : Int) (k : Int)) w (by omega) (by omega) (by omega) _ rfl (by unfold amB; rw [h.1, h.2, Bool.true_and, Bool.true_and, Int.toNat_natCast, Int.toNat_natCast])
    unfold amF
    rw [Int.toNat_natCast, Int.toNat_natCast]
    cases hb : amB (L : Int) (k : Int) with
    | false => rw [hb] at hr; exact hr
    | true => rw [hb] at hr; exact hr
end Go.Proofs.Ytnakpfbeeekmiaa
