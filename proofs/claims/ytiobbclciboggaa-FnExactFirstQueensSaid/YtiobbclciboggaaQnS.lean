/- Queens: the model, whole. -/
import Derived.Test.YtiobbclciboggaaQnI
namespace Go.Proofs.Ytiobbclciboggaa
open Go.RowKit Go.ChangeShapes Go.WideShapes

theorem Fst.made (w : World) (A : Obj) (fv : Value) (F : List Int) (hf : F = [] ∧ ∃ ao cap, fv = .slice ao 0 cap) : Fst (w.heap.size + 1) fv F ((w.alloc A).alloc (.cells #[fv] 24)) := by
  obtain ⟨rfl, ao, cap, rfl⟩ := hf
  have k := World.cell?_alloc_new (w.alloc A) #[.slice ao 0 cap] 24 0
  have f := World.frozen?_alloc_new (w.alloc A) #[.slice ao 0 cap] 24 0
  rw [World.size_alloc] at k f
  exact ⟨k, f, SI.nil _ (Nat.le_refl _) _ _⟩
set_option maxRecDepth 100000 in
set_option maxHeartbeats 4000000 in
theorem specCountQueens_any (n : Int) (w : World) (h : -9223372036854775808 ≤ n ∧ n ≤ 9223372036854775807) :
    Calls Try.prog 31 #[.int .i64 n] w (SaysIB (qcI n) (qnB n) w) := by
  cases q : qnB n with
  | false =>
    have H := Lib.hid q
    have e : qcI n = 0 := by unfold qcI; rw [q]; rfl
    rw [e]
    clear q e
    go_enter Try.func31, Try.ntmps31
    go_wp2_with fail
    go_at_call 64; refine (l00In_is false n 1 8 _ H.out).mono ?_; rintro e w1 ⟨rfl, m, rfl⟩
    go_wp2_with fail
    go_ret2
    exact ⟨rfl, below_drewN (Below.refl _ _) _⟩
  | true =>
    have H := Lib.hid q
    have hb := inB_ok q
    have e : qcI n = cntW (qnX n.toNat) := by unfold qcI; rw [if_pos q]
    rw [e]
    obtain ⟨k, rfl⟩ : ∃ k : Nat, n = k := ⟨n.toNat, by omega⟩
    rw [Int.toNat_natCast]
    have k1 : 1 ≤ k := by omega
    have k8 : k ≤ 8 := by omega
    have HQ := Lib.hid (fun p bd fv (W : World) (hf : Fst p fv [] W) => queensM_any k p k1 k8 k [] bd 0 [] fv W (by simp) (fun x hx => by cases hx) (SI.nil _ (Nat.le_refl _) _ _) hf)
    clear q e hb h
    go_enter Try.func31, Try.ntmps31
    go_wp2_with fail
    go_at_call 64; refine (l00In_is true (k : Int) 1 8 _ H.out).mono ?_; rintro e w1 ⟨rfl, m, rfl⟩
    go_wp2_with fail
    go_at_call 65; refine (HQ.out (w.heap.size + 1) _ _ _ ((Fst.made (w.drewN m) _ _ [] ⟨rfl, _, _, rfl⟩).below (below_alloc _ _))).mono ?_; rintro e w2 ⟨fv, rfl, hb, hf⟩
    have HB : Hid (Below w.heap.size w w2) := Lib.hid ((((below_drewN (Below.refl w.heap.size w) m).trans (((below_alloc (w.drewN m) _).alloc (by simp) _).alloc (by simp; omega) _)).trans ⟨hb.os, hb.tape, hb.output, hb.size, fun k hk => hb.block k (by simp; omega) (by omega)⟩))
    clear hb hf
    go_wp2_with fail
    go_ret2
    exact ⟨rfl, HB.out⟩
set_option maxRecDepth 100000 in
set_option maxHeartbeats 4000000 in
theorem specFirstQueens_any (n : Int) (w : World) (h : -9223372036854775808 ≤ n ∧ n ≤ 9223372036854775807) :
    Calls Try.prog 29 #[.int .i64 n] w (SaysJB (qfL n) (qfB n) w) := by
  cases q : qnB n with
  | false =>
    have H := Lib.hid q
    have e : qfL n = [] := by unfold qfL; rw [q]; rfl
    have e2 : qfB n = false := by unfold qfB; rw [q]; rfl
    rw [e, e2]
    clear q e e2
    go_enter Try.func29, Try.ntmps29
    go_wp2_with fail
    go_at_call 64; refine (l00In_is false n 1 8 _ H.out).mono ?_; rintro e w1 ⟨rfl, m, rfl⟩
    go_wp2_with fail
    go_ret2
    exact ⟨_, rfl, SI.nil _ (Nat.le_refl _) _ _, below_drewN (Below.refl _ _) _⟩
  | true =>
    have H := Lib.hid q
    have hb := inB_ok q
    have e : qfL n = (qnX n.toNat).headD [] := by unfold qfL; rw [if_pos q]
    have e2 : qfB n = decide (qnX n.toNat ≠ []) := by unfold qfB; rw [q]; rfl
    rw [e, e2]
    obtain ⟨k, rfl⟩ : ∃ k : Nat, n = k := ⟨n.toNat, by omega⟩
    rw [Int.toNat_natCast]
    have k1 : 1 ≤ k := by omega
    have k8 : k ≤ 8 := by omega
    have HQ := Lib.hid (fun p bd fv (W : World) (hf : Fst p fv [] W) => queensM_any k p k1 k8 k [] bd 0 [] fv W (by simp) (fun x hx => by cases hx) (SI.nil _ (Nat.le_refl _) _ _) hf)
    obtain ⟨F, hF⟩ : ∃ F, (qnX k).headD [] = F := ⟨_, rfl⟩
    have HF : Hid (hdo (qnX k) [] = F) := Lib.hid (by rw [← hF]; rfl)
    obtain ⟨b, hbb⟩ : ∃ b, decide (qnX k ≠ []) = b := ⟨_, rfl⟩
    have HT : Hid ((F.length ≠ 0 → b = true) ∧ (F.length = 0 → b = false)) := Lib.hid (by
      rw [← hF, ← hbb]
      cases hx : qnX k with
      | nil => exact ⟨fun h => absurd rfl h, fun _ => rfl⟩
      | cons C R =>
        have hl := qnX_len C (by rw [hx]; simp)
        refine ⟨fun _ => by simp, fun h => ?_⟩
        have : C.length = 0 := h
        omega)
    rw [hF, hbb]
    clear q e hb h e2 hF hbb
    go_enter Try.func29, Try.ntmps29
    go_wp2_with fail
    go_at_call 64; refine (l00In_is true (k : Int) 1 8 _ H.out).mono ?_; rintro e w1 ⟨rfl, m, rfl⟩
    go_wp2_with fail
    go_at_call 65; refine (HQ.out (w.heap.size + 1) _ _ _ ((Fst.made (w.drewN m) _ _ [] ⟨rfl, _, _, rfl⟩).below (below_alloc _ _))).mono ?_; rintro e w2 ⟨fv, rfl, hb, hf⟩
    have HB : Hid (Below w.heap.size w w2) := Lib.hid ((((below_drewN (Below.refl w.heap.size w) m).trans (((below_alloc (w.drewN m) _).alloc (by simp) _).alloc (by simp; omega) _)).trans ⟨hb.os, hb.tape, hb.output, hb.size, fun k hk => hb.block k (by simp; omega) (by omega)⟩))
    have hf2 : Fst (w.heap.size + 1) fv F w2 := HF.out ▸ hf
    have HFF := Lib.hid hf2
    obtain ⟨fa, fc, rfl⟩ := SI.len hf2.il
    have c0 := hf2.cell
    clear hb hf hf2
    by_cases h0 : F.length = 0
    · have e0 : F = [] := List.eq_nil_of_length_eq_zero h0
      subst e0
      rw [List.length_nil] at c0
      obtain rfl : b = false := HT.out.2 h0
      clear h0
      go_wp2_with fail
      go_ret2
      exact ⟨_, rfl, SI.nil _ (Nat.le_refl _) _ _, HB.out⟩
    · have hfl : ((F.length : Int) == 0) = false := by simpa using h0
      obtain rfl : b = true := HT.out.1 h0
      clear h0
      go_wp2_with fail
      go_ret2
      exact ⟨_, rfl, SI.wide HFF.out.il (by omega) (Nat.le_refl _) (Nat.le_refl _), HB.out⟩
end Go.Proofs.Ytiobbclciboggaa
