/- Queens: the program. -/
import Derived.Test.YtiobbclciboggaaCfQ
import Derived.Test.YtiobbclciboggaaFtQ
import Derived.Test.YtiobbclciboggaaRpt
import Derived.Test.YtiobbclciboggaaNumB
import Derived.Test.YtiobbclciboggaaQnM
import Derived.Test.YtiobbclciboggaaSz
namespace Go.Proofs.Ytiobbclciboggaa
open Go.RowKit Go.ChangeShapes Go.WideShapes

def qnX (n : Nat) : List (List Int) := exts apB (qnL n) n []
theorem numL_in {n : Nat} {x : Int} (h : x ∈ numL n) : 0 ≤ x ∧ x < n := by
  unfold numL allF at h
  rw [List.mem_map] at h
  obtain ⟨i, hi, rfl⟩ := h
  have := List.mem_range.1 hi
  omega
theorem qnL_ok {n : Nat} (h : n ≤ 8) : ∀ i, ((qnL n).getD i []).length ≤ 1000 ∧ ∀ x ∈ (qnL n).getD i [], 0 ≤ x ∧ x ≤ 1000 := by
  intro i
  by_cases hi : i < n
  · rw [qnL_at hi]
    exact ⟨by rw [numL_len]; omega, fun x hx => by have := numL_in hx; omega⟩
  · have e : (qnL n).getD i [] = [] := by simp [List.getD, List.getElem?_eq_none (by rw [qnL_len]; omega : (qnL n).length ≤ i)]
    rw [e]
    exact ⟨by simp, fun x hx => by cases hx⟩
theorem qnL_ne {n : Nat} : ∀ i, i < (qnL n).length → ((qnL n).getD i []).length ≠ 0 := by
  intro i hi
  rw [qnL_len] at hi
  rw [qnL_at hi, numL_len]
  omega
def qnB (n : Int) : Bool := inB n 1 8
def qfL (n : Int) : List Int := if qnB n then (qnX n.toNat).headD [] else []
def qfB (n : Int) : Bool := qnB n && decide (qnX n.toNat ≠ [])
def qcI (n : Int) : Int := if qnB n then cntW (qnX n.toNat) else 0
theorem qnX_len {n : Nat} : ∀ C ∈ qnX n, C.length = n := exts_len n [] (by simp)
theorem qfL_len (n : Int) : (qfL n).length ≤ 1048576 := by
  unfold qfL
  split
  · rename_i h
    have hb := inB_ok h
    cases hx : qnX n.toNat with
    | nil => simp
    | cons C R =>
      have := qnX_len C (by rw [hx]; simp)
      simp only [List.headD_cons]
      omega
  · simp
set_option maxRecDepth 100000 in
set_option maxHeartbeats 4000000 in
theorem queensOn_any (n : Nat) (w : World) (n1 : 1 ≤ n) (n8 : n ≤ 8) :
    Calls Try.prog 67 #[.int .i64 n] w (fun e w' => ∃ lv, e = .returned (.agg #[lv, fitQ]) ∧ LV w' lv (qnL n) ∧ Below w.heap.size w w') := by
  have HN := Lib.hid (show n = 1 ∨ n = 2 ∨ n = 3 ∨ n = 4 ∨ n = 5 ∨ n = 6 ∨ n = 7 ∨ n = 8 by omega)
  have HB0 := Lib.hid (below_alloc w)
  have X0 := Lib.hid (Box2.mk' w (.slice none 0 0) .nilFunc 75)
  go_enter Try.func67, Try.ntmps67
  go_wp2_with fail
  go_at_call 113; refine (numbersBelow_any n _ (by omega)).mono ?_; rintro e w1 ⟨u, rfl, hu, b1⟩
  obtain ⟨ua, uc, rfl⟩ := SI.len hu
  have HU := Lib.hid (SI.wide (SI.below hu (below_alloc w1 (.cells #[.slice ua (numL n).length uc] 24)) (Nat.le_refl _)) (Nat.le_refl _) (by simp : w1.heap.size ≤ (w1.alloc (.cells #[.slice ua (numL n).length uc] 24)).heap.size) (Nat.le_refl _))
  have hlo : (w.alloc (.cells #[.slice none 0 0, .nilFunc] 75)).heap.size ≤ (w1.alloc (.cells #[.slice ua (numL n).length uc] 24)).heap.size := by have := b1.size; simp at this ⊢; omega
  have HLO := Lib.hid hlo
  have X1 := Lib.hid (X0.out.keep b1 X0.out.lt)
  have HB1 := Lib.hid ((HB0.out _).trans (b1.mono (by simp)))
  obtain ⟨hc1, hf1⟩ := bcell b1
  have hz1 : w.heap.size < w1.heap.size := by have := b1.size; simp at this; omega
  clear hu b1 hlo
  go_wp2_with fail
  go_at_call 112; refine (repeat_any _ _ (numL n) n _ (World.cell?_alloc_new _ _ _ _) _ HLO.out HU.out HN.out).mono ?_; rintro e w2 ⟨v, rfl, hv, b2⟩
  obtain ⟨la, lc, rfl⟩ := hv.long
  have HV := Lib.hid hv
  obtain ⟨hc2, hf2⟩ := bcell b2
  have hz2 : w.heap.size < w2.heap.size := by have := b2.size; simp at this; omega
  have HB2 := Lib.hid (HB1.out.trans (((below_alloc w1 _).trans (b2.mono (by simp))).mono HB1.out.size))
  have X2 := Lib.hid (X1.out.keep ((below_alloc w1 _).trans (b2.mono (by simp))) X1.out.lt)
  have hy1 : w.heap.size < (w1.alloc (.cells #[.slice ua (numL n).length uc] 24)).heap.size := by simp; omega
  clear hv b2
  go_wp2_with fail
  obtain ⟨d0, d1⟩ := X2.out
  refine bodyPost_ret (v := .agg #[.slice la n lc, fitQ]) (by simp [results, Try.results67, d0, d1, go_sem]) rfl ?_
  refine ⟨_, rfl, ?_, (HB2.out.setCell (p := ⟨w.heap.size, 0, none⟩) (Nat.le_refl _) _).setCell (p := ⟨w.heap.size, 1, none⟩) (Nat.le_refl _) _⟩
  have h3 := (HV.out.set (p := ⟨w.heap.size, 0, none⟩) (by simp) (.slice la n lc)).set (p := ⟨w.heap.size, 1, none⟩) (by simp) fitQ
  rw [List.length_replicate] at h3
  exact h3.lv
theorem implCountQueens_any (n : Int) (w : World) (h : -9223372036854775808 ≤ n ∧ n ≤ 9223372036854775807) :
    Calls Try.prog 32 #[.int .i64 n] w (SaysIB (qcI n) (qnB n) w) := by
  cases q : qnB n with
  | false =>
    have H := Lib.hid q
    have e : qcI n = 0 := by unfold qcI; rw [q]; rfl
    rw [e]
    clear q e
    go_enter Try.func32, Try.ntmps32
    go_wp2_with fail
    go_at_call 66; refine (isFrom_is false n 1 8 _ H.out).mono ?_; rintro e w1 ⟨rfl, m, rfl⟩
    go_wp2_with fail
    go_ret2
    exact ⟨rfl, below_drewN (Below.refl _ _) _⟩
  | true =>
    have H := Lib.hid q
    have hb := inB_ok q
    have e : qcI n = cntW (qnX n.toNat) := by unfold qcI; rw [if_pos q]
    rw [e]
    obtain ⟨k, rfl⟩ : ∃ k : Nat, n = k := ⟨n.toNat, by omega⟩
    rw [Int.toNat_natCast]
    have k1 : 1 ≤ k := by omega
    have k8 : k ≤ 8 := by omega
    clear q e hb h
    go_enter Try.func32, Try.ntmps32
    go_wp2_with fail
    go_at_call 66; refine (isFrom_is true (k : Int) 1 8 _ H.out).mono ?_; rintro e w1 ⟨rfl, m, rfl⟩
    go_wp2_with fail
    go_at_call 67; refine (queensOn_any k _ k1 k8).mono ?_; rintro e w2 ⟨lv, rfl, hl, b2⟩
    obtain ⟨la, lc, rfl⟩ := hl.long
    have HL := Lib.hid hl
    have B2 := Lib.hid ((below_drewN (Below.refl w.heap.size w) m).trans b2)
    clear hl b2
    go_wp2_with fail
    go_at_call 62; refine (countQ_any _ (qnL k) _ HL.out (qnL_ok k8) (by rw [qnL_len]; omega) qnL_ne).mono ?_; rintro e w3 ⟨rfl, b3⟩
    have B3 := Lib.hid (B2.out.trans (b3.mono B2.out.size))
    clear b3
    go_wp2_with fail
    go_ret2
    exact ⟨by rw [qnL_len]; rfl, B3.out⟩
theorem implFirstQueens_any (n : Int) (w : World) (h : -9223372036854775808 ≤ n ∧ n ≤ 9223372036854775807) :
    Calls Try.prog 30 #[.int .i64 n] w (SaysJB (qfL n) (qfB n) w) := by
  cases q : qnB n with
  | false =>
    have H := Lib.hid q
    have e : qfL n = [] := by unfold qfL; rw [q]; rfl
    have e2 : qfB n = false := by unfold qfB; rw [q]; rfl
    rw [e, e2]
    clear q e e2
    go_enter Try.func30, Try.ntmps30
    go_wp2_with fail
    go_at_call 66; refine (isFrom_is false n 1 8 _ H.out).mono ?_; rintro e w1 ⟨rfl, m, rfl⟩
    go_wp2_with fail
    go_ret2
    exact ⟨_, rfl, SI.nil _ (Nat.le_refl _) _ _, below_drewN (Below.refl _ _) _⟩
  | true =>
    have H := Lib.hid q
    have hb := inB_ok q
    have e : qfL n = (qnX n.toNat).headD [] := by unfold qfL; rw [if_pos q]
    have e2 : qfB n = decide (qnX n.toNat ≠ []) := by unfold qfB; rw [q]; rfl
    rw [e, e2]
    obtain ⟨k, rfl⟩ : ∃ k : Nat, n = k := ⟨n.toNat, by omega⟩
    rw [Int.toNat_natCast]
    have k1 : 1 ≤ k := by omega
    have k8 : k ≤ 8 := by omega
    clear q e hb h e2
    obtain ⟨F, hF⟩ : ∃ F, (qnX k).headD [] = F := ⟨_, rfl⟩
    have HF := Lib.hid hF
    rw [hF]
    obtain ⟨b, hbb⟩ : ∃ b, decide (qnX k ≠ []) = b := ⟨_, rfl⟩
    have HBB := Lib.hid hbb
    rw [hbb]
    clear hbb hF
    go_enter Try.func30, Try.ntmps30
    go_wp2_with fail
    go_at_call 66; refine (isFrom_is true (k : Int) 1 8 _ H.out).mono ?_; rintro e w1 ⟨rfl, m, rfl⟩
    go_wp2_with fail
    go_at_call 67; refine (queensOn_any k _ k1 k8).mono ?_; rintro e w2 ⟨lv, rfl, hl, b2⟩
    obtain ⟨la, lc, rfl⟩ := hl.long
    have HL := Lib.hid hl
    have B2 := Lib.hid ((below_drewN (Below.refl w.heap.size w) m).trans b2)
    clear hl b2
    go_wp2_with fail
    go_at_call 61; refine (firstQ_any _ (qnL k) _ HL.out (qnL_ok k8) (by rw [qnL_len]; omega) qnL_ne).mono ?_; rintro e w3 ⟨u, rfl, hu, b3⟩
    have hu2 : II w2.heap.size w3.heap.size w3 u F := by rw [qnL_len] at hu; exact HF.out ▸ hu
    have B3 := Lib.hid (B2.out.trans (b3.mono B2.out.size))
    have HU := Lib.hid (SI.wide hu2 B2.out.size (Nat.le_refl _) (Nat.le_refl _))
    obtain ⟨ua, uc, rfl⟩ := SI.len hu2
    have e3 : decide (exts apB (qnL k) (qnL k).length [] ≠ []) = b := by rw [qnL_len]; exact HBB.out
    rw [e3]
    clear b3 hu hu2 e3
    go_wp2_with fail
    go_ret2
    exact ⟨_, rfl, HU.out, B3.out⟩
end Go.Proofs.Ytiobbclciboggaa
