/- Which one goes out of a full room: the program, whole. -/
import Derived.Test.YtiobbclciboggaaGoB
import Derived.Laws.EntriesVeiled
namespace Go.Proofs.Ytiobbclciboggaa
open Go.RowKit Go.ChangeShapes Go.WideShapes

set_option maxHeartbeats 4000000 in
theorem goesOut_any (rule : Int) (u v : Value) (rest Y : List Nat) (w : World) (hv : IL w v (intsN rest)) (hn : rest.length ≤ 1048576) (hu : IL w u (intsN Y)) (hm : Y.length ≤ 1048576) (h0 : 0 < Y.length) :
    Calls Try.prog 84 #[.int .i64 rule, u, v] w (fun e w' => e = .returned (.int .i64 ((Y.getD (outI rule rest Y) 0 : Nat) : Int)) ∧ Below w.heap.size w w') := by
  by_cases h : rule = 2
  · subst h
    have hf : Y.getD (outI 2 rest Y) 0 = fstN (ltF rest) Y Y.length := by
      unfold outI
      rw [if_pos rfl]
      obtain ⟨k, hk⟩ : ∃ k, Y.length = k + 1 := ⟨Y.length - 1, by omega⟩
      rw [hk]; exact mxI_fst _ _ k
    have HF := Lib.hid hf
    obtain ⟨vo, vc, rfl⟩ := hv.long
    have HV : Hid (∀ A B, IL ((w.alloc A).alloc B) (.slice vo (intsN rest).length vc) (intsN rest)) := Lib.hid fun A B => hv.below ((below_alloc w A).alloc (by simp) B) (Nat.le_refl _)
    have HU : Hid (∀ A B, IL ((w.alloc A).alloc B) u (intsN Y)) := Lib.hid fun A B => hu.below ((below_alloc w A).alloc (by simp) B) (Nat.le_refl _)
    have HB : Hid (∀ A B, Below w.heap.size w ((w.alloc A).alloc B)) := Lib.hid fun A B => (below_alloc w A).alloc (by simp) B
    clear hv hu hf
    go_enter Try.func84, Try.ntmps84
    go_wp2_with fail
    go_at_call 130; refine (outest_any (.slice vo (intsN rest).length vc) _ rest Y w.heap.size (w.heap.size + 1) _ (HV.out _ _) hn (HU.out _ _) hm h0 (by go_simp) (by go_simp)).mono ?_; rintro e w1 ⟨rfl, q, rfl⟩
    go_wp2_with fail
    go_ret
    exact ⟨ret_int (by rw [HF.out]), below_drewN (HB.out _ _) q⟩
  · have hf : outI rule rest Y = 0 := by unfold outI; rw [if_neg h]
    rw [hf]
    rcases hu with ⟨hz, -⟩ | ⟨b, off, cap, rfl, hpos, hbl, hcell⟩
    · have := congrArg List.length hz
      rw [intsN_len, List.length_nil] at this
      omega
    have c0 := hcell 0 (by rw [intsN_len]; exact h0)
    rw [intsN_at h0, Nat.add_zero] at c0
    have hl := intsN_len Y
    rw [hl]
    have hne : (rule != 2) = true := by simpa using h
    have hp : (0 : Int) < (Y.length : Int) := by omega
    have HB : Hid (∀ A, Below w.heap.size w (w.alloc A)) := Lib.hid fun A => below_alloc w A
    clear hcell hf hl hpos
    generalize Y.getD 0 0 = y0 at c0 ⊢
    go_enter Try.func84, Try.ntmps84
    go_wp2_with fail
    all_goals (go_ret; exact ⟨rfl, HB.out _⟩)
end Go.Proofs.Ytiobbclciboggaa
