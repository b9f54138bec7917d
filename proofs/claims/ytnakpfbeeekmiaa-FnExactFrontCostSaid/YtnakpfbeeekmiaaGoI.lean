/- The index of a number in a list, exactly. -/
import Derived.Test.YtnakpfbeeekmiaaNumB
import Derived.Test.YtnakpfbeeekmiaaIns0
import Derived.Test.YtnakpfbeeekmiaaHasI
import Derived.Deep.QuietTactic
import Derived.BigQuiet
import Derived.Deep.LoopGhost
namespace Go.Proofs.Ytnakpfbeeekmiaa
open Go.RowKit Go.ChangeShapes Go.WideShapes

theorem idx_first : ∀ (S : List Int) (x : Int) (k : Nat), k < S.length → (∀ j, j < k → (S.getD j 0 == x) = false) → (S.getD k 0 == x) = true → S.idxOf x = k
  | [], _, k, h, _, _ => by simp at h
  | s :: S, x, 0, _, _, h => by
    have : (s == x) = true := h
    rw [List.idxOf_cons, this]; rfl
  | s :: S, x, k + 1, h, ha, hx => by
    have h0 : (s == x) = false := ha 0 (by omega)
    rw [List.idxOf_cons, h0]
    have := idx_first S x k (by simpa using h) (fun j hj => ha (j + 1) (by omega)) hx
    simp [this]
theorem idx_none : ∀ (S : List Int) (x : Int), (∀ j, j < S.length → (S.getD j 0 == x) = false) → S.idxOf x = S.length
  | [], _, _ => rfl
  | s :: S, x, ha => by
    have h0 : (s == x) = false := ha 0 (by simp)
    rw [List.idxOf_cons, h0]
    have := idx_none S x (fun j hj => ha (j + 1) (by simpa using hj))
    simp [this]
/-- Where a list holds a number first, or -1. -/
def idxI (S : List Int) (x : Int) : Int := if S.idxOf x < S.length then (S.idxOf x : Int) else -1
theorem idxI_yes {S : List Int} {x : Int} {k : Nat} (h : S.idxOf x = k) (hk : k < S.length) : idxI S x = (k : Int) := by unfold idxI; rw [h, if_pos hk]
theorem idxI_no {S : List Int} {x : Int} (h : S.idxOf x = S.length) : idxI S x = -1 := by unfold idxI; rw [h, if_neg (Nat.lt_irrefl _)]
theorem idx_ints : ∀ (Y : List Nat) (x : Nat), (intsN Y).idxOf (x : Int) = Y.idxOf x
  | [], _ => rfl
  | y :: Y, x => by
    have ih := idx_ints Y x
    have e : ((y : Int) == (x : Int)) = (y == x) := by rw [Bool.eq_iff_iff]; simp only [beq_iff_eq]; omega
    show ((y : Int) :: intsN Y).idxOf (x : Int) = _
    rw [List.idxOf_cons, List.idxOf_cons, e, ih]
theorem index_at (v : Value) (S : List Int) (x : Int) (w : World) (hv : IL w v S) (hn : S.length ≤ 1048576) :
    Calls Try.prog 90 #[v, .int .i64 x] w (fun e w' => e = .returned (.int .i64 (idxI S x)) ∧ w = w') := by
  rcases hv with ⟨rfl, ao, cap, rfl⟩ | ⟨b, off, cap, rfl, hpos, hbl, hcell⟩
  · go_enter Try.func90, Try.ntmps90
    go_wp2
    refine wp_loop_rounds 1 ?_
    rw [rounds_succ]
    go_wp2
    go_ret
    exact ⟨rfl, rfl⟩
  · have HC := Lib.hid hcell
    clear hcell
    go_enter Try.func90, Try.ntmps90
    go_wp2
    go_loop [8] (fun i => ∃ k : Nat, k ≤ S.length ∧ i = .int .i64 k ∧ ∀ j, j < k → (S.getD j 0 == x) = false) (fun i => S.length - (intOf i).toNat)
    case atStart => exact ⟨0, Nat.zero_le _, rfl, fun j hj => by omega⟩
    case round =>
      obtain ⟨k, hk, rfl, hall⟩ := hrel
      have HL := Lib.hid hall
      clear hall
      by_cases hlt : k < S.length
      · have c1 := HC.out k hlt
        obtain ⟨y, hy⟩ : ∃ y, y = S.getD k 0 := ⟨_, rfl⟩
        rw [← hy] at c1
        have HY := Lib.hid hy
        clear hy
        cases ht : (x == y) with
        | true =>
          have T := Lib.hid (show (y == x) = true by rw [BEq.comm]; exact ht)
          go_wp2_with fail
          go_ret
          exact ⟨ret_int (idxI_yes (idx_first S x k hlt HL.out (by rw [← HY.out]; exact T.out)) hlt).symm, rfl⟩
        | false =>
          have T := Lib.hid (show (y == x) = false by rw [BEq.comm]; exact ht)
          go_wp2_with fail
          go_round
          case rel => exact ⟨k + 1, by omega, by go_num, fun j hj => by
            by_cases e : j = k
            · subst e; rw [← HY.out]; exact T.out
            · exact HL.out j (by omega)⟩
          case measure => simp [intOf]; omega
      · obtain rfl : k = S.length := by omega
        go_wp2_with fail
        go_ret
        exact ⟨ret_int (idxI_no (idx_none S x HL.out)).symm, rfl⟩
end Go.Proofs.Ytnakpfbeeekmiaa
