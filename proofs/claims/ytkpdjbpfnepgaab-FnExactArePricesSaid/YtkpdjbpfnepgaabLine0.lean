/- Rows of a list of rows. -/
import Derived.Test.YtkpdjbpfnepgaabLaw
namespace Go.Proofs.Ytkpdjbpfnepgaab
open Go.RowKit Go.ChangeShapes Go.WideShapes

/-- A row of a list of rows. -/
def lineL (Z : List Nat) (W r : Nat) : List Nat := (Z.drop (r * W)).take W
theorem lineL_len {Z : List Nat} {W r : Nat} (h : r * W + W ≤ Z.length) : (lineL Z W r).length = W := by unfold lineL; rw [List.length_take, List.length_drop]; omega
theorem lineL_at {Z : List Nat} {W r i : Nat} (hi : i < W) : (lineL Z W r).getD i 0 = Z.getD (r * W + i) 0 := by
  unfold lineL
  simp [List.getD, hi, List.getElem?_drop]

/-- A call that answers a list that lies where it lay. -/
def Lists (Z : List Nat) (w : World) (e : Ending) (w' : World) : Prop := ∃ v, e = .returned v ∧ SL w' v Z ∧ Below w.heap.size w w'

set_option maxHeartbeats 1000000 in
theorem lineAt_any (v : Value) (Z : List Nat) (W r : Nat) (w : World) (hv : SL w v Z) (hW : 1 ≤ W) (h : r * W + W ≤ Z.length) (hn : Z.length ≤ 1048576) :
    Calls Try.prog 75 #[v, .int .i64 W, .int .i64 r] w (Lists (lineL Z W r) w) := by
  rcases hv with ⟨rfl, ao, cap, rfl⟩ | ⟨b, off, cap, rfl, hpos, hbl, hcell⟩
  · simp at h; omega
  have hr : r ≤ r * W := Nat.le_mul_of_pos_right _ hW
  have hw1 : IntKind.i64.wrap ((r : Int) * (W : Int)) = ((r * W : Nat) : Int) := by rw [← Int.natCast_mul]; exact IntWalk.i64_in _ (by omega)
  have hw2 : IntKind.i64.wrap (((r : Int) + 1) * (W : Int)) = ((r * W + W : Nat) : Int) := by
    have e : ((r : Int) + 1) * (W : Int) = ((r * W + W : Nat) : Int) := by rw [Int.add_mul, Int.one_mul]; simp
    rw [e]; exact IntWalk.i64_in _ (by omega)
  have b1 : (0 : Int) ≤ ((r * W : Nat) : Int) := by omega
  have b2 : ((r * W : Nat) : Int) ≤ ((r * W + W : Nat) : Int) := by omega
  have b3 : ((r * W + W : Nat) : Int) ≤ ((Z.length + cap : Nat) : Int) := by omega
  have HL := Lib.hid (lineL_len (Z := Z) h)
  have HC := Lib.hid hcell
  clear hcell
  go_enter Try.func75, Try.ntmps75
  go_wp2_with fail
  go_ret
  refine ⟨_, rfl, Or.inr ⟨b, off + r * W, 0, ?_, by rw [HL.out]; exact hW, hbl, fun i hi => ?_⟩, Below.refl _ _⟩
  · rw [HL.out, Nat.add_sub_cancel_left]; rfl
  · rw [HL.out] at hi
    rw [lineL_at hi, Nat.add_assoc]
    exact HC.out _ (by omega)

end Go.Proofs.Ytkpdjbpfnepgaab
