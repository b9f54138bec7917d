/- What the walks over integers need: answers, bounds, boxes, how lists of integers come in. -/
import Derived.Test.YtfingpllakbpnaaDoorI64
import Derived.Test.YtfingpllakbpnaaDoorBox
import Derived.IntWalk
import Derived.Outline
import Derived.Deep.LoopGhost
import Derived.Deep.DeepCutAuto
namespace Go.Proofs.YtfingpllakbpnaaDoor
open Go.RowKit Go.ChangeShapes Go.WideShapes

/-- A call that only reads and draws, and answers so. -/
def Tells (b : Bool) (w : World) (e : Ending) (w' : World) : Prop := e = .returned (.bool b) ∧ ∃ n, w' = w.drewN n
theorem Tells.below {b : Bool} {w w' : World} {e : Ending} (h : Tells b w e w') : e = .returned (.bool b) ∧ Below w.heap.size w w' := by
  obtain ⟨h1, n, rfl⟩ := h
  exact ⟨h1, below_drewN (Below.refl _ _) n⟩
theorem tells {b c : Bool} {w : World} (n : Nat) (h : b = c) : Tells c w (.returned (.bool b)) (w.drewN n) := ⟨by rw [h], n, rfl⟩
theorem tells2 {b c : Bool} {w : World} (n m : Nat) (h : b = c) : Tells c w (.returned (.bool b)) ((w.drewN n).drewN m) := ⟨by rw [h], _, World.drewN_drewN _ _ _⟩
/-- A call that answers so, and lets the old memory be. -/
def Says (b : Bool) (w : World) (e : Ending) (w' : World) : Prop := e = .returned (.bool b) ∧ Below w.heap.size w w'
theorem says {b c : Bool} {w w' : World} (h : b = c) (k : Below w.heap.size w w') : Says c w (.returned (.bool b)) w' := ⟨by rw [h], k⟩
theorem Tells.says {b : Bool} {w w' : World} {e : Ending} (h : Tells b w e w') : Says b w e w' := h.below
theorem ret_bool {a b : Bool} (h : a = b) : Ending.returned (.bool a) = .returned (.bool b) := by rw [h]
theorem ret_ib {a b : Int} {c : Bool} (h : a = b) : Ending.returned (.tuple #[.int .i64 a, .bool c]) = .returned (.tuple #[.int .i64 b, .bool c]) := by rw [h]
/-- A call that answers a number, and lets the old memory be. -/
def SaysI (n : Int) (w : World) (e : Ending) (w' : World) : Prop := e = .returned (.int .i64 n) ∧ Below w.heap.size w w'
/-- A number and a bool. -/
def SaysIB (n : Int) (b : Bool) (w : World) (e : Ending) (w' : World) : Prop := e = .returned (.tuple #[.int .i64 n, .bool b]) ∧ Below w.heap.size w w'
/-- A list and a bool; a list, a number and a bool. -/
def SaysJB (Z : List Int) (b : Bool) (w : World) (e : Ending) (w' : World) : Prop := ∃ v, e = .returned (.tuple #[v, .bool b]) ∧ II w.heap.size w'.heap.size w' v Z ∧ Below w.heap.size w w'
def SaysJIB (Z : List Int) (n : Int) (b : Bool) (w : World) (e : Ending) (w' : World) : Prop := ∃ v, e = .returned (.tuple #[v, .int .i64 n, .bool b]) ∧ II w.heap.size w'.heap.size w' v Z ∧ Below w.heap.size w w'
theorem keep_cell' {lo hi : Nat} {w w' : World} {g o : Nat} {v : Value} (h : w.cell? ⟨g, o, none⟩ = some v) (ht : Turned lo hi w w') (hg : g < lo ∨ hi ≤ g) : w'.cell? ⟨g, o, none⟩ = some v := by
  rw [World.cell?_of_block (w := w) (a := ⟨g, o, none⟩) (ht.block g (cell_block h) hg)]; exact h
theorem Box2.kept {lo hi : Nat} {w w' : World} {g : Nat} {a b : Value} (h : Box2 w g a b) (ht : Turned lo hi w w') (hg : g < lo ∨ hi ≤ g) : Box2 w' g a b := ⟨keep_cell' h.c0 ht hg, keep_cell' h.c1 ht hg⟩
/-- A list of integers as it comes in. -/
def FitI (Z : List Int) : Prop := Z.length ≤ maxLen ∧ ∀ x ∈ Z, -9223372036854775808 ≤ x ∧ x ≤ 9223372036854775807
structure OKI (Z : List Int) : Prop where
  size : Z.length ≤ 1048576
  fit : FitI Z
set_option maxRecDepth 100000 in
theorem open_i64s {H : Type} {enc : TypeId × Value → H} {w : World} {v : Value} {d : DataW H} {ps : List MemPlace} {b0 : Nat}
    (hval : Value.okWide Tryd.prog w .any b0 25 v) (hd : DataW.Trod enc Tryd.prog w 0 (fun _ => true) true 25 v d ps) : ∃ Z : List Int, IL w v Z ∧ FitI Z := by
  have hc : Tryd.prog.cellsOf 2 = 1 := by kernel_rfl
  obtain ⟨a0, len, cap, rfl⟩ := okWide_slice Tryd.underlying25 hval
  obtain ⟨fuel, hf⟩ := hd
  obtain ⟨Z, hZ, lZ, fZ⟩ := open_vl (d := (0 : Int)) Tryd.underlying25 hc _ (one_i64 Tryd.underlying2) hf
  exact ⟨Z, hZ, lZ, fZ⟩
theorem inI {Z : List Int} (h : ∀ x ∈ Z, -9223372036854775808 ≤ x ∧ x ≤ 9223372036854775807) (k : Nat) : -9223372036854775808 ≤ Z.getD k 0 ∧ Z.getD k 0 ≤ 9223372036854775807 := by
  by_cases hk : k < Z.length
  · rw [getDI hk]; exact h _ (List.getElem_mem hk)
  · simp [List.getD, List.getElem?_eq_none (Nat.le_of_not_lt hk)]

theorem l00In_is (t : Bool) (n lo hi : Int) (w : World) (h : (decide (lo ≤ n) && decide (n ≤ hi)) = t) : Calls Tryd.prog 25 #[.int .i64 n, .int .i64 lo, .int .i64 hi] w (Tells t w) := by
  subst h
  by_cases h1 : lo ≤ n
  · by_cases h2 : n ≤ hi
    · rw [decide_eq_true h1, decide_eq_true h2]
      go_enter Tryd.func25, Tryd.ntmps25
      go_wp2
      go_ret
      exact tells 0 (by simp)
    · rw [decide_eq_true h1, decide_eq_false h2]
      go_enter Tryd.func25, Tryd.ntmps25
      go_wp2
      go_ret
      exact tells 0 (by simp)
  · rw [decide_eq_false h1]
    go_enter Tryd.func25, Tryd.ntmps25
    go_wp2
    go_ret
    exact tells 0 (by simp)
end Go.Proofs.YtfingpllakbpnaaDoor
