/- One element taken out of a list, in place; one put in. -/
import Derived.Test.YtknonlbbakbpiaaArr
import Derived.Test.YtknonlbbakbpiaaIl
import Derived.Test.YtknonlbbakbpiaaMv0
import Derived.Test.YtknonlbbakbpiaaDlP
import Derived.Shelf.Spec.SlicesInsert
import Derived.Sort.Grow
import Derived.Sort.Row
namespace Go.Proofs.Ytknonlbbakbpiaa
open Go.RowKit Go.ChangeShapes Go.WideShapes Go.Sort

theorem holds_of {w : World} {g off : Nat} {Z : List Int} (h : Arr (Value.int .i64) 0 w g off Z) : Holds (Value.int .i64) w g off Z.toArray := by
  intro j hj
  have hj2 : j < Z.length := by simpa using hj
  refine ⟨?_, h.free _⟩
  rw [h.cells j hj2]
  simp [List.getD, hj2, getElem!_pos]
theorem turned_put {w : World} {g off n : Nat} {d : Array Int} : Turned g (g + 1) w (putRow (Value.int .i64) (Sort.ahead w n) g off d) := by
  refine ⟨rfl, rfl, rfl, by simp, fun b hb hne => ?_⟩
  show (w.heap.modify g _)[b]? = w.heap[b]?
  rw [Array.getElem?_modify, if_neg (by omega)]
theorem arr_put {w : World} {g off n : Nat} {Z Y : List Int} (h : Arr (Value.int .i64) 0 w g off Z) (hl : Y.length = Z.length) :
    Arr (Value.int .i64) 0 (putRow (Value.int .i64) (Sort.ahead w n) g off Y.toArray) g off Y := by
  have h1 : Holds (Value.int .i64) (putRow (Value.int .i64) (Sort.ahead w n) g off Y.toArray) g off Y.toArray := holds_putRow _ _ _ _ Z.toArray Y.toArray (holds_ahead _ _ n _ _ _ (holds_of h)) (by simpa using hl)
  refine ⟨fun i hi => ?_, fun i => ?_⟩
  · rw [(h1 i (by simpa using hi)).1]
    simp [List.getD, hi, getElem!_pos]
  · rw [frozen?_putRow]
    exact h.free i
/-- slices.Delete of one element: in place; what it leaves behind is 0. -/
theorem delete_any (g off cap i : Nat) (T : List Int) (w : World) (hA : Arr (Value.int .i64) 0 w g off T) (hi : i < T.length) (hc : T.length ≤ cap) (hm : cap ≤ 9223372036854775807) :
    Calls Try.prog 147 #[.slice (some ⟨g, off, none⟩) T.length cap, .int .i64 i, .int .i64 ((i + 1 : Nat) : Int)] w
      fun e w' => e = .returned (.slice (some ⟨g, off, none⟩) (T.length - 1) cap) ∧ Turned g (g + 1) w w' ∧ Arr (Value.int .i64) 0 w' g off (dropF T i ++ [0]) :=
  (AnyG.slices_Delete_int_arr Try.slDelete g off cap i (i + 1) T.toArray w (holds_of hA) hc hm (Nat.le_succ _) hi).mono fun e w' ⟨h1, q, h2⟩ => by
    subst h2
    have e1 : i + 1 - i = 1 := by omega
    rw [e1] at h1 ⊢
    exact ⟨h1, turned_put, arr_put hA (show (dropF T i ++ [0]).length = T.length by rw [List.length_append, dropF_len hi, List.length_singleton]; omega)⟩
theorem shape_of {w : World} {b o : Nat} {v : Value} (h : w.cell? ⟨b, o, none⟩ = some v) : ∃ t k, w.shape? b = some (t, k) ∧ k ≠ 0 := by
  unfold World.cell? at h
  split at h
  · rename_i c e f hb
    have hb2 : w.heap[b]? = some (.cells c e f) := hb
    simp at h
    have hs : o < c.size := (Array.getElem?_eq_some_iff.1 h).1
    refine ⟨e, c.size, ?_, by omega⟩
    unfold World.shape?
    rw [hb2]
  · cases h
end Go.Proofs.Ytknonlbbakbpiaa
