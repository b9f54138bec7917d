/- slices.Sort of a list of integers of any length: the row holds them in order; all else is as it was. -/
import Derived.Test.YtbaaocgdpgoggaaSoP
import Derived.Test.YtbaaocgdpgoggaaArr
import Derived.Test.YtbaaocgdpgoggaaTb0
namespace Go.Proofs.Ytbaaocgdpgoggaa
open Go.RowKit Go.ChangeShapes Go.WideShapes Go.Sort

theorem holds_arr {w : World} {g off : Nat} {Z : List Int} (h : Arr (Value.int .i64) 0 w g off Z) : Holds (Value.int .i64) w g off Z.toArray := by
  intro j hj
  have hj2 : j < Z.length := by simpa using hj
  refine ⟨?_, h.free _⟩
  rw [h.cells j hj2]
  simp [List.getD, hj2, getElem!_pos]
theorem turned_sort {w : World} {g off n : Nat} {d : Array Int} {os : Array Obj} : Turned g (g + 1) w (grow (putRow (Value.int .i64) (Sort.ahead w n) g off d) os) := by
  refine ⟨rfl, rfl, rfl, by simp, fun b hb hne => ?_⟩
  rw [heap_grow_old _ os (by simpa using hb)]
  show (w.heap.modify g _)[b]? = w.heap[b]?
  rw [Array.getElem?_modify, if_neg (by omega)]
theorem arr_sort {w : World} {g off n : Nat} {Z Y : List Int} {os : Array Obj} (h : Arr (Value.int .i64) 0 w g off Z) (hl : Y.length = Z.length) (hg : g < w.heap.size) :
    Arr (Value.int .i64) 0 (grow (putRow (Value.int .i64) (Sort.ahead w n) g off Y.toArray) os) g off Y := by
  have h1 : Holds (Value.int .i64) (putRow (Value.int .i64) (Sort.ahead w n) g off Y.toArray) g off Y.toArray := holds_putRow _ _ _ _ Z.toArray Y.toArray (holds_ahead _ _ n _ _ _ (holds_arr h)) (by simpa using hl)
  refine ⟨fun i hi => ?_, fun i => ?_⟩
  · rw [cell?_grow _ os _ (by simpa using hg), (h1 i (by simpa using hi)).1]
    simp [List.getD, hi, getElem!_pos]
  · rw [frozen?_grow _ os _ (by simpa using hg), frozen?_putRow]
    exact h.free i
def sortL (Z : List Int) : List Int := Z.mergeSort fun x y => decide (x ≤ y)
theorem sortL_len (Z : List Int) : (sortL Z).length = Z.length := List.length_mergeSort Z
theorem sortL_perm (Z : List Int) : (sortL Z).Perm Z := List.mergeSort_perm Z _
theorem sortL_tour {T : List Int} {n : Nat} : sortL T = numL n ↔ tourB T n = true := sorted_tour (sortL_perm T) (sort_le T)
/-- A row is put in order. -/
def PutIn (g off : Nat) (Z : List Int) (w : World) (e : Ending) (w' : World) : Prop := e = .returned (.tuple #[]) ∧ Turned g (g + 1) w w' ∧ Arr (Value.int .i64) 0 w' g off (sortL Z)
theorem sortI_any (g off cap : Nat) (Z : List Int) (w : World) (hA : Arr (Value.int .i64) 0 w g off Z) (hg : g < w.heap.size) (hn : Z.length ≤ 1048576) :
    Calls Try.prog 85 #[.slice (some ⟨g, off, none⟩) Z.length cap] w (PutIn g off Z w) :=
  (AnyM.slices_Sort_int Try.sortI g off cap Z w (holds_arr hA) hg (by omega)).mono fun _ _ ⟨h1, n, os, h2⟩ => by
    subst h2
    exact ⟨h1, turned_sort, arr_sort hA (sortL_len Z) hg⟩
theorem sortI_none (p : Option Addr) (cap : Nat) (w : World) : Calls Try.prog 85 #[.slice p 0 cap] w (fun e w' => e = .returned (.tuple #[]) ∧ w' = w) :=
  AnyM.slices_Sort_int_none Try.sortI p cap w
end Go.Proofs.Ytbaaocgdpgoggaa
