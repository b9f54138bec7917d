/- slices.DeleteFunc of indices, in a row of the call's own. -/
import Derived.Test.YtnakpfbeeekmiaaDelP
import Derived.Test.YtnakpfbeeekmiaaEnc0
import Derived.Test.YtnakpfbeeekmiaaIns0
namespace Go.Proofs.Ytnakpfbeeekmiaa
open Go.RowKit Go.ChangeShapes Go.WideShapes Go.Sort

section
variable {n : Nat} [Inhabited (Fin n)]
/-- Indices of a list as ones below n. -/
def finL (n : Nat) [Inhabited (Fin n)] (Y : List Nat) : List (Fin n) := Y.map fun x => if h : x < n then ⟨x, h⟩ else default
theorem finL_len (Y : List Nat) : (finL n Y).length = Y.length := by simp [finL]
theorem finL_val {Y : List Nat} (h : ∀ x ∈ Y, x < n) : (finL n Y).map Fin.val = Y := by
  unfold finL
  rw [List.map_map]
  conv => rhs; rw [← List.map_id Y]
  refine List.map_congr_left fun x hx => ?_
  simp [h x hx]
omit [Inhabited (Fin n)] in
theorem finL_filter (p : Nat → Bool) : ∀ L : List (Fin n), (L.filter fun x => p x.val).map Fin.val = (L.map Fin.val).filter p
  | [] => rfl
  | x :: L => by
    simp only [List.map_cons, List.filter_cons]
    split
    · rw [List.map_cons, finL_filter p L]
    · exact finL_filter p L
theorem val_at {L : List (Fin n)} {i : Nat} (h : i < L.length) : (L.map Fin.val).getD i 0 = (L[i]!).val := by
  simp [List.getD, h]
/-- A predicate answers so in every world in which the row alone has turned. -/
def PredOf (g : Nat) (cb : Array Value) (p : Nat → Bool) (n blk : Nat) (w : World) : Prop :=
  ∀ W, Turned blk (blk + 1) w W → ∀ x : Nat, x < n → Calls Try.prog g (#[.int .i64 (x : Int)] ++ cb) W fun e w' => e = .returned (.bool (p x)) ∧ ∃ q, w' = W.drewN q
/-- What is left: at the row's beginning. -/
def Left (blk off cap : Nat) (L : List Nat) (w : World) (e : Ending) (w' : World) : Prop := e = .returned (.slice (some ⟨blk, off, none⟩) L.length cap) ∧ Turned blk (blk + 1) w w' ∧ Arr (Value.int .i64) 0 w' blk off (intsN L)
/-- The row's block stays one of as many cells. -/
def Blk (blk : Nat) (w w' : World) : Prop := ∀ cur e, w.heap[blk]? = some (.cells cur e (0, 0)) → ∃ cur' : Array Value, w'.heap[blk]? = some (.cells cur' e (0, 0)) ∧ cur'.size = cur.size
theorem blk_put {α : Type} [Inhabited α] {enc : α → Value} {w : World} {blk off q : Nat} {D : Array α} : Blk blk w (putRow enc (Sort.ahead w q) blk off D) := by
  intro cur e h
  refine ⟨putCells enc off D cur, ?_, by simp [putCells]⟩
  show (w.heap.modify blk (onCells (putCells enc off D)))[blk]? = _
  rw [Array.getElem?_modify, if_pos rfl, h]
  rfl
theorem delF_any (h1 : 1 ≤ n) (g : Nat) (cb : Array Value) (p : Nat → Bool) (blk off cap : Nat) (Y : List Nat) (w : World) (hY : ∀ x ∈ Y, x < n) (hs : Y.length ≤ 1048576) (hc : Y.length ≤ cap)
    (eg : ∀ args w, (callFunc g args).run Try.prog w = .ok (.enter g args) w) (hp : PredOf g cb p n blk w) (hA : Arr (Value.int .i64) 0 w blk off (intsN Y)) (_ : blk < w.heap.size) :
    Calls Try.prog 115 #[.slice (some ⟨blk, off, none⟩) Y.length cap, .func (.func g) #[] cb] w (fun e w' => Left blk off cap (Y.filter fun x => !p x) w e w' ∧ Blk blk w w') := by
  have hl := finL_len (n := n) Y
  have hH : Holds (encF (n := n)) w blk off (finL n Y).toArray := by
    intro j hj
    have hj' : j < Y.length := by simpa [hl] using hj
    refine ⟨?_, hA.free _⟩
    rw [hA.cells j (by rw [intsN_len]; exact hj'), intsN_at hj']
    have e : Y.getD j 0 = ((finL n Y)[j]!).val := by rw [← val_at (by rw [hl]; exact hj'), finL_val hY]
    rw [e]
    unfold encF
    simp
  have h := AnyE.slices_DeleteFunc Try.delF (encF (n := n)) (fun _ => rfl) (fun x => p x.val) g cb eg ⟨0, h1⟩ Try.zeroValue2 blk off cap (finL n Y).toArray w
    (fun W x hb => hp W (Turned.of_below hb (Nat.le_refl _)) x.val x.isLt) (fun m os dk x _ => hp _ turnedE x.val x.isLt) hH (by simp [hl]; omega) (by simpa [hl] using hc)
  have hsz : (finL n Y).toArray.size = Y.length := by simp [hl]
  rw [hsz] at h
  refine h.mono fun e w' ⟨he, q, hw⟩ => ?_
  subst hw
  have hF : ((finL n Y).filter fun x => !p x.val).map Fin.val = Y.filter fun x => !p x := by
    rw [finL_filter (fun x => !p x), finL_val hY]
  have hFl : ((finL n Y).filter fun x => !p x.val).length = (Y.filter fun x => !p x).length := by
    rw [← hF, List.length_map]
  have hle : (Y.filter fun x => !p x).length ≤ Y.length := List.length_filter_le _ _
  have e0 : (finL n Y).toArray.toList = finL n Y := rfl
  rw [e0, hFl] at he
  rw [e0, hFl]
  generalize hD : ((finL n Y).filter fun x => !p x.val) ++ List.replicate (Y.length - (Y.filter fun x => !p x).length) (⟨0, h1⟩ : Fin n) = D
  have hDl : D.toArray.size = (finL n Y).toArray.size := by rw [← hD, hsz]; simp [hFl]; omega
  have h2 := holds_putRow (encF (n := n)) (Sort.ahead w q) blk off (finL n Y).toArray D.toArray (holds_ahead _ _ q _ _ _ hH) hDl
  refine ⟨⟨he, ?_, ⟨fun i hi => ?_, fun i => ?_⟩⟩, blk_put⟩
  · have := turnedE (enc := encF (n := n)) (w := w) (g := blk) (off := off) (n := q) (d := D.toArray) (os := #[])
    rwa [grow_empty] at this
  · rw [intsN_len] at hi
    rw [(h2 i (by rw [hDl, hsz]; omega)).1, intsN_at hi, ← hF, val_at (by rw [hFl]; exact hi)]
    have : D.toArray[i]! = ((finL n Y).filter fun x => !p x.val)[i]! := by
      rw [← hD]
      have h3 : i < ((finL n Y).filter fun x => !p x.val).length := by rw [hFl]; exact hi
      simp only [List.getElem!_toArray]
      rw [getElem!_pos _ i (by rw [List.length_append]; omega), getElem!_pos _ i h3, List.getElem_append_left h3]
    rw [this]
    rfl
  · rw [frozen?_putRow]
    exact hA.free i
end
theorem delN_any (n : Nat) (h1 : 1 ≤ n) (g : Nat) (cb : Array Value) (p : Nat → Bool) (blk off cap : Nat) (Y : List Nat) (w : World) (hY : ∀ x ∈ Y, x < n) (hs : Y.length ≤ 1048576) (hc : Y.length ≤ cap)
    (eg : ∀ args w, (callFunc g args).run Try.prog w = .ok (.enter g args) w) (hp : PredOf g cb p n blk w) (hA : Arr (Value.int .i64) 0 w blk off (intsN Y)) (hg : blk < w.heap.size) :
    Calls Try.prog 115 #[.slice (some ⟨blk, off, none⟩) Y.length cap, .func (.func g) #[] cb] w (Left blk off cap (Y.filter fun x => !p x) w) := by
  haveI : Inhabited (Fin n) := ⟨⟨0, h1⟩⟩
  exact (delF_any h1 g cb p blk off cap Y w hY hs hc eg hp hA hg).mono fun _ _ h => h.1
theorem delB_any (n : Nat) (h1 : 1 ≤ n) (g : Nat) (cb : Array Value) (p : Nat → Bool) (blk off cap : Nat) (Y : List Nat) (w : World) (hY : ∀ x ∈ Y, x < n) (hs : Y.length ≤ 1048576) (hc : Y.length ≤ cap)
    (eg : ∀ args w, (callFunc g args).run Try.prog w = .ok (.enter g args) w) (hp : PredOf g cb p n blk w) (hA : Arr (Value.int .i64) 0 w blk off (intsN Y)) (hg : blk < w.heap.size) :
    Calls Try.prog 115 #[.slice (some ⟨blk, off, none⟩) Y.length cap, .func (.func g) #[] cb] w (fun e w' => Left blk off cap (Y.filter fun x => !p x) w e w' ∧ Blk blk w w') := by
  haveI : Inhabited (Fin n) := ⟨⟨0, h1⟩⟩
  exact delF_any h1 g cb p blk off cap Y w hY hs hc eg hp hA hg
end Go.Proofs.Ytnakpfbeeekmiaa
