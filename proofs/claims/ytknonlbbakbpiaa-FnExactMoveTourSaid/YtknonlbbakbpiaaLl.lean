/- Lists of lists of integers that grow by append. -/
import Derived.Test.YtknonlbbakbpiaaClI
import Derived.Maps.AppendAt
namespace Go.Proofs.Ytknonlbbakbpiaa
open Go.RowKit Go.ChangeShapes Go.WideShapes

theorem Try.infoII : (Try.prog.info? 35).map (fun i => (i.zero, i.size, i.bytes)) = some (some (.slice none 0 0), 1, 24) := by kernel_rfl
theorem SI.grown {α : Type} {mk : α → Value} {d : α} {lo hi : Nat} {w w' : World} {v : Value} {Z : List α} {row : Option Nat} (h : SI mk d lo hi w v Z) (hg : w.grownBy w' row) (hr : ∀ g, row = some g → g < lo ∨ hi ≤ g) : SI mk d lo hi w' v Z := by
  obtain ⟨h0, h | ⟨b, off, cap, h1, h2, h3, h4, h5, h6⟩⟩ := h
  · exact ⟨Nat.le_trans h0 hg.size, Or.inl h⟩
  · have hk := hg.block b (by omega) (fun e => by have := hr b e.symm; omega)
    exact ⟨Nat.le_trans h0 hg.size, Or.inr ⟨b, off, cap, h1, h2, h3, h4, fun i => by rw [World.frozen?_of_block (w := w) (a := ⟨b, i, none⟩) hk]; exact h5 i, fun i hi => by rw [World.cell?_of_block (w := w) (a := ⟨b, off + i, none⟩) hk]; exact h6 i hi⟩⟩
/-- A list that is not empty lies somewhere. -/
theorem II.lies {lo hi : Nat} {w : World} {v : Value} {Z : List Int} (h : II lo hi w v Z) (hp : 0 < Z.length) :
    ∃ b off cap, v = .slice (some ⟨b, off, none⟩) Z.length (Z.length + cap) ∧ lo ≤ b ∧ b < hi ∧ hi ≤ w.heap.size ∧ Arr (Value.int .i64) 0 w b off Z := by
  obtain ⟨h0, ⟨rfl, -⟩ | ⟨b, off, cap, h1, h2, h3, h4, h5, h6⟩⟩ := h
  · simp at hp
  · exact ⟨b, off, cap, h1, h3, h4, h0, ⟨h6, h5⟩⟩
theorem Arr.ii {lo : Nat} {w : World} {b off cap : Nat} {Z : List Int} (h : Arr (Value.int .i64) 0 w b off Z) (hp : 0 < Z.length) (hl : lo ≤ b) (hb : b < w.heap.size) :
    II lo w.heap.size w (.slice (some ⟨b, off, none⟩) Z.length (Z.length + cap)) Z := ⟨Nat.le_refl _, Or.inr ⟨b, off, cap, rfl, hp, hl, hb, h.free, h.cells⟩⟩
theorem Arr.ii1 {w : World} {b off cap : Nat} {Z : List Int} (h : Arr (Value.int .i64) 0 w b off Z) (hp : 0 < Z.length) (hb : b < w.heap.size) :
    II b (b + 1) w (.slice (some ⟨b, off, none⟩) Z.length (Z.length + cap)) Z := ⟨hb, Or.inr ⟨b, off, cap, rfl, hp, Nat.le_refl _, Nat.lt_succ_self _, h.free, h.cells⟩⟩
/-- n lists, the j-th reads as f j, in rows of the call's own. -/
structure LLs (lo : Nat) (v : Value) (vs : List Value) (n : Nat) (f : Nat → List Int) (wr : World) : Prop where
  grows : Grows (fun u : Value => u) 35 lo v vs wr
  len : vs.length = n
  rows : ∀ j, j < n → ∃ b, II b (b + 1) wr (vs.getD j undef) (f j) ∧ lo ≤ b ∧ v.ownBlock ≠ some b
theorem LLs.below {lo : Nat} {v : Value} {vs : List Value} {n : Nat} {f : Nat → List Int} {w w' : World} (h : LLs lo v vs n f w) (hb : Below w.heap.size w w') : LLs lo v vs n f w' :=
  ⟨h.grows.below hb (Nat.le_refl _), h.len, fun j hj => by
    obtain ⟨b, h1, h2, h3⟩ := h.rows j hj
    exact ⟨b, II.below' h1 hb (Nat.le_refl _), h2, h3⟩⟩
theorem LLs.cell {lo : Nat} {v : Value} {vs : List Value} {n : Nat} {f : Nat → List Int} {w : World} (h : LLs lo v vs n f w) (hn : 0 < n) :
    ∃ b off cap, v = .slice (some ⟨b, off, none⟩) n (n + cap) ∧ lo ≤ b ∧ b < w.heap.size ∧ ∀ i, i < n → w.cell? ⟨b, off + i, none⟩ = some (vs.getD i undef) := by
  obtain ⟨h0, ⟨he, -⟩ | ⟨b, off, cap, h1, h2, h3, h4, h5, h6⟩⟩ := h.grows.si (d := undef)
  · have := h.len; rw [he] at this; simp at this; omega
  · rw [h.len] at h1 h6
    exact ⟨b, off, cap, h1, h3, h4, h6⟩
theorem LLs.one {lo : Nat} {f : Nat → List Int} {w : World} {u : Value} {b : Nat} (h : II b (b + 1) w u (f 0)) (hl : lo ≤ b) (hw : lo ≤ w.heap.size) :
    LLs lo (.slice (some ⟨w.heap.size, 0, none⟩) 1 1) [u] 1 f (w.alloc (.cells #[u] 35)) :=
  ⟨Grows.one _ _ _ _ _ hw, rfl, fun j hj => by
    obtain rfl : j = 0 := by omega
    exact ⟨b, II.below' h (below_alloc w _) (Nat.le_refl _), hl, fun e => by
      have := h.1
      simp only [Value.ownBlock, Option.some.injEq] at e
      omega⟩⟩
theorem LLs.push {lo : Nat} {v v' u : Value} {vs : List Value} {n : Nat} {f : Nat → List Int} {w w' : World} {o : Obj} {b : Nat} (h : LLs lo v vs n f w) (hu : II b (b + 1) w u (f n)) (hl : lo ≤ b) (hb : v.ownBlock ≠ some b)
    (hown : w'.ownsRow lo 35 1 v' (vs.length + 1) (vs.map (fun u : Value => u) ++ [u])) (hg : (w.alloc o).grownBy w' v.ownBlock) (hat : v'.ownBlock = v.ownBlock ∨ v'.ownBlock = some (w.alloc o).heap.size) : LLs lo v' (vs ++ [u]) (n + 1) f w' := by
  have hn : ∀ c, c + 1 ≤ w.heap.size → v.ownBlock ≠ some c → v'.ownBlock ≠ some c := fun c hc hv => by
    rcases hat with e | e
    · rw [e]; exact hv
    · rw [e]
      intro e2
      simp at e2
      omega
  have hk : ∀ c x Z, II c (c + 1) w x Z → v.ownBlock ≠ some c → II c (c + 1) w' x Z := fun c x Z hi hv =>
    SI.grown (II.below' hi (below_alloc w o) (Nat.le_refl _)) hg (fun g e => by
      have : g ≠ c := fun e2 => hv (by rw [e, e2])
      omega)
  refine ⟨Grows.more (news := [u]) rfl hown, by rw [List.length_append, h.len]; rfl, fun j hj => ?_⟩
  by_cases e : j = n
  · subst e
    refine ⟨b, ?_, hl, hn b hu.1 hb⟩
    have : (vs ++ [u]).getD j undef = u := by rw [← h.len]; simp [List.getD]
    rw [this]
    exact hk _ _ _ hu hb
  · obtain ⟨c, h1, h2, h3⟩ := h.rows j (by omega)
    refine ⟨c, ?_, h2, hn c h1.1 h3⟩
    have : (vs ++ [u]).getD j undef = vs.getD j undef := by
      have hj2 : j < vs.length := by rw [h.len]; omega
      simp [List.getD, List.getElem?_append_left hj2]
    rw [this]
    exact hk _ _ _ h1 h3
/-- A row of a call's own in block B, from off on. -/
structure RowO (w : World) (B off : Nat) (Z : List Int) (wr : World) : Prop where
  below : Below w.heap.size w wr
  lt : B < wr.heap.size
  ge : w.heap.size ≤ B
  arr : Arr (Value.int .i64) 0 wr B off Z
theorem RowO.drew {w wr : World} {B off : Nat} {Z : List Int} (h : RowO w B off Z wr) (n : Nat) : RowO w B off Z (wr.drewN n) := ⟨below_drewN h.below n, h.lt, h.ge, h.arr.drewN n⟩
theorem RowO.set {w wr : World} {B off : Nat} {Z : List Int} (h : RowO w B off Z wr) {i : Nat} (hi : i < Z.length) (x : Int) : RowO w B off (Z.set i x) (wr.setCell ⟨B, off + i, none⟩ (.int .i64 x)) :=
  ⟨h.below.setCell h.ge _, by simpa using h.lt, h.ge, h.arr.set hi x⟩
theorem RowO.to {w wr : World} {B off : Nat} {Z Y : List Int} (h : RowO w B off Z wr) (e : Z = Y) : RowO w B off Y wr := e ▸ h
end Go.Proofs.Ytknonlbbakbpiaa
