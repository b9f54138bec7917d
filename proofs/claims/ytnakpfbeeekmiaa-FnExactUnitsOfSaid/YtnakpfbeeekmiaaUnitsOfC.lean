/- What UnitsOf needs: Fo LiI AmS UnS UnP UnJ UnQ FndI Gv0 SfP ClI Mix NumB Ins0 Ins1 Ag IxGv GvI UnI. -/
import Derived.Test.YtnakpfbeeekmiaaUnitsOfB
import Derived.Test.YtnakpfbeeekmiaaUnitsOfA
import Derived.Lib.Builder
import Derived.WalkSpells
import Derived.Deep.AppendLies
import Derived.Laws.AppendOwnNone
import Derived.ScopeJumps
import Derived.Deep.RegionLawGrows
import Derived.Deep.RegionHeld3
import Derived.Deep.QuietTactic
import Derived.BigQuiet
import Derived.StillTailTactics
import Derived.WalkMore
import Derived.Shelf.SlGeneric
import Derived.Shelf.SlSortCmp.Whole1
import Derived.Test.YtnakpfbeeekmiaaChecked
import Derived.Deep.LoopGhost
import Derived.Sort.Defs
import Derived.Shelf.SlSortCmp.NoneTotal
import Derived.Sort.Statements
/- A form of the call's own that grows: its letters, and clauses that are put behind one another. -/
namespace Go.Proofs.Ytnakpfbeeekmiaa
open Go.RowKit Go.ChangeShapes Go.WideShapes

def SaysFB (N : Fm) (b : Bool) (w : World) (e : Ending) (w' : World) : Prop := ∃ v, e = .returned (.tuple #[v, .bool b]) ∧ FmD w.heap.size w'.heap.size w' v N ∧ Below w.heap.size w w'
/-- A box of two cells that may be written. -/
structure Res2 (w : World) (g : Nat) : Prop where
  c0 : ∃ u, w.cell? ⟨g, 0, none⟩ = some u
  c1 : ∃ u, w.cell? ⟨g, 1, none⟩ = some u
  free : ∀ i, w.frozen? ⟨g, i, none⟩ = false
theorem Res2.keep {B : Nat} {w w' : World} {g : Nat} (h : Res2 w g) (hb : Below B w w') (hg : g < B) : Res2 w' g := by
  obtain ⟨⟨u, h0⟩, ⟨v, h1⟩, hf⟩ := h
  exact ⟨⟨u, by rw [hb.cell (p := ⟨g, 0, none⟩) hg]; exact h0⟩, ⟨v, by rw [hb.cell (p := ⟨g, 1, none⟩) hg]; exact h1⟩, fun i => by rw [hb.frozen (p := ⟨g, i, none⟩) hg]; exact hf i⟩
theorem Res2.lt {w : World} {g : Nat} (h : Res2 w g) : g < w.heap.size := by
  obtain ⟨u, h0⟩ := h.c0
  exact cell_block h0
/-- The form in block g has the letters L and the clauses C. -/
structure FoUp (L : Int) (C : List (List Int)) (g : Nat) (s : Value) (w wr : World) (U : Nat → Value) : Prop where
  box : wr.heap[g]? = some (.cells #[.int .i64 L, s] 29 (0, 0))
  out : OutUp w.heap.size C s w wr U
  ne : s.ownBlock ≠ some g
  nu : ∀ j, j < C.length → (U j).ownBlock ≠ some g
  ge : w.heap.size ≤ g
theorem FoUp.lt {L : Int} {C : List (List Int)} {g : Nat} {s : Value} {w wr : World} {U : Nat → Value} (h : FoUp L C g s w wr U) : g < wr.heap.size := (Array.getElem?_eq_some_iff.1 h.box).1
theorem FoUp.keep {L : Int} {C : List (List Int)} {g : Nat} {s : Value} {w wr w2 : World} {U : Nat → Value} (h : FoUp L C g s w wr U) (b : Below wr.heap.size wr w2) : FoUp L C g s w w2 U :=
  ⟨by rw [b.block g h.lt]; exact h.box, h.out.keep b, h.ne, h.nu, h.ge⟩
theorem FoUp.cells {L : Int} {C : List (List Int)} {g : Nat} {s : Value} {w wr : World} {U : Nat → Value} (h : FoUp L C g s w wr U) :
    wr.cell? ⟨g, 0, none⟩ = some (.int .i64 L) ∧ wr.cell? ⟨g, 1, none⟩ = some s ∧ wr.frozen? ⟨g, 1, none⟩ = false :=
  ⟨by rw [Lib.cell_of_heap h.box]; rfl, by rw [Lib.cell_of_heap h.box]; rfl, Lib.frozen_of_heap h.box 1⟩
theorem FoUp.start (L : Int) {w w1 : World} (hb : Below w.heap.size w w1) : FoUp L [] w1.heap.size (.slice none 0 0) w (w1.alloc (.cells #[.int .i64 L, .slice none 0 0] 29)) (fun _ => vnil) :=
  ⟨heap_alloc_new w1 _, ⟨World.ownsRow_nil _ _ _ _, fun j h => by simp at h, fun j h => by simp at h, fun i j h => by simp at h, hb.alloc hb.size _⟩, by simp [Value.ownBlock], fun j h => by simp at h, hb.size⟩
/-- One more clause: d was made behind wr, then the row of clauses has grown, and lies in its field. -/
theorem FoUp.next {L : Int} {C : List (List Int)} {Z : List Int} {g gg cap : Nat} {s d : Value} {w wr w0 w1 : World} {U : Nat → Value} (h : FoUp L C g s w wr U) (h0 : Below wr.heap.size wr w0)
    (hd : Grows (Value.int .i64) 2 wr.heap.size d Z w0)
    (hown : w1.ownsRow w.heap.size 25 1 (.slice (some ⟨gg, 0, none⟩) (C.length + 1) cap) (C.length + 1) ((List.range C.length).map U ++ [d])) (hgr : w0.grownBy w1 s.ownBlock) (hat : s.ownBlock = some gg ∨ gg = w0.heap.size) (q : Nat) :
    FoUp L (C ++ [Z]) g (.slice (some ⟨gg, 0, none⟩) (C.length + 1) cap) w ((w1.drewN q).setCell ⟨g, 1, none⟩ (.slice (some ⟨gg, 0, none⟩) (C.length + 1) cap)) (fun j => if j = C.length then d else U j) := by
  have hk := h.keep h0
  have hws := h.out.below.size
  have hfar : ∀ b, d.ownBlock = some b → wr.heap.size ≤ b := fun b e => (World.ownsRow.lt hd b e).1
  have hst := hk.out.step (d := d) (Z := Z) (g := gg) (cap := cap) (w2 := w1) (Nat.le_refl _) (hd.lower hws)
    (fun b e => ⟨fun e2 => by have h1 := hfar b e; have h2 := (World.ownsRow.lt h.out.own b e2).2; omega, fun j hj e2 => by have h1 := hfar b e; have h2 := (World.ownsRow.lt (h.out.row j hj) b e2).2; omega⟩) hown hgr hat
  have hg1 : g < w1.heap.size := Nat.lt_of_lt_of_le hk.lt hgr.size
  have hb1 : w1.heap[g]? = some (.cells #[.int .i64 L, s] 29 (0, 0)) := by rw [hgr.block g hk.lt (fun e => h.ne e.symm)]; exact hk.box
  have hne : gg ≠ g := by
    rcases hat with e | e
    · intro q; exact h.ne (by rw [e, q])
    · have := hk.lt; omega
  have hnd : d.ownBlock ≠ some g := fun e => by have := hfar g e; have := h.lt; omega
  have hgw : (w1.drewN q).grownBy ((w1.drewN q).setCell ⟨g, 1, none⟩ (.slice (some ⟨gg, 0, none⟩) (C.length + 1) cap)) (some g) := grown_set _ _ _ _
  have hl : (C ++ [Z]).length = C.length + 1 := by simp
  have nub : ∀ j, j < C.length + 1 → (if j = C.length then d else U j).ownBlock ≠ some g := fun j hj => by
    by_cases e : j = C.length
    · rw [if_pos e]; exact hnd
    · rw [if_neg e]; exact h.nu j (by omega)
  refine ⟨?_, ⟨?_, fun j hj => ?_, hst.ne, hst.inj, ?_⟩, fun e => hne (by injection e), fun j hj => nub j (by rw [hl] at hj; exact hj), h.ge⟩
  · show ((w1.drewN q).setCell _ _).heap[g]? = _
    have h3 : (w1.drewN q).heap[g]? = some (.cells #[.int .i64 L, s] 29 (0, 0)) := hb1
    rw [World.setCell]
    simp only [Array.getElem?_modify, if_true, h3]
    rfl
  · exact World.ownsRow.kept (show (w1.drewN q).ownsRow _ _ _ _ _ _ from hst.own) hgw (Or.inr fun e => hne (by injection e))
  · refine World.ownsRow.kept (show (w1.drewN q).ownsRow _ _ _ _ _ _ from hst.row j hj) hgw ?_
    rw [hl] at hj
    exact Or.inr (nub j hj)
  · exact (below_drewN hst.below q).setCell h.ge _
theorem FoUp.fmd {L : Int} {C : List (List Int)} {g : Nat} {s : Value} {w wr : World} {U : Nat → Value} (h : FoUp L C g s w wr U) : FmD w.heap.size wr.heap.size wr (.agg #[.int .i64 L, s]) ⟨L, C⟩ := by
  refine ⟨s, rfl, ?_⟩
  show LD _ _ wr s C
  by_cases h0 : C.length = 0
  · have hC : C = [] := List.eq_nil_of_length_eq_zero h0
    rcases h.out.own.2 with ⟨e, _⟩ | ⟨g2, cap, cur, e, _⟩
    · rw [e, hC]; exact LD.nil _ (Nat.le_refl _) _ _
    · rw [e, h0, hC]; exact LD.nil _ (Nat.le_refl _) _ _
  · exact h.out.ld (by omega)
theorem FoUp.slice {L : Int} {C : List (List Int)} {g : Nat} {s : Value} {w wr : World} {U : Nat → Value} (h : FoUp L C g s w wr U) : ∃ ao cap, s = .slice ao C.length cap := by
  rcases h.out.own.2 with ⟨e, h0⟩ | ⟨g2, cap, cur, e, _⟩
  · exact ⟨none, 0, by rw [e, h0]⟩
  · exact ⟨_, _, e⟩
/-- The field stands while the row of clauses grows. -/
theorem FoUp.kept {L : Int} {C : List (List Int)} {g : Nat} {s : Value} {w wr w0 w1 : World} {U : Nat → Value} (h : FoUp L C g s w wr U) (h0 : Below wr.heap.size wr w0) (hgr : w0.grownBy w1 s.ownBlock) :
    w1.cell? ⟨g, 1, none⟩ = some s ∧ w1.frozen? ⟨g, 1, none⟩ = false := by
  have hk := h.keep h0
  have hb : w1.heap[g]? = some (.cells #[.int .i64 L, s] 29 (0, 0)) := by rw [hgr.block g hk.lt (fun e => h.ne e.symm)]; exact hk.box
  exact ⟨by rw [Lib.cell_of_heap hb]; rfl, Lib.frozen_of_heap hb 1⟩
/-- The form as a result: what was written behind it lies ahead of its lists. -/
theorem FoUp.res {L : Int} {C : List (List Int)} {g lo hi B : Nat} {s : Value} {w wr X : World} {U : Nat → Value} (h : FoUp L C g s w wr U) (ht : Turned lo hi wr X) (hs : hi ≤ w.heap.size) (hB : B ≤ w.heap.size) :
    FmD B X.heap.size X (.agg #[.int .i64 L, s]) ⟨L, C⟩ := by
  obtain ⟨s', e, hl⟩ := h.fmd
  exact ⟨s', e, LD.wide (hl.kept' ht (Or.inr hs)) hB ht.size (Nat.le_refl _)⟩
theorem saysFB_no {w X : World} (hb : Below w.heap.size w X) : SaysFB ⟨0, []⟩ false w (.returned (.tuple #[.agg #[.int .i64 0, .slice none 0 0], .bool false])) X := ⟨_, rfl, ⟨_, rfl, LD.nil _ (Nat.le_refl _) _ _⟩, hb⟩
end Go.Proofs.Ytnakpfbeeekmiaa
/- Where lists of integers lie. -/
namespace Go.Proofs.Ytnakpfbeeekmiaa
open Go.RowKit Go.ChangeShapes Go.WideShapes

/-- Where a list of numbers lies, also an empty one, but nil. -/
def LiesI (w : World) (ad : Addr) (Z : List Int) : Prop := ∀ (o : Obj) j u, (Z.map (Value.int .i64))[j]? = some u → (w.alloc o).cell? (ad.add j) = some u
theorem IL.lies {w : World} {v : Value} {Z : List Int} (h : IL w v Z) : (Z = [] ∧ ∃ cap, v = .slice none 0 cap) ∨ ∃ ad cap, v = .slice (some ad) Z.length cap ∧ LiesI w ad Z := by
  rcases h with ⟨rfl, ao, cap, rfl⟩ | ⟨b, off, cap, rfl, hpos, hbl, hcell⟩
  · cases ao with
    | none => exact Or.inl ⟨rfl, cap, rfl⟩
    | some ad => exact Or.inr ⟨ad, cap, rfl, fun o j u hu => by simp at hu⟩
  · refine Or.inr ⟨_, _, rfl, fun o j u hu => ?_⟩
    have hj : j < Z.length := by
      have := (List.getElem?_eq_some_iff.1 hu).1
      simpa using this
    rw [Go.WideShapes.add_plain, (below_alloc w o).cell (p := ⟨b, off + j, none⟩) hbl, hcell j hj]
    rw [← hu]
    simp [List.getD, hj]
theorem map_oneI (Z : List Int) : ∀ u ∈ Z.map (Value.int .i64), u.oneCell' = true := by
  intro u hu
  obtain ⟨x, -, rfl⟩ := List.mem_map.1 hu
  rfl
end Go.Proofs.Ytnakpfbeeekmiaa
/- The form of at most some letters: the model's recursion. -/
namespace Go.Proofs.Ytnakpfbeeekmiaa
open Go.RowKit Go.ChangeShapes Go.WideShapes

theorem Try.infoLS : (Try.prog.info? 25).map (fun i => (i.zero, i.size, i.bytes)) = some (some (.slice none 0 0), 1, 24) := by kernel_rfl
/-- The row is the old one, or a new one. -/
def OwnOr (s s' : Value) (w : World) : Prop := s'.ownBlock = s.ownBlock ∨ ∃ g, s'.ownBlock = some g ∧ w.heap.size ≤ g
theorem OwnOr.same (s : Value) (w : World) : OwnOr s s w := Or.inl rfl
theorem OwnOr.then {s s1 s2 : Value} {w w1 : World} (h : OwnOr s s1 w) (k : OwnOr s1 s2 w1) (hw : w.heap.size ≤ w1.heap.size) : OwnOr s s2 w := by
  rcases k with e | ⟨g, e, h2⟩
  · rcases h with e2 | ⟨g, e2, h2⟩
    · exact Or.inl (e.trans e2)
    · exact Or.inr ⟨g, e.trans e2, h2⟩
  · exact Or.inr ⟨g, e, Nat.le_trans hw h2⟩
theorem grown_or {s s1 : Value} {w w1 w2 : World} (h : w.grownBy w1 s.ownBlock) (k : w1.grownBy w2 s1.ownBlock) (o : OwnOr s s1 w) : w.grownBy w2 s.ownBlock :=
  ⟨k.os.trans h.os, k.tape.trans h.tape, k.output.trans h.output, Nat.le_trans h.size k.size, fun i hi hne => (k.block i (Nat.lt_of_lt_of_le hi h.size) (by
    rcases o with e | ⟨g, e, hg⟩
    · rw [e]; exact hne
    · rw [e]; intro q; injection q with q; omega)).trans (h.block i hi hne)⟩
theorem grown_below {w w' : World} (b : Below w.heap.size w w') (row : Option Nat) : w.grownBy w' row := ⟨b.os, b.tape, b.output, b.size, fun i hi _ => b.block i hi⟩
/-- What the recursion puts together. -/
def chL (L d c : Nat) (now : List Int) (Out : List (List Int)) : List (List Int) := Out ++ ((cmb L d c).map (fun T => now ++ T)).take (49 - Out.length)
theorem chL_end {L d : Nat} {now : List Int} {Out : List (List Int)} (h : Out.length ≤ 48) : chL L d 0 now Out = Out ++ [now] := by
  unfold chL
  rw [cmb_zero]
  obtain ⟨q, hq⟩ : ∃ q, 49 - Out.length = q + 1 := ⟨48 - Out.length, by omega⟩
  rw [hq]; simp
theorem chL_none {L c : Nat} {now : List Int} {Out : List (List Int)} : chL L 0 (c + 1) now Out = Out := by
  unfold chL; rw [cmb_none]; simp
theorem chL_full {L d c : Nat} {now : List Int} {Out : List (List Int)} (h : Out.length = 49) : chL L d c now Out = Out := by
  unfold chL; rw [h]; simp
theorem chL_len {L d c : Nat} {now : List Int} {Out : List (List Int)} (h : Out.length ≤ 49) : (chL L d c now Out).length ≤ 49 := by
  unfold chL; rw [List.length_append, List.length_take]; omega
theorem chL_step (L d c : Nat) (now : List Int) (Out : List (List Int)) : chL L (d + 1) (c + 1) now Out = chL L d (c + 1) now (chL L d c (now ++ [-((L - d : Nat) : Int)]) Out) := by
  unfold chL
  rw [cmb_step, List.map_append, List.map_map, List.take_append]
  have e : List.map ((fun T => now ++ T) ∘ fun T => (-((L - d : Nat) : Int)) :: T) (cmb L d c) = List.map (fun T => (now ++ [-((L - d : Nat) : Int)]) ++ T) (cmb L d c) :=
    List.map_congr_left fun T _ => by simp
  rw [e, ← List.append_assoc]
  congr 2
  rw [List.length_append, List.length_take]
  omega
def ChSays (lo : Nat) (G : List (List Int)) (s : Value) (w0 w : World) (e : Ending) (w' : World) : Prop :=
  ∃ s' U', e = .returned s' ∧ OutUp lo G s' w0 w' U' ∧ w.grownBy w' s.ownBlock ∧ OwnOr s s' w
theorem ch_put {lo g cap : Nat} {Out : List (List Int)} {Z : List Int} {s d : Value} {w0 w w1 w9 : World} {U : Nat → Value} {o : Obj} (hO : OutUp lo Out s w0 w U) (hlo : w0.heap.size ≤ lo) (hl : lo ≤ w.heap.size)
    (hd : Grows (Value.int .i64) 2 w.heap.size d Z w1) (hb : Below w.heap.size w w1)
    (hown : w9.ownsRow lo 25 1 (.slice (some ⟨g, 0, none⟩) (Out.length + 1) cap) (Out.length + 1) ((List.range Out.length).map U ++ [d])) (hgrow : (w1.alloc o).grownBy w9 s.ownBlock) (hat : s.ownBlock = some g ∨ g = (w1.alloc o).heap.size) :
    ChSays lo (Out ++ [Z]) s w0 w (.returned (.slice (some ⟨g, 0, none⟩) (Out.length + 1) cap)) w9 := by
  have hb2 : Below w.heap.size w (w1.alloc o) := hb.alloc hb.size o
  have hfar : ∀ b, d.ownBlock = some b → w.heap.size ≤ b := fun b e => (World.ownsRow.lt hd b e).1
  have hst := (hO.keep hb2).step hlo ((hd.below (below_alloc w1 o) (Nat.le_refl _)).lower hl)
    (fun b e => ⟨fun e2 => by have h1 := hfar b e; have h2 := (World.ownsRow.lt hO.own b e2).2; omega, fun j hj e2 => by have h1 := hfar b e; have h2 := (World.ownsRow.lt (hO.row j hj) b e2).2; omega⟩) hown hgrow hat
  refine ⟨_, _, rfl, hst, grown_or (grown_below hb2 _) hgrow (OwnOr.same _ _), ?_⟩
  rcases hat with e | e
  · exact Or.inl e.symm
  · exact Or.inr ⟨g, rfl, by rw [e]; exact hb2.size⟩
theorem OutUp.slice {lo : Nat} {Out : List (List Int)} {s : Value} {w wr : World} {U : Nat → Value} (h : OutUp lo Out s w wr U) : ∃ ao cap, s = .slice ao Out.length cap := by
  rcases h.own.2 with ⟨e, h0⟩ | ⟨g2, cap, cur, e, _⟩
  · exact ⟨none, 0, by rw [e, h0]⟩
  · exact ⟨_, _, e⟩
theorem lies_grows {B : Nat} {w : World} {ad : Addr} {cap : Nat} {P : List Int} (h : Grows (Value.int .i64) 2 B (.slice (some ad) P.length cap) P w) : LiesI w ad P := by
  rcases IL.lies (SI.vl (Grows.si h)) with ⟨_, c, e⟩ | ⟨ad', c, e, hl⟩
  · cases e
  · injection e with e _ _
    injection e with e
    subst e
    exact hl
set_option maxRecDepth 100000 in
set_option maxHeartbeats 4000000 in
theorem choose_end (L lo : Nat) (x : Int) (now : List Int) (na : Addr) (nc : Nat) (Out : List (List Int)) (s : Value) (w0 w : World) (U : Nat → Value) (hO : OutUp lo Out s w0 w U) (hlo : w0.heap.size ≤ lo) (hl : lo ≤ w.heap.size)
    (ho : Out.length ≤ 48) (hN : Grows (Value.int .i64) 2 lo (.slice (some na) now.length nc) now w) (hn : now.length ≤ 16) :
    Calls Try.prog 79 #[.int .i64 (L : Int), .int .i64 x, .int .i64 0, .slice (some na) now.length nc, s] w (ChSays lo (Out ++ [now]) s w0 w) := by
  obtain ⟨i0, hi, hz0, hz1, hz2⟩ := info_parts Try.infoI
  obtain ⟨j0, hj, hy0, hy1, hy2⟩ := info_parts Try.infoLS
  have HO := Lib.hid hO
  have HL := Lib.hid (lies_grows hN)
  have HOW : Hid (∀ W, Below w.heap.size w W → W.ownsRow lo 25 1 s Out.length ((List.range Out.length).map U)) := Lib.hid fun W b => (hO.keep b).own
  clear hO hN
  go_enter Try.func79, Try.ntmps79
  go_wp2_with (first
    | (at_builtin; refine wpList_append_own _ rfl _ _ 25 rfl w.heap.size 2 i0 (.int .i64 0) 1 8 Try.underlying25 hi hz0 hz1 hz2 rfl (by decide) _ _ _ rfl (Grows.empty (Value.int .i64) _ _ w (Nat.le_refl _)) na now.length nc (now.map (Value.int .i64)) rfl (by simp) (HL.out _) (map_oneI now) (by simp; unfold maxLen; omega) (by simp; omega) (by simp) ?_; intro v1 w1 hown hgrow _; have HB1 := Lib.hid ((below_alloc w _).grown hgrow (by simp) (fun k hk => Nat.le_of_eq (Option.some.inj hk))); have HN1 : Hid (Grows (Value.int .i64) 2 w.heap.size v1 now w1) := Lib.hid (by have h := hown; show World.ownsRow _ _ _ _ _ _ _; simpa using h); clear hown hgrow; obtain ⟨va, vc, rfl⟩ := SI.len (d := (0 : Int)) HN1.out.si; have hz1 : w.heap.size ≤ w1.heap.size := HB1.out.size)
    | (at_builtin; (refine wpList_append_lies _ rfl _ _ 22 rfl lo 25 j0 (.slice none 0 0) 1 24 Try.underlying22 hj hy0 hy1 hy2 rfl (by decide) _ _ _ rfl (HOW.out _ (HB1.out.alloc HB1.out.size _)) ⟨w1.heap.size, 0, none⟩ 1 1 [.slice va now.length vc] rfl rfl one_new (by intro u hu; simp at hu; subst hu; rfl) (by omega) (by unfold maxLen; omega) (by omega) (by simp; omega) (w1.heap.size + 1) (by simp) ?_); intro g3 cap3 w9 hown hgrow hat hgl; (have HP := Lib.hid (ch_put HO.out hlo hl HN1.out HB1.out hown hgrow (hat.imp id (fun e => by rw [e]; simp)))); clear hown hgrow hat))
  go_ret
  exact HP.out
set_option maxRecDepth 100000 in
set_option maxHeartbeats 8000000 in
theorem choose_step (L lo c : Nat) (hL : L ≤ 10) (hc : c ≤ 10) (w0 : World)
    (ih : ∀ (M e : Nat) (now : List Int) (na : Addr) (nc : Nat) (Out : List (List Int)) (s : Value) (w : World) (U : Nat → Value), M + e = L + 1 → now.length + c ≤ 12 → OutUp lo Out s w0 w U → lo ≤ w.heap.size → Out.length ≤ 48 →
      Grows (Value.int .i64) 2 lo (.slice (some na) now.length nc) now w → (∀ b, (Value.slice (some na) now.length nc).ownBlock = some b → s.ownBlock ≠ some b) →
      Calls Try.prog 79 #[.int .i64 (L : Int), .int .i64 (M : Int), .int .i64 (c : Int), .slice (some na) now.length nc, s] w (ChSays lo (chL L e c now Out) s w0 w))
    (M e : Nat) (now : List Int) (na : Addr) (nc : Nat) (Out : List (List Int)) (s : Value) (w : World) (U : Nat → Value) (hM : M + e = L + 1) (hn : now.length + (c + 1) ≤ 12) (hO : OutUp lo Out s w0 w U) (hl : lo ≤ w.heap.size) (ho : Out.length ≤ 48)
    (hN : Grows (Value.int .i64) 2 lo (.slice (some na) now.length nc) now w) (hns : ∀ b, (Value.slice (some na) now.length nc).ownBlock = some b → s.ownBlock ≠ some b) :
    Calls Try.prog 79 #[.int .i64 (L : Int), .int .i64 (M : Int), .int .i64 ((c + 1 : Nat) : Int), .slice (some na) now.length nc, s] w (ChSays lo (chL L e (c + 1) now Out) s w0 w) := by
  obtain ⟨i0, hi, hz0, hz1, hz2⟩ := info_parts Try.infoI
  have IH := Lib.hid ih
  have HO := Lib.hid hO
  have HN := Lib.hid hN
  have HNS := Lib.hid hns
  obtain ⟨G, hG⟩ : ∃ G, chL L e (c + 1) now Out = G := ⟨_, rfl⟩
  have HG := Lib.hid hG
  rw [hG]
  obtain ⟨s0, hs0⟩ : ∃ s0, s0 = s := ⟨_, rfl⟩
  have hce : (((c + 1 : Nat) : Int) == 0) = false := by simp; omega
  have hce2 : ¬ ((c + 1 : Nat) : Int) = 0 := by omega
  have HS0 := Lib.hid hs0
  clear ih hO hN hns hG hs0
  go_enter Try.func79, Try.ntmps79
  go_wp2_with fail
  go_loopg [4, 11] e (fun gk s i wr => ∃ (M e : Nat) (X : List (List Int)) (U : Nat → Value), M + e = L + 1 ∧ gk = e ∧ i = .int .i64 M ∧ OutUp lo X s w0 wr U ∧ X.length ≤ 49 ∧ chL L e (c + 1) now X = G ∧ w.grownBy wr s0.ownBlock ∧ OwnOr s0 s w)
  case atStart => exact ⟨M, e, Out, U, hM, rfl, rfl, HO.out, by omega, HG.out, grown_below (Below.refl _ _) _, HS0.out ▸ OwnOr.same _ _⟩
  case round =>
    clear HO HG hM ho
    obtain ⟨M, e, X, U, hM, hge, rfl, hO, hX, hG, hgr, hor⟩ := hrel
    obtain ⟨sa, sc, rfl⟩ := hO.slice
    have HO := Lib.hid hO
    have HG := Lib.hid hG
    have HGR := Lib.hid hgr
    have HOR := Lib.hid hor
    have hlr : lo ≤ wr.heap.size := Nat.le_trans hl hgr.size
    have hwr : w.heap.size ≤ wr.heap.size := hgr.size
    clear hO hG hgr hor
    by_cases hlt : M ≤ L
    · by_cases h48 : X.length ≤ 48
      · obtain ⟨d, rfl⟩ : ∃ d, e = d + 1 := ⟨e - 1, by omega⟩
        obtain ⟨Q, hQ⟩ : ∃ Q, Q = now ++ [-(M : Int)] := ⟨_, rfl⟩
        have HQ := Lib.hid hQ
        have hQl : Q.length = now.length + 1 := by rw [hQ]; simp
        have HG2 : Hid (chL L d (c + 1) now (chL L d c Q X) = G) := Lib.hid (by rw [hQ, ← HG.out, chL_step, show L - d = M by omega])
        have HQL := Lib.hid hQl
        have hle : (M : Int) ≤ (L : Int) := by omega
        have hle8 : (X.length : Int) ≤ 48 := by omega
        have wn : IntKind.i64.wrap (-(M : Int)) = -(M : Int) := IntWalk.i64_in _ (by omega)
        have wm : IntKind.i64.wrap ((M : Int) + 1) = ((M + 1 : Nat) : Int) := by rw [IntKind.wrap_i64]; omega
        have wc : IntKind.i64.wrap (((c + 1 : Nat) : Int) - 1) = (c : Int) := by rw [IntKind.wrap_i64]; omega
        have HNr : Hid (Grows (Value.int .i64) 2 lo (.slice (some na) now.length nc) now wr) := Lib.hid (World.ownsRow.kept HN.out HGR.out (by
          cases q : (Value.slice (some na) now.length nc).ownBlock with
          | none => exact Or.inl rfl
          | some b => exact Or.inr (fun q2 => by rw [HS0.out] at q2; exact HNS.out b q q2.symm)))
        have HL := Lib.hid (lies_grows HNr.out)
        have hnl : now.length ≤ 12 := by omega
        clear hQ hQl
        go_wp2_with (first | (at_builtin; refine wpList_append_own _ rfl _ _ 25 rfl wr.heap.size 2 i0 (.int .i64 0) 1 8 Try.underlying25 hi hz0 hz1 hz2 rfl (by decide) _ _ _ rfl (Grows.empty (Value.int .i64) _ _ wr (Nat.le_refl _)) na now.length nc (now.map (Value.int .i64)) rfl (by simp) (HL.out _) (map_oneI now) (by simp; unfold maxLen; omega) (by simp; omega) (by simp) ?_; intro v1 w1 hown hgrow _; have HB1 := Lib.hid ((below_alloc wr _).grown hgrow (by simp) (fun k hk => Nat.le_of_eq (Option.some.inj hk))); have HN1 : Hid (Grows (Value.int .i64) 2 wr.heap.size v1 now w1) := Lib.hid (by have h := hown; show World.ownsRow _ _ _ _ _ _ _; simpa using h); clear hown hgrow) | (at_builtin; refine wpList_append_own _ rfl _ _ 25 rfl wr.heap.size 2 i0 (.int .i64 0) 1 8 Try.underlying25 hi hz0 hz1 hz2 rfl (by decide) _ _ _ rfl (Grows.alloc HN1.out _) ⟨w1.heap.size, 0, none⟩ 1 1 [.int .i64 (-(M : Int))] rfl rfl one_new (by intro u hu; simp at hu; subst hu; rfl) (by unfold maxLen; omega) (by omega) (by have := HB1.out.size; simp; omega) ?_; intro v2 w2 hown hgrow _; have HB2 := Lib.hid ((HB1.out.alloc HB1.out.size _).grown hgrow (by have := HB1.out.size; simp; omega) (fun g hg => HN1.out.block g hg)); have HN2 : Hid (Grows (Value.int .i64) 2 wr.heap.size v2 Q w2) := Lib.hid (HQ.out.symm ▸ Grows.more (news := [-(M : Int)]) rfl hown); obtain ⟨va, vc, rfl⟩ := SI.len (d := (0 : Int)) HN2.out.si; clear hown hgrow))
        have hV : ∃ g, va = some ⟨g, 0, none⟩ := by
          rcases HN2.out.2 with ⟨_, h0⟩ | ⟨g2, cap, cur, e, _⟩
          · exfalso; have := HQL.out; omega
          · injection e with e1 _ _; exact ⟨g2, e1⟩
        obtain ⟨g2, rfl⟩ := hV
        have hz2 : wr.heap.size ≤ w2.heap.size := HB2.out.size
        go_at_call 79; refine (IH.out (M + 1) d Q _ vc X _ w2 U (by omega) (by have := HQL.out; omega) (HO.out.keep HB2.out) (by omega) h48 (HN2.out.lower hlr) (fun b e e2 => by have h1 := (World.ownsRow.lt HN2.out b e).1; have h2 := (World.ownsRow.lt HO.out.own b e2).2; omega)).mono ?_; rintro e w3 ⟨s3, U3, rfl, hO3, hg3, hor3⟩
        have HO3 := Lib.hid hO3
        have HG3 := Lib.hid (grown_or HGR.out (grown_or (grown_below HB2.out _) hg3 (OwnOr.same _ _)) (HOR.out))
        have HR3 := Lib.hid (HOR.out.then (hor3.then (OwnOr.same _ w3) hg3.size |>.imp id (fun ⟨g, a, b⟩ => ⟨g, a, Nat.le_trans hz2 b⟩) : OwnOr _ s3 wr) hwr)
        have HX3 := Lib.hid (chL_len (L := L) (d := d) (c := c) (now := Q) (Out := X) (by omega))
        clear hO3 hg3 hor3
        generalize chL L d c Q X = Y at HO3 HX3 HG2
        go_wp2_with fail
        go_roundg d
        case measure => omega
        case rel => exact ⟨M + 1, d, Y, U3, by omega, rfl, rfl, HO3.out, HX3.out, HG2.out, HG3.out, HR3.out⟩
      · have hle : (M : Int) ≤ (L : Int) := by omega
        have hle8 : ¬ (X.length : Int) ≤ 48 := by omega
        have HE : Hid (X = G) := Lib.hid (by rw [← HG.out, chL_full (by omega)])
        go_wp2_with fail
        go_ret
        exact ⟨_, U, rfl, HE.out ▸ HO.out, HS0.out ▸ HGR.out, HS0.out ▸ HOR.out⟩
    · obtain rfl : e = 0 := by omega
      have hle : ¬ (M : Int) ≤ (L : Int) := by omega
      have HE : Hid (X = G) := Lib.hid (by rw [← HG.out, chL_none])
      go_wp2_with fail
      go_ret
      exact ⟨_, U, rfl, HE.out ▸ HO.out, HS0.out ▸ HGR.out, HS0.out ▸ HOR.out⟩
theorem choose_any (L lo : Nat) (hL : L ≤ 10) (w0 : World) (hlo : w0.heap.size ≤ lo) : ∀ (c : Nat), c ≤ 11 → ∀ (M e : Nat) (now : List Int) (na : Addr) (nc : Nat) (Out : List (List Int)) (s : Value) (w : World) (U : Nat → Value), M + e = L + 1 → now.length + c ≤ 12 → OutUp lo Out s w0 w U → lo ≤ w.heap.size → Out.length ≤ 48 →
      Grows (Value.int .i64) 2 lo (.slice (some na) now.length nc) now w → (∀ b, (Value.slice (some na) now.length nc).ownBlock = some b → s.ownBlock ≠ some b) →
      Calls Try.prog 79 #[.int .i64 (L : Int), .int .i64 (M : Int), .int .i64 (c : Int), .slice (some na) now.length nc, s] w (ChSays lo (chL L e c now Out) s w0 w)
  | 0, _, M, e, now, na, nc, Out, s, w, U, _, hn, hO, hl, ho, hN, _ => by rw [chL_end ho]; exact choose_end L lo M now na nc Out s w0 w U hO hlo hl ho hN (by omega)
  | c + 1, hc, M, e, now, na, nc, Out, s, w, U, hM, hn, hO, hl, ho, hN, hns => choose_step L lo c hL (by omega) w0 (choose_any L lo hL w0 hlo c (by omega)) M e now na nc Out s w U hM hn hO hl ho hN hns
end Go.Proofs.Ytnakpfbeeekmiaa
/- What must hold then: the model, for all arguments. -/
namespace Go.Proofs.Ytnakpfbeeekmiaa
open Go.RowKit Go.ChangeShapes Go.WideShapes
set_option maxRecDepth 100000

theorem step_append_zero {P : Program} {w : World} {ops : Array Oper} {o : Oper} {a : Act} {K : Act → World → Prop} {Q : Exit → Act → World → Prop} {E : Prop} (hgd : o.guard = none) (s x : Operand) (t : TypeId)
    (ho : o.op = .call { callee := .builtin .append, args := #[s, x], argTypes := #[t, t] })
    (base : Nat) (e : TypeId) (i : TypeInfo) (z : Value) (size bytes : Nat) (ht : P.underlying t = some (.slice e)) (hi : P.info? e = some i) (hz : i.zero = some z)
    (hsize : i.size = size) (hby : i.bytes = bytes) (hzs : z.cells.size = size) (hsz : 0 < size)
    (v : Value) (n : Nat) (xs : List Value) (hs : a.eval s = v) (hown : w.ownsRow base e size v n xs) (ad : Addr) (c : Nat) (hx : a.eval x = .slice (some ad) 0 c) (h63 : n ≤ maxLen) (hbytes : n * bytes ≤ 140737488355328) (hbase : base ≤ w.heap.size)
    (h : ∀ v' w', w'.ownsRow base e size v' n xs → w.grownBy w' v.ownBlock → K (a.put o.dst v') w') :
    if Region.wanted o (yielded ops a.tmps) = true then Oper.wp P o a w K Q else E := by
  have hw : Region.wanted o (yielded ops a.tmps) = true := by simp [Region.wanted, hgd]
  rw [if_pos hw]
  exact wp_append_own w s x t ho base e i z size bytes ht hi hz hsize hby hzs hsz v n xs hs hown ad 0 c [] hx (by simp) (by intro j u hu; simp at hu) (by simp) (by simpa using h63) (by simpa using hbytes) hbase fun v' w' h2 h3 _ => h v' w' (by simpa using h2) h3
theorem step_append_nil {P : Program} {w : World} {ops : Array Oper} {o : Oper} {a : Act} {K : Act → World → Prop} {Q : Exit → Act → World → Prop} {E : Prop} (hgd : o.guard = none) (s x : Operand) (t : TypeId)
    (ho : o.op = .call { callee := .builtin .append, args := #[s, x], argTypes := #[t, t] })
    (base : Nat) (e : TypeId) (i : TypeInfo) (size : Nat) (ht : P.underlying t = some (.slice e)) (hi : P.info? e = some i)
    (v : Value) (n : Nat) (xs : List Value) (hs : a.eval s = v) (hown : w.ownsRow base e size v n xs) (hx : a.eval x = .slice none 0 0)
    (h : K (a.put o.dst v) w) :
    if Region.wanted o (yielded ops a.tmps) = true then Oper.wp P o a w K Q else E := by
  have hw : Region.wanted o (yielded ops a.tmps) = true := by simp [Region.wanted, hgd]
  rw [if_pos hw]
  have hrun := run_append_owned_none (P := P) (w := w) base t o.type e i size ht hi v n xs hown
  unfold Oper.wp
  simp [execOp, ho, resolve, invoke, builtin, hs, hx, hrun, Result.andThen]
  exact h
def SaysJBB (Z : List Int) (b c : Bool) (w : World) (e : Ending) (w' : World) : Prop := ∃ v, e = .returned (.tuple #[v, .bool b, .bool c]) ∧ II w.heap.size w'.heap.size w' v Z ∧ Below w.heap.size w w'
theorem jbb_no {w X : World} (hb : Below w.heap.size w X) : SaysJBB [] false false w (.returned (.tuple #[.slice none 0 0, .bool false, .bool false])) X := ⟨_, rfl, SI.nil _ (Nat.le_refl _) _ _, hb⟩
theorem un_no {F : Fm} {G : List Int} (h : unB F G = false) : unF F G = [] ∧ unW F G = false := by unfold unF unW; rw [h]; exact ⟨rfl, rfl⟩
theorem box3_new (w : World) (a b c : Value) (T : TypeId) : (w.alloc (.cells #[a, b, c] T)).cell? ⟨w.heap.size, 0, none⟩ = some a ∧ (w.alloc (.cells #[a, b, c] T)).cell? ⟨w.heap.size, 1, none⟩ = some b ∧ (w.alloc (.cells #[a, b, c] T)).cell? ⟨w.heap.size, 2, none⟩ = some c := ⟨by go_simp, by go_simp, by go_simp⟩
theorem jbb_wide {B B' n : Nat} {g cap m : Nat} {Z : List Int} {w : World} (h : Grows (Value.int .i64) 2 B (.slice (some ⟨g, 0, none⟩) n cap) Z w) (e : n = m) (hB : B' ≤ B) : II B' w.heap.size w (.slice (some ⟨g, 0, none⟩) m cap) Z := by
  subst e
  exact SI.wide h.si hB (Nat.le_refl _) (Nat.le_refl _)
set_option maxHeartbeats 8000000 in
theorem specUnitsOf_any (v : Value) (F : Fm) (u : Value) (G : List Int) (w : World) (hv : FmV w v F) (hu : IL w u G) (o : OKFm F) (oG : OKI G) :
    Calls Try.prog 14 #[v, u] w (SaysJBB (unF F G) (unW F G) (unB F G) w) := by
  obtain ⟨i0, hi, hz0, hz1, hz2⟩ := info_parts Try.infoI
  obtain ⟨s1, rfl, hl⟩ := hv
  have HL : Hid (∀ W, Below w.heap.size w W → LV W s1 F.cs) := Lib.hid fun W b => hl.below b (Nat.le_refl _)
  have HU : Hid (∀ W, Below w.heap.size w W → IL W u G) := Lib.hid fun W b => hu.below b (Nat.le_refl _)
  have HB1 : Hid (∀ A, Below w.heap.size w (w.alloc A)) := Lib.hid fun A => below_alloc w A
  have HBX := Lib.hid (Box2.mk' w (.int .i64 F.letters) s1 29)
  have HAT : Hid (FmAt (w.alloc (.cells #[.int .i64 F.letters, s1] 29)) w.heap.size F) := Lib.hid ⟨s1, HBX.out, hl.below (HB1.out _) (Nat.le_refl _)⟩
  have nG := oG.size
  obtain ⟨fa, fc, rfl⟩ := hl.long
  obtain ⟨ga, gc, rfl⟩ := hu.long
  clear hl hu
  cases h1 : formB F with
  | false =>
    have hb : unB F G = false := by unfold unB; rw [h1]; rfl
    rw [hb, (un_no hb).1, (un_no hb).2]
    have H1 := Lib.hid h1
    clear h1 hb
    go_enter Try.func14, Try.ntmps14
    go_wp2_with fail
    go_at_call 47; refine (l05Is_any w.heap.size F _ HAT.out o).mono ?_; rintro e w4 ⟨rfl, b4⟩
    rw [H1.out]
    have B4 := Lib.hid ((HB1.out _).trans (b4.mono (HB1.out _).size))
    clear b4
    go_wp2_with fail
    refine bodyPost_ret (v := .tuple #[.slice none 0 0, .bool false, .bool false]) (by simp [results, Try.results14, go_sem]) rfl ?_
    exact jbb_no B4.out
  | true =>
    have HOK := Lib.hid (formB_ok h1)
    have n1 := HOK.out.n1
    have n2 := HOK.out.n2
    have H1 := Lib.hid h1
    cases h2 : litsB F.letters G with
    | false =>
      have hb : unB F G = false := by unfold unB; rw [h1, h2]; rfl
      rw [hb, (un_no hb).1, (un_no hb).2]
      have H2 := Lib.hid h2
      clear h1 h2 hb
      go_enter Try.func14, Try.ntmps14
      go_wp2_with fail
      go_at_call 47; refine (l05Is_any w.heap.size F _ HAT.out o).mono ?_; rintro e w4 ⟨rfl, b4⟩
      rw [H1.out]
      have B4 := Lib.hid ((HB1.out _).trans (b4.mono (HB1.out _).size))
      have X4 := Lib.hid (HBX.out.keep b4 HBX.out.lt)
      clear b4
      obtain ⟨x0, x1⟩ := X4.out
      go_wp2_with fail
      go_at_call 48; refine (l05Lits_any F.letters _ G _ (HU.out _ B4.out) nG n1 n2).mono ?_; rintro e w5 ⟨rfl, b5⟩
      rw [H2.out]
      have B5 := Lib.hid (B4.out.trans (b5.mono B4.out.size))
      clear b5
      go_wp2_with fail
      refine bodyPost_ret (v := .tuple #[.slice none 0 0, .bool false, .bool false]) (by simp [results, Try.results14, go_sem]) rfl ?_
      exact jbb_no B5.out
    | true =>
      have hb : unB F G = true := by unfold unB; rw [h1, h2]; rfl
      obtain ⟨⟨K, Y, ws⟩, hR⟩ : ∃ R, R = unR F G := ⟨_, rfl⟩
      have HF : Hid (unF F G = K ∧ unW F G = decide (0 ≤ ws)) := Lib.hid (by unfold unF unW; rw [hb, ← hR]; exact ⟨rfl, rfl⟩)
      rw [hb, HF.out.1, HF.out.2]
      have H2 := Lib.hid h2
      have UA := Lib.hid fun (p : Value) (W : World) (hp : LV W p F.cs) (hb : Below w.heap.size w W) => l05Units_any F.letters p F.cs _ G W hp (HU.out W hb) n1 n2 HOK.out.cl (by have := HOK.out.few; omega) (litsB_ok h2)
      have HRR : Hid (uK F.cs 11 G (List.replicate G.length (-1)) = (K, Y, ws)) := Lib.hid hR.symm
      have hKl : K.length ≤ 1048576 := by have h := unF_len F G; rw [HF.out.1] at h; exact h
      clear h1 h2 hb hR
      go_enter Try.func14, Try.ntmps14
      go_wp2_with fail
      go_at_call 47; refine (l05Is_any w.heap.size F _ HAT.out o).mono ?_; rintro e w4 ⟨rfl, b4⟩
      rw [H1.out]
      have B4 := Lib.hid ((HB1.out _).trans (b4.mono (HB1.out _).size))
      have X4 := Lib.hid (HBX.out.keep b4 HBX.out.lt)
      clear b4
      obtain ⟨x0, x1⟩ := X4.out
      go_wp2_with fail
      go_at_call 48; refine (l05Lits_any F.letters _ G _ (HU.out _ B4.out) nG n1 n2).mono ?_; rintro e w5 ⟨rfl, b5⟩
      rw [H2.out]
      have B5 := Lib.hid (B4.out.trans (b5.mono B4.out.size))
      have X5 := Lib.hid (X4.out.keep b5 X4.out.lt)
      clear b5 x0 x1
      obtain ⟨x0, x1⟩ := X5.out
      go_wp2_with fail
      go_at_call 49; refine (UA.out _ _ (HL.out _ B5.out) B5.out).mono ?_; rintro e w6 ⟨kv, bv, rfl, hk, hy, b6⟩
      rw [HRR.out] at hk hy ⊢
      have B6 := Lib.hid (B5.out.trans (b6.mono B5.out.size))
      have HK6 := Lib.hid hk
      have hw6 : w.heap.size ≤ w6.heap.size := B6.out.size
      obtain ⟨ba, bc, rfl⟩ := SI.len (d := (0 : Int)) (Grows.si hy)
      obtain ⟨ka, kc, hkv⟩ := SI.len (d := (0 : Int)) (Grows.si hk)
      have HLI : Hid (∀ ad, kv = .slice (some ad) K.length kc → LiesI w6 ad K) := Lib.hid fun ad e => lies_grows (by rw [← e]; exact hk)
      obtain ⟨w7, hw7⟩ : ∃ w7, w7 = w6.alloc (.cells #[.slice ka K.length kc, .slice ba Y.length bc, .int .i64 ws] 63) := ⟨_, rfl⟩
      have B7 : Hid (Below w6.heap.size w6 w7) := Lib.hid (by rw [hw7]; exact below_alloc _ _)
      have HLW : Hid (∀ ad, kv = .slice (some ad) K.length kc → ∀ W, Below w7.heap.size w7 W → ∀ j u, (K.map (Value.int .i64))[j]? = some u → W.cell? (ad.add j) = some u) := Lib.hid fun ad e W hb j u hu => by
        have h := HLI.out ad e (.cells #[.slice ka K.length kc, .slice ba Y.length bc, .int .i64 ws] 63) j u hu
        rw [← hw7] at h
        rw [hb.cell (p := ad.add j) (World.block_lt_of_cell? _ _ h)]; exact h
      have HCE : Hid (w7.cell? ⟨w6.heap.size, 0, none⟩ = some (.slice ka K.length kc) ∧ w7.cell? ⟨w6.heap.size, 2, none⟩ = some (.int .i64 ws)) := Lib.hid (by rw [hw7]; exact ⟨(box3_new _ _ _ _ _).1, (box3_new _ _ _ _ _).2.2⟩)
      have hs7 : w6.heap.size < w7.heap.size := by rw [hw7]; simp
      have hw67 : w6.heap.size ≤ w7.heap.size := by omega
      have HW7 := Lib.hid hw7
      rw [hkv] at HLI HLW HK6 ⊢
      clear b6 hk hy x0 x1 hw7 hkv
      go_wp2_with fail
      rw [← HW7.out]
      obtain ⟨e0, e2⟩ := HCE.out
      have e0a : ∀ o, (w7.alloc o).cell? ⟨w6.heap.size, 0, none⟩ = some (.slice ka K.length kc) := fun o => keep_cell e0 (below_alloc w7 o) hs7
      have e2a : ∀ o, (w7.alloc o).cell? ⟨w6.heap.size, 2, none⟩ = some (.int .i64 ws) := fun o => keep_cell e2 (below_alloc w7 o) hs7
      have HEM : Hid (∀ o, (w7.alloc (.cells #[] 2)).ownsRow w7.heap.size 2 1 (.slice (some ⟨w7.heap.size, 0, none⟩) 0 0) 0 [] ∧ o = o) := Lib.hid fun (o : Nat) => ⟨Grows.empty (Value.int .i64) _ _ w7 (Nat.le_refl _), rfl⟩
      obtain ⟨t, ht⟩ : ∃ t, decide (0 ≤ ws) = t := ⟨_, rfl⟩
      have HT := Lib.hid ht
      rw [ht]
      have ht2 : decide (ws ≥ 0) = t := ht
      by_cases h0 : K.length = 0
      · have HK0 := Lib.hid (List.eq_nil_of_length_eq_zero h0)
        rw [h0] at e0 e0a HK6
        cases ka with
        | none =>
          have hkc : kc = 0 := by
            rcases HK6.out.2 with ⟨e, hz⟩ | ⟨g, cap, cur, e, -⟩
            · injection e
            · cases e
          subst hkc
          go_region_law (first
            | (refine step_append_nil (by rfl) _ _ _ (by rfl) w7.heap.size 2 i0 1 Try.underlying25 hi (.slice (some ⟨w7.heap.size, 0, none⟩) 0 0) 0 [] (by rfl) (by first | exact (HEM.out 0).1 | exact World.ownsRow.drew (HEM.out 0).1) (by rfl) ?_))
          all_goals
            go_wp2_with fail
            refine bodyPost_ret (v := .tuple #[.slice (some ⟨w7.heap.size, 0, none⟩) 0 0, .bool t, .bool true]) (by simp [results, Try.results14, go_sem]) rfl ?_
            rw [HK0.out]
            exact ⟨_, rfl, SI.nil _ (Nat.le_refl _) _ _, B6.out.trans ((B7.out.trans ((show Below w7.heap.size w7 _ from (by first | exact below_alloc w7 _ | exact (below_drewN (Below.refl w7.heap.size w7) _).alloc (Nat.le_refl _) _ | exact below_drewN (below_alloc w7 _) _ | exact (Below.refl w7.heap.size w7).drew.alloc (Nat.le_refl _) _ | exact (below_alloc w7 _).drew)).mono hw67)).mono hw6)⟩
        | some ad =>
          go_region_law (first
            | (refine step_append_zero (by rfl) _ _ _ (by rfl) w7.heap.size 2 i0 _ 1 8 Try.underlying25 hi hz0 hz1 hz2 rfl (by omega) (.slice (some ⟨w7.heap.size, 0, none⟩) 0 0) 0 [] (by rfl) (by first | exact (HEM.out 0).1 | exact World.ownsRow.drew (HEM.out 0).1) ad kc (by rfl) (by unfold maxLen; omega) (by omega) (by simp) ?_; intro v9 w9 hown hgrow; have HNX : Hid (Grows (Value.int .i64) 2 w7.heap.size v9 [] w9) := Lib.hid hown; have HB9 : Hid (Below w7.heap.size w7 w9) := Lib.hid (Below.grown (by first | exact below_alloc w7 _ | exact (below_drewN (Below.refl w7.heap.size w7) _).alloc (Nat.le_refl _) _ | exact below_drewN (below_alloc w7 _) _ | exact (Below.refl w7.heap.size w7).drew.alloc (Nat.le_refl _) _ | exact (below_alloc w7 _).drew) hgrow (by simp) (fun k hk => Nat.le_of_eq (Option.some.inj hk))); have e29 : w9.cell? ⟨w6.heap.size, 2, none⟩ = some (.int .i64 ws) := keep_cell e2 HB9.out hs7; clear hown hgrow))
          all_goals
            go_wp2_with fail
            refine bodyPost_ret (v := .tuple #[v9, .bool t, .bool true]) (by simp [results, Try.results14, go_sem]) rfl ?_
            rw [HK0.out]
            exact ⟨_, rfl, SI.wide HNX.out.si (by omega) (Nat.le_refl _) (Nat.le_refl _), B6.out.trans ((B7.out.trans (HB9.out.mono hw67)).mono hw6)⟩
      · have hpos : 0 < K.length := by omega
        have hka : ∃ ad, ka = some ad := by
          rcases HK6.out.2 with ⟨e, hz⟩ | ⟨g, cap, cur, e, -⟩
          · exact absurd hz h0
          · injection e with e1 _ _
            exact ⟨_, e1⟩
        obtain ⟨ad, rfl⟩ := hka
        have HL7 := Lib.hid (HLW.out ad rfl)
        go_region_law (first
          | (refine step_append_lies _ (by rfl) _ _ _ (by rfl) w7.heap.size 2 i0 _ 1 8 Try.underlying25 hi hz0 hz1 hz2 rfl (by omega) (.slice (some ⟨w7.heap.size, 0, none⟩) 0 0) 0 [] (by rfl) (by first | exact (HEM.out 0).1 | exact World.ownsRow.drew (HEM.out 0).1) ad K.length kc (K.map (Value.int .i64)) (by rfl) (by simp) (HL7.out _ (by first | exact below_alloc w7 _ | exact (below_drewN (Below.refl w7.heap.size w7) _).alloc (Nat.le_refl _) _ | exact below_drewN (below_alloc w7 _) _ | exact (Below.refl w7.heap.size w7).drew.alloc (Nat.le_refl _) _ | exact (below_alloc w7 _).drew)) (map_oneI K) hpos (by unfold maxLen; omega) (by omega) (by simp) (w7.heap.size + 1) (by simp) ?_; intro gg gcap w9 hown hgrow hat hlt9; have HNX : Hid (Grows (Value.int .i64) 2 w7.heap.size (.slice (some ⟨gg, 0, none⟩) (0 + K.length) gcap) K w9) := Lib.hid (by have h := hown; show World.ownsRow _ _ _ _ _ _ _; simpa using h); have HB9 : Hid (Below w7.heap.size w7 w9) := Lib.hid (Below.grown (by first | exact below_alloc w7 _ | exact (below_drewN (Below.refl w7.heap.size w7) _).alloc (Nat.le_refl _) _ | exact below_drewN (below_alloc w7 _) _ | exact (Below.refl w7.heap.size w7).drew.alloc (Nat.le_refl _) _ | exact (below_alloc w7 _).drew) hgrow (by simp) (fun k hk => Nat.le_of_eq (Option.some.inj hk))); have e29 : w9.cell? ⟨w6.heap.size, 2, none⟩ = some (.int .i64 ws) := keep_cell e2 HB9.out hs7; clear hown hgrow hat hlt9))
        all_goals
          go_wp2_with fail
          refine bodyPost_ret (v := .tuple #[.slice (some ⟨gg, 0, none⟩) K.length gcap, .bool t, .bool true]) (by simp [results, Try.results14, go_sem]) rfl ?_
          exact ⟨_, rfl, jbb_wide HNX.out (Nat.zero_add _) (by omega), B6.out.trans ((B7.out.trans (HB9.out.mono hw67)).mono hw6)⟩
end Go.Proofs.Ytnakpfbeeekmiaa
/- What must hold then: the program's state, a list that grows and a map beside a box. -/
namespace Go.Proofs.Ytnakpfbeeekmiaa
open Go.RowKit Go.ChangeShapes Go.WideShapes Go.Maps
set_option maxRecDepth 100000

set_option maxHeartbeats 1000000 in
theorem cloneG_any (v : Value) (Z : List Int) (w : World) (hv : IL w v Z) (hn : Z.length ≤ 1048576) :
    Calls Try.prog 76 #[v] w (GrownI Z w) := by
  obtain ⟨i0, hi, hz0, hz1, hz2⟩ := info_parts Try.infoI
  rcases hv.lies with ⟨rfl, cap, rfl⟩ | ⟨ad, cap, rfl, hl⟩
  · have hnil := fun (W : World) => Lib.run_eql_slice_nil (P := Try.prog) W 25 2 none 0 cap 0 0 Try.underlying25
    clear hv
    go_enter Try.func76, Try.ntmps76
    go_wp2_with fail
    refine bodyPost_ret (results_tmp rfl _ _ _) rfl ?_
    exact ⟨_, rfl, Grows.nil _ _ _ _, Below.refl _ _⟩
  · have HL := Lib.hid hl
    clear hv hl
    have hnil := fun (W : World) => Lib.run_eql_slice_nil (P := Try.prog) W 25 2 (some ad) Z.length cap 0 0 Try.underlying25
    go_enter Try.func76, Try.ntmps76
    go_wp2_with (at_builtin; refine wpList_append_own _ rfl _ _ 25 rfl w.heap.size 2 i0 (.int .i64 0) 1 8 Try.underlying25 hi hz0 hz1 hz2 rfl (by decide) _ _ _ rfl (Grows.empty (Value.int .i64) _ _ w (Nat.le_refl _)) ad Z.length cap (Z.map (Value.int .i64)) rfl (by simp) ?c1 ?c2 ?c3 ?c4 ?c5 ?_)
    case c1 => exact HL.out _
    case c2 => exact map_oneI Z
    case c3 => simp; unfold maxLen; omega
    case c4 => simp; omega
    case c5 => simp
    intro v' w' hown hgrow _
    have HN : Hid (Grows (Value.int .i64) 2 w.heap.size v' Z w') := Lib.hid (by have h := hown; show World.ownsRow _ _ _ _ _ _ _; simpa using h)
    have HB := Lib.hid ((below_alloc w _).grown hgrow (by simp) (fun k hk => by simp [Value.ownBlock] at hk; omega))
    clear hown hgrow
    go_wp2_with fail
    refine bodyPost_ret (results_tmp rfl _ _ _) rfl ?_
    exact ⟨_, rfl, HN.out, HB.out⟩
/-- How an element of the map reads here: by a number of its own. -/
def elemF (Φ : Value → Int) (v : Value) : Option (DataW Unit × List MemPlace) := some (.lit (.int .i64 (Φ v)), [])
/-- The numbers tell the clauses' values apart. -/
def TellV (V : Nat → Value) (n : Nat) (Φ : Value → Int) : Prop := ∀ v k, k < n → Φ v = Φ (V k) → v = V k
theorem tellV_some (V : Nat → Value) (n : Nat) : ∃ Φ, TellV V n Φ := by
  classical
  refine ⟨fun v => if h : ∃ k, k < n ∧ V k = v then (h.choose : Int) else -1, fun v k hk e => ?_⟩
  have hx : ∃ j, j < n ∧ V j = V k := ⟨k, hk, rfl⟩
  simp only [dif_pos hx] at e
  by_cases hv : ∃ j, j < n ∧ V j = v
  · simp only [dif_pos hv] at e
    have h1 := hx.choose_spec.2
    have h2 := hv.choose_spec.2
    have e2 : hv.choose = hx.choose := by omega
    rw [← h2, ← h1, e2]
  · simp only [dif_neg hv] at e
    omega
/-- What the map tells of the known literals: the clauses that made them known. -/
def Told (Φ : Value → Int) (V : Nat → Value) (K Y : List Int) (D : DataW Unit) : Prop :=
  ∀ j, j < K.length → 0 ≤ Y.getD j (-1) → D.atKey (.int .i64 (K.getD j 0)) (.lit (.int .i64 (-2))) = .lit (.int .i64 (Φ (V (Y.getD j (-1)).toNat)))
theorem told_none {Φ : Value → Int} {V : Nat → Value} {K : List Int} {n : Nat} (D : DataW Unit) : Told Φ V K (List.replicate n (-1)) D := fun j hj h => by
  exfalso
  by_cases e : j < n
  · simp [List.getD, e] at h
  · simp [List.getD, e] at h
theorem told_more {Φ : Value → Int} {V : Nat → Value} {K Y : List Int} {D : DataW Unit} (h : Told Φ V K Y D) (hl : Y.length = K.length) (x : Int) : Told Φ V (K ++ [x]) Y D := fun j hj h0 => by
  rw [List.length_append, List.length_singleton] at hj
  by_cases e : j < K.length
  · have e2 : (K ++ [x]).getD j 0 = K.getD j 0 := by simp [List.getD, List.getElem?_append_left e]
    rw [e2]; exact h j e h0
  · exfalso
    have e3 : Y.getD j (-1) = -1 := by simp [List.getD, List.getElem?_eq_none (show Y.length ≤ j by omega)]
    omega
theorem told_put {Φ : Value → Int} {V : Nat → Value} {K Y : List Int} {D : DataW Unit} (hD : IsMap D) (h : Told Φ V K Y D) (hl : Y.length = K.length) {x : Int} (hx : inS K x = false) (i : Nat) :
    Told Φ V (K ++ [x]) (Y ++ [(i : Int)]) (D.put (.int .i64 x) (.lit (.int .i64 (Φ (V i))))) := fun j hj h0 => by
  have hk : WideAt.IsKeyLit (Lit.int .i64 x) := by trivial
  rw [List.length_append, List.length_singleton] at hj
  by_cases e : j < K.length
  · have e2 : (K ++ [x]).getD j 0 = K.getD j 0 := by simp [List.getD, List.getElem?_append_left e]
    have e3 : (Y ++ [(i : Int)]).getD j (-1) = Y.getD j (-1) := by simp [List.getD, List.getElem?_append_left (show j < Y.length by omega)]
    rw [e3] at h0 ⊢
    rw [e2]
    have hne : K.getD j 0 ≠ x := fun q => by
      have : inS K x = true := inS_mem.2 (by rw [← q, show K.getD j 0 = K[j] by simp [List.getD, e]]; exact List.getElem_mem e)
      rw [hx] at this; cases this
    rw [atKey_put_other (by intro h; injection h with _ h2; exact hne h2)]
    exact h j e h0
  · have ej : j = K.length := by omega
    subst ej
    have e2 : (K ++ [x]).getD K.length 0 = x := by simp [List.getD]
    have e3 : (Y ++ [(i : Int)]).getD K.length (-1) = (i : Int) := by rw [← hl]; simp [List.getD]
    rw [e2, e3, atKey_put_same hD hk, Int.toNat_natCast]
/-- The state in block g: what is known, the map of makers in block mb, the clause that is broken. -/
structure StP (Φ : Value → Int) (V : Nat → Value) (g : Nat) (kv : Value) (mb m : Nat) (bk : Value) (br : Bool) (K Y : List Int) (w wr : World) : Prop where
  box : wr.heap[g]? = some (.cells #[kv, .map (some mb), bk, .bool br] 68 (0, 0))
  known : Grows (Value.int .i64) 2 w.heap.size kv K wr
  makers : ∃ D, wr.ownsMap Try.prog 2 (elemF Φ) mb m D ∧ Told Φ V K Y D
  mge : w.heap.size ≤ mb
  below : Below w.heap.size w wr
  ge : w.heap.size ≤ g
section
variable {Φ : Value → Int} {V : Nat → Value} {g mb m : Nat} {kv bk : Value} {br : Bool} {K Y : List Int} {w wr : World}
theorem StP.lt (h : StP Φ V g kv mb m bk br K Y w wr) : g < wr.heap.size := (Array.getElem?_eq_some_iff.1 h.box).1
theorem StP.cells (h : StP Φ V g kv mb m bk br K Y w wr) :
    wr.cell? ⟨g, 0, none⟩ = some kv ∧ wr.cell? ⟨g, 1, none⟩ = some (.map (some mb)) ∧ wr.cell? ⟨g, 2, none⟩ = some bk ∧ wr.cell? ⟨g, 3, none⟩ = some (.bool br) ∧ ∀ i, wr.frozen? ⟨g, i, none⟩ = false :=
  ⟨by rw [Lib.cell_of_heap h.box]; rfl, by rw [Lib.cell_of_heap h.box]; rfl, by rw [Lib.cell_of_heap h.box]; rfl, by rw [Lib.cell_of_heap h.box]; rfl, fun i => Lib.frozen_of_heap h.box i⟩
theorem StP.keep {w2 : World} (h : StP Φ V g kv mb m bk br K Y w wr) (b : Below wr.heap.size wr w2) : StP Φ V g kv mb m bk br K Y w w2 := by
  obtain ⟨D, hD, hT⟩ := h.makers
  exact ⟨by rw [b.block g h.lt]; exact h.box, h.known.below b (Nat.le_refl _), ⟨D, hD.kept (row := none) ⟨b.os, b.tape, b.output, b.size, fun i hi _ => b.block i hi⟩ (by simp), hT⟩, h.mge, h.below.trans (b.mono h.below.size), h.ge⟩
theorem StP.apart (h : StP Φ V g kv mb m bk br K Y w wr) : kv.ownBlock ≠ some g ∧ kv.ownBlock ≠ some mb ∧ g ≠ mb := by
  obtain ⟨D, ⟨es, clock, hm, -⟩, -⟩ := h.makers
  refine ⟨Lib.ownBlock_ne h.known h.box (by decide), fun e => ?_, fun e => ?_⟩
  · rcases h.known.2 with ⟨e2, _⟩ | ⟨q, cap, cur, e2, _, hq, _⟩
    · rw [e2] at e; cases e
    · rw [e2] at e
      have e : q = mb := by injection e
      subst e
      rw [hm] at hq; cases hq
  · have hb := h.box
    rw [e, hm] at hb; cases hb
/-- The known literals take one more. -/
theorem StP.keptK {w0 w1 : World} (h : StP Φ V g kv mb m bk br K Y w wr) (h0 : Below wr.heap.size wr w0) (hgr : w0.grownBy w1 kv.ownBlock) :
    w1.cell? ⟨g, 0, none⟩ = some kv ∧ w1.frozen? ⟨g, 0, none⟩ = false := by
  have hk := h.keep h0
  have hb : w1.heap[g]? = some (.cells #[kv, .map (some mb), bk, .bool br] 68 (0, 0)) := by rw [hgr.block g hk.lt (fun e => h.apart.1 e.symm)]; exact hk.box
  exact ⟨by rw [Lib.cell_of_heap hb]; rfl, Lib.frozen_of_heap hb 0⟩
end
theorem boxP_set {g i : Nat} {u : Value} {cs : Array Value} {e : TypeId} {w : World} (h : w.heap[g]? = some (.cells cs e (0, 0))) : (w.setCell ⟨g, i, none⟩ u).heap[g]? = some (.cells (cs.setIfInBounds i u) e (0, 0)) := by
  rw [World.setCell]
  simp only [Array.getElem?_modify, if_true, h]
  rfl
theorem StP.nextK {Φ : Value → Int} {V : Nat → Value} {g mb m gg cap : Nat} {x : Int} {kv bk : Value} {br : Bool} {K Y : List Int} {w wr w0 w1 : World} (h : StP Φ V g kv mb m bk br K Y w wr) (hl : Y.length = K.length) (h0 : Below wr.heap.size wr w0)
    (hown : w1.ownsRow w.heap.size 2 1 (.slice (some ⟨gg, 0, none⟩) (K.length + 1) cap) (K.length + 1) (K.map (Value.int .i64) ++ [.int .i64 x])) (hgr : w0.grownBy w1 kv.ownBlock) (q : Nat) :
    StP Φ V g (.slice (some ⟨gg, 0, none⟩) (K.length + 1) cap) mb m bk br (K ++ [x]) Y w ((w1.drewN q).setCell ⟨g, 0, none⟩ (.slice (some ⟨gg, 0, none⟩) (K.length + 1) cap)) := by
  have hk := h.keep h0
  obtain ⟨n1, n2, n3⟩ := hk.apart
  obtain ⟨D, hD, hT⟩ := hk.makers
  have hb1 : w1.heap[g]? = some (.cells #[kv, .map (some mb), bk, .bool br] 68 (0, 0)) := by rw [hgr.block g hk.lt (fun e => n1 e.symm)]; exact hk.box
  have hnew : Grows (Value.int .i64) 2 w.heap.size (.slice (some ⟨gg, 0, none⟩) (K.length + 1) cap) (K ++ [x]) w1 := Grows.more (news := [x]) rfl hown
  have m1 : (Value.slice (some ⟨gg, 0, none⟩) (K.length + 1) cap).ownBlock ≠ some g := Lib.ownBlock_ne hown hb1 (by decide)
  have hD1 : w1.ownsMap Try.prog 2 (elemF Φ) mb m D := hD.kept hgr (fun e => n2 e.symm)
  have hgw : (w1.drewN q).grownBy ((w1.drewN q).setCell ⟨g, 0, none⟩ (.slice (some ⟨gg, 0, none⟩) (K.length + 1) cap)) (some g) := grown_set _ _ _ _
  refine ⟨boxP_set (w := w1.drewN q) hb1, World.ownsRow.kept (w := w1.drewN q) hnew hgw (Or.inr m1), ⟨D, World.ownsMap.kept (w := w1.drewN q) hD1 hgw (by intro e; injection e with e; exact n3 e.symm), told_more hT hl x⟩, h.mge, ?_, h.ge⟩
  have hb9 : Below w.heap.size w w1 := hk.below.grown hgr hk.below.size (fun b hb => (World.ownsRow.lt hk.known b hb).1)
  exact (below_drewN hb9 q).setCell h.ge _
/-- The map has turned. -/
theorem StP.nextM {Φ : Value → Int} {V : Nat → Value} {g mb m i : Nat} {x : Int} {kv bk : Value} {br : Bool} {K Y : List Int} {D : DataW Unit} {w wr w1 : World} (h : StP Φ V g kv mb m bk br (K ++ [x]) Y w wr) (hl : Y.length = K.length) (hi : IsMap D) (hT : Told Φ V K Y D) (hx : inS K x = false)
    (hD : w1.ownsMap Try.prog 2 (elemF Φ) mb (m + 1) (D.put (.int .i64 x) (.lit (.int .i64 (Φ (V i)))))) (hgr : wr.grownBy w1 (some mb)) :
    StP Φ V g kv mb (m + 1) bk br (K ++ [x]) (Y ++ [(i : Int)]) w w1 := by
  obtain ⟨n1, n2, n3⟩ := h.apart
  refine ⟨by rw [hgr.block g h.lt (by intro e; injection e with e; exact n3 e)]; exact h.box, World.ownsRow.kept h.known hgr (Or.inr n2), ⟨_, hD, told_put hi hT hl hx i⟩, h.mge, ?_, h.ge⟩
  exact h.below.grown hgr h.below.size (fun b hb => by injection hb with hb; rw [← hb]; exact h.mge)
/-- The clause that is broken is written down. -/
theorem StP.broken {Φ : Value → Int} {V : Nat → Value} {g mb m : Nat} {kv bk : Value} {br : Bool} {K Y : List Int} {w wr : World} (h : StP Φ V g kv mb m bk br K Y w wr) (u : Value) (b : Bool) :
    StP Φ V g kv mb m u b K Y w ((wr.setCell ⟨g, 2, none⟩ u).setCell ⟨g, 3, none⟩ (.bool b)) := by
  obtain ⟨n1, n2, n3⟩ := h.apart
  obtain ⟨D, hD, hT⟩ := h.makers
  have hg1 : wr.grownBy (wr.setCell ⟨g, 2, none⟩ u) (some g) := grown_set _ _ _ _
  have hg2 : (wr.setCell ⟨g, 2, none⟩ u).grownBy ((wr.setCell ⟨g, 2, none⟩ u).setCell ⟨g, 3, none⟩ (.bool b)) (some g) := grown_set _ _ _ _
  have hgw := hg1.trans hg2
  exact ⟨boxP_set (boxP_set h.box), World.ownsRow.kept h.known hgw (Or.inr n1), ⟨D, hD.kept hgw (by intro e; injection e with e; exact n3 e.symm), hT⟩, h.mge, (h.below.setCell h.ge _).setCell h.ge _, h.ge⟩
/-- What made the known literals known, in block mb. -/
structure MkM (C : List (List Int)) (Φ : Value → Int) (V : Nat → Value) (mb m : Nat) (K Y : List Int) (w w' : World) : Prop where
  tell : TellV V C.length Φ
  lists : ∀ k, k < C.length → IL w (V k) (C.getD k [])
  map : ∃ D, w'.ownsMap Try.prog 2 (elemF Φ) mb m D ∧ Told Φ V K Y D
  ge : w.heap.size ≤ mb
/-- What units answer. -/
def UnitsP (C : List (List Int)) (R : List Int × List Int × Int) (w : World) (e : Ending) (w' : World) : Prop :=
  ∃ kv mb m ba bn bc Φ V, e = .returned (.agg #[kv, .map (some mb), .slice ba bn bc, .bool (decide (0 ≤ R.2.2))]) ∧ Grows (Value.int .i64) 2 w.heap.size kv R.1 w' ∧ MkM C Φ V mb m R.1 R.2.1 w w' ∧ (0 ≤ R.2.2 → IL w (.slice ba bn bc) (C.getD R.2.2.toNat [])) ∧ Below w.heap.size w w'
end Go.Proofs.Ytnakpfbeeekmiaa
/- What must hold then: what holds at each jump (plain), a box of four cells. -/
namespace Go.Proofs.Ytnakpfbeeekmiaa
open Go.RowKit Go.ChangeShapes Go.WideShapes Go.Maps
set_option maxRecDepth 100000

/-- A box of four cells that may be written. -/
structure Res4 (w : World) (g : Nat) : Prop where
  c0 : ∃ u, w.cell? ⟨g, 0, none⟩ = some u
  c1 : ∃ u, w.cell? ⟨g, 1, none⟩ = some u
  c2 : ∃ u, w.cell? ⟨g, 2, none⟩ = some u
  c3 : ∃ u, w.cell? ⟨g, 3, none⟩ = some u
  free : ∀ i, w.frozen? ⟨g, i, none⟩ = false
theorem Res4.keep {B : Nat} {w w' : World} {g : Nat} (h : Res4 w g) (hb : Below B w w') (hg : g < B) : Res4 w' g := by
  obtain ⟨⟨u, h0⟩, ⟨v, h1⟩, ⟨t, h2⟩, ⟨s, h3⟩, hf⟩ := h
  exact ⟨⟨u, by rw [hb.cell (p := ⟨g, 0, none⟩) hg]; exact h0⟩, ⟨v, by rw [hb.cell (p := ⟨g, 1, none⟩) hg]; exact h1⟩, ⟨t, by rw [hb.cell (p := ⟨g, 2, none⟩) hg]; exact h2⟩, ⟨s, by rw [hb.cell (p := ⟨g, 3, none⟩) hg]; exact h3⟩, fun i => by rw [hb.frozen (p := ⟨g, i, none⟩) hg]; exact hf i⟩
/-- The clauses' values. -/
theorem LV.vals {w : World} {v : Value} {C : List (List Int)} (h : LV w v C) : ∃ V : Nat → Value, (∀ k, k < C.length → ∃ b off cap, v = .slice (some ⟨b, off, none⟩) C.length (C.length + cap) ∧ b < w.heap.size ∧ w.cell? ⟨b, off + k, none⟩ = some (V k)) ∧ ∀ k, k < C.length → IL w (V k) (C.getD k []) := by
  rcases h with ⟨rfl, ao, cap, rfl⟩ | ⟨b, off, cap, U, rfl, hp, hb, hc⟩
  · exact ⟨fun _ => .bool false, fun k hk => absurd hk (by simp), fun k hk => absurd hk (by simp)⟩
  · exact ⟨U, fun k hk => ⟨b, off, cap, rfl, hb, (hc k hk).1⟩, fun k hk => (hc k hk).2⟩
/-- How many are known: read off the state's box. -/
def lenAt (v : Value) (w : World) : Nat := match v with
  | .pointer (some p) => match w.cell? p with
    | some (.slice _ n _) => 11 - n
    | _ => 0
  | _ => 0
theorem lenAt_of {g n c : Nat} {a : Option Addr} {w : World} (h : w.cell? ⟨g, 0, none⟩ = some (.slice a n c)) : lenAt (.pointer (some ⟨g, 0, none⟩)) w = 11 - n := by unfold lenAt; simp only [h]
/-- What holds at each jump. -/
def UnJ (C : List (List Int)) (R : List Int × List Int × Int) (Φ : Value → Int) (V : Nat → Value) (n : Int) (g gl : Nat) (W1 wr : World) : Prop :=
  ∃ K Y kv mb m, StP Φ V g kv mb m (.slice none 0 0) false K Y W1 wr ∧ m ≤ K.length ∧ LitsOk n K ∧ Y.length = K.length ∧ gl ≤ K.length ∧ uK C (11 - K.length + gl) K Y = R
theorem wp_scope_back {P : Program} {a : Act} {w : World} {Q : Exit → Act → World → Prop} {c rest : Code} (l : Nat) (J : Act → World → Prop) (μ : Act → World → Nat) (hf : findLabel c l = some (.seq .skip rest))
    (first : (∀ a w, J a w → rest.wp P (Exit.jump l J Q) a w) → c.wp P (Exit.jump l J Q) a w)
    (pass : ∀ a w, J a w → rest.wp P (Exit.jump l (fun a' w' => J a' w' ∧ μ a' w' < μ a w) Q) a w) : (Code.scope c).wp P Q a w := by
  refine wp_scope_jumps l J μ hf (first fun a w h => Code.wp_mono ?_ (pass a w h)) fun a w h => ?_
  · intro e a' w' he
    cases e with
    | goto l' => exact ⟨he.1, he.2.1⟩
    | _ => exact he
  · refine wp_seq ?_
    go_wp2
    exact pass a w h
theorem StP.start {Φ : Value → Int} {V : Nat → Value} {kv : Value} {G : List Int} {w w2 : World} (hb : Below w.heap.size w w2) (hG : Grows (Value.int .i64) 2 w.heap.size kv G w2) :
    StP Φ V (w2.heap.size + 1) kv w2.heap.size 0 (.slice none 0 0) false G (List.replicate G.length (-1)) w
      ((w2.alloc (.map #[] 0)).alloc (.cells #[kv, .map (some w2.heap.size), .slice none 0 0, .bool false] 68)) := by
  have hz : (w2.alloc (.map #[] 0)).heap.size = w2.heap.size + 1 := by simp
  have hbox := heap_alloc_new (w2.alloc (.map #[] 0)) (.cells #[kv, .map (some w2.heap.size), .slice none 0 0, .bool false] 68)
  rw [hz] at hbox
  have hm := (World.ownsMap_made w2 Try.prog 2 (elemF Φ)).alloc (.cells #[kv, .map (some w2.heap.size), .slice none 0 0, .bool false] 68)
  have B2 : Below w2.heap.size w2 ((w2.alloc (.map #[] 0)).alloc (.cells #[kv, .map (some w2.heap.size), .slice none 0 0, .bool false] 68)) := (below_alloc w2 _).alloc (by simp) _
  exact ⟨hbox, hG.below B2 (Nat.le_refl _), ⟨.map [], hm, told_none _⟩, hb.size, hb.trans (B2.mono hb.size), by have := hb.size; omega⟩
theorem told_less {Φ : Value → Int} {V : Nat → Value} {K Y : List Int} {x : Int} {D : DataW Unit} (h : Told Φ V (K ++ [x]) Y D) : Told Φ V K Y D := fun j hj h0 => by
  have h1 := h j (by rw [List.length_append]; omega) h0
  rwa [show (K ++ [x]).getD j 0 = K.getD j 0 by simp [List.getD, List.getElem?_append_left hj]] at h1
theorem StP.drew {Φ : Value → Int} {V : Nat → Value} {g mb m : Nat} {kv bk : Value} {br : Bool} {K Y : List Int} {w wr : World} (h : StP Φ V g kv mb m bk br K Y w wr) : StP Φ V g kv mb m bk br K Y w wr.drew := h.keep (Below.refl wr.heap.size wr).drew
theorem kept_at {w7 w0 w9 : World} {row : Option Nat} {rb ro : Nat} {v : Value} (h : w7.cell? ⟨rb, ro, none⟩ = some v) (hb : Below w7.heap.size w7 w0) (hg : w0.grownBy w9 row) (hne : row ≠ some rb) : w9.cell? ⟨rb, ro, none⟩ = some v := by
  have hl := cell_block h
  rw [World.cell?_of_block (w := w0) (a := ⟨rb, ro, none⟩) (hg.block rb (Nat.lt_of_lt_of_le hl hb.size) (fun e => hne e.symm))]
  exact keep_cell h hb hl
theorem set_at {w : World} {rb ro g i : Nat} {u v : Value} (h : w.cell? ⟨rb, ro, none⟩ = some v) (hne : rb ≠ g) : (w.setCell ⟨g, i, none⟩ u).cell? ⟨rb, ro, none⟩ = some v := by
  rw [World.cell?_of_block (w := w) (a := ⟨rb, ro, none⟩) (Below.heap_setCell _ _ _ _ hne)]; exact h
theorem unitsP_end {C : List (List Int)} {R : List Int × List Int × Int} {Φ : Value → Int} {V : Nat → Value} {g mb m : Nat} {kv : Value} {ba : Option Addr} {bn bc : Nat} {br : Bool} {K Y : List Int} {ws : Int} {w W1 wr X : World} (h1 : Below w.heap.size w W1 ∧ W1.heap.size = w.heap.size + 1)
    (hT : TellV V C.length Φ) (hV : ∀ k, k < C.length → IL w (V k) (C.getD k [])) (h : StP Φ V g kv mb m (.slice ba bn bc) br K Y W1 wr) (ht : Turned w.heap.size (w.heap.size + 1) wr X) (hR : (K, Y, ws) = R) (hb : br = decide (0 ≤ ws)) (hbk : 0 ≤ ws → IL w (.slice ba bn bc) (C.getD ws.toNat [])) :
    UnitsP C R w (.returned (.agg #[kv, .map (some mb), .slice ba bn bc, .bool br])) X := by
  subst hR
  have hg : wr.grownBy X (some w.heap.size) := ⟨ht.os, ht.tape, ht.output, ht.size, fun k hk hne => ht.block k hk (by
    by_cases e : k = w.heap.size
    · subst e; exact absurd rfl hne
    · omega)⟩
  have hk := h.known
  rw [h1.2] at hk
  obtain ⟨D, hD, hTd⟩ := h.makers
  have hmge := h.mge
  rw [h1.2] at hmge
  refine ⟨kv, mb, m, ba, bn, bc, Φ, V, by rw [hb], Grows.lower (World.ownsRow.kept hk hg ?_) (by omega), ⟨hT, hV, ⟨D, hD.kept hg (by intro e; injection e with e; omega), hTd⟩, by omega⟩, hbk, (h1.1.trans (h.below.mono h1.1.size)).trans ((ht.below (by have := h.below.size; omega)).mono (by omega))⟩
  cases q : kv.ownBlock with
  | none => exact Or.inl rfl
  | some b => exact Or.inr (fun e => by have h2 := (World.ownsRow.lt hk b q).1; injection e with e; omega)
end Go.Proofs.Ytnakpfbeeekmiaa
/- What must hold then: the program. -/
namespace Go.Proofs.Ytnakpfbeeekmiaa
open Go.RowKit Go.ChangeShapes Go.WideShapes Go.Maps
set_option maxRecDepth 100000

set_option maxHeartbeats 16000000 in
theorem unitsOf_any (n : Int) (v : Value) (C : List (List Int)) (u : Value) (G : List Int) (w : World) (hv : LV w v C) (hu : IL w u G) (n1 : 1 ≤ n) (n2 : n ≤ 10) (hC : ∀ k, k < C.length → ClOk n (C.getD k [])) (few : C.length ≤ 1000) (hG : LitsOk n G) :
    Calls Try.prog 52 #[v, u] w (UnitsP C (uK C 11 G (List.replicate G.length (-1))) w) := by
  obtain ⟨i0, hi, hz0, hz1, hz2⟩ := info_parts Try.infoI
  have HC := Lib.hid hC
  have HGO := Lib.hid hG
  have HL : Hid (∀ W, Below w.heap.size w W → LV W v C) := Lib.hid fun W b => hv.below b (Nat.le_refl _)
  have HU : Hid (∀ W, Below w.heap.size w W → IL W u G) := Lib.hid fun W b => hu.below b (Nat.le_refl _)
  have hgl := litsOk_len n1 n2 hG
  obtain ⟨R, hR⟩ : ∃ R, uK C 11 G (List.replicate G.length (-1)) = R := ⟨_, rfl⟩
  have HR0 := Lib.hid hR
  rw [hR]
  obtain ⟨V, hV⟩ := LV.vals hv
  have HV : Hid (∀ W, Below w.heap.size w W → ∀ k, k < C.length → ∃ b off cap, v = .slice (some ⟨b, off, none⟩) C.length (C.length + cap) ∧ W.cell? ⟨b, off + k, none⟩ = some (V k)) := Lib.hid fun W hb k hk => by
    obtain ⟨b, off, cap, e, hbl, hc⟩ := hV.1 k hk
    exact ⟨b, off, cap, e, keep_cell hc hb hbl⟩
  have HVI : Hid (∀ k, k < C.length → IL w (V k) (C.getD k [])) := Lib.hid hV.2
  obtain ⟨Φ, hΦ⟩ := tellV_some V C.length
  have HΦ := Lib.hid hΦ
  obtain ⟨va, vc, rfl⟩ := hv.long
  obtain ⟨ua, uc, rfl⟩ := hu.long
  obtain ⟨W1, hW1⟩ : ∃ W1, W1 = w.alloc (.cells #[.slice none 0 0, .map none, .slice none 0 0, .bool false] 68) := ⟨_, rfl⟩
  have HW0 : Hid (Below w.heap.size w W1 ∧ W1.heap.size = w.heap.size + 1) := Lib.hid (by rw [hW1]; exact ⟨below_alloc _ _, by simp⟩)
  have HR4 : Hid (Res4 W1 w.heap.size) := Lib.hid (by rw [hW1]; exact ⟨⟨.slice none 0 0, by go_simp⟩, ⟨.map none, by go_simp⟩, ⟨.slice none 0 0, by go_simp⟩, ⟨.bool false, by go_simp⟩, fun i => by go_simp⟩)
  have hw1 : W1.heap.size = w.heap.size + 1 := HW0.out.2
  have HBW : Hid (∀ W, Below W1.heap.size W1 W → Below w.heap.size w W) := Lib.hid fun W b => HW0.out.1.trans (b.mono HW0.out.1.size)
  have HW1 := Lib.hid hW1
  have CL := Lib.hid (cloneG_any (.slice ua G.length uc) G W1 (HU.out W1 HW0.out.1) (by omega))
  have hmm := @run_makeMap Try.prog
  clear hv hu hC hG hR hW1 hV hΦ
  go_enter Try.func52, Try.ntmps52
  go_wp2_with fail
  rw [← HW1.out]
  refine wp_scope_back 0 (fun a' w' => ∃ (u2 u3 u6 u7 u8 u9 u10 u11 u12 u13 u14 u15 u16 u17 u18 u19 u20 u21 u22 u23 u24 u25 u26 u27 u28 u29 u30 u31 u32 u33 u34 u35 u36 u37 u38 u39 u40 u41 u42 u43 u44 u45 u46 u47 u48 u49 u50 u51 u52 u53 u54 u55 u56 u57 u58 u59 u60 u61 u62 u63 u64 u65 u66 u67 u68 u69 : Value) (g : Nat), a' = { tmps := #[.slice va C.length vc, .slice ua G.length uc, u2, u3, .pointer (some ⟨w.heap.size, 0, none⟩), .pointer (some ⟨g, 0, none⟩), u6, u7, u8, u9, u10, u11, u12, u13, u14, u15, u16, u17, u18, u19, u20, u21, u22, u23, u24, u25, u26, u27, u28, u29, u30, u31, u32, u33, u34, u35, u36, u37, u38, u39, u40, u41, u42, u43, u44, u45, u46, u47, u48, u49, u50, u51, u52, u53, u54, u55, u56, u57, u58, u59, u60, u61, u62, u63, u64, u65, u66, u67, u68, u69], defers := [] } ∧ UnJ C R Φ V n g G.length W1 w') (fun a' w' => lenAt (a'.tmps.getD 5 undef) w') (by rfl) ?_ ?_
  · intro H
    go_wp2_with fail
    go_at_call 76; refine CL.out.mono ?_; rintro e w2 ⟨kv, rfl, g2, b2⟩
    have hs2 := b2.size
    have hst := Lib.hid (StP.start (Φ := Φ) (V := V) b2 g2)
    obtain ⟨ka, kc, rfl⟩ := SI.len (d := (0 : Int)) (Grows.si g2)
    clear g2 b2
    go_wp2_with fail
    refine wp_label ?_
    rename_i hK
    refine hK _ _ (H _ _ ?_)
    refine ⟨_, _, _, _, _, _, _, _, _, _, _, _, _, _, _, _, _, _, _, _, _, _, _, _, _, _, _, _, _, _, _, _, _, _, _, _, _, _, _, _, _, _, _, _, _, _, _, _, _, _, _, _, _, _, _, _, _, _, _, _, _, _, _, _, _, _, _, rfl, G, List.replicate G.length (-1), _, _, 0, hst.out, Nat.zero_le _, HGO.out, List.length_replicate, Nat.le_refl _, ?_⟩
    rw [show 11 - G.length + G.length = 11 by omega]
    exact HR0.out
  · rintro a' w' ⟨u2, u3, u6, u7, u8, u9, u10, u11, u12, u13, u14, u15, u16, u17, u18, u19, u20, u21, u22, u23, u24, u25, u26, u27, u28, u29, u30, u31, u32, u33, u34, u35, u36, u37, u38, u39, u40, u41, u42, u43, u44, u45, u46, u47, u48, u49, u50, u51, u52, u53, u54, u55, u56, u57, u58, u59, u60, u61, u62, u63, u64, u65, u66, u67, u68, u69, g, rfl, K, Y, kv, mb, m, hS, hm, hK, hYK, hgK, hR⟩
    have HYK := Lib.hid hYK
    have HKO := Lib.hid hK
    have HS := Lib.hid hS
    have hKl := litsOk_len n1 n2 hK
    have hgw := hS.lt
    have hww : W1.heap.size ≤ w'.heap.size := hS.below.size
    have HIK : Hid (∀ W, Below w'.heap.size w' W → IL W kv K) := Lib.hid fun W b => VL.below (d := (0 : Int)) (SI.vl (Grows.si hS.known)) b (Nat.le_refl _)
    obtain ⟨f, hf⟩ : ∃ f, 11 - K.length + G.length = f + 1 := ⟨11 - K.length + G.length - 1, by omega⟩
    have HR2 : Hid (uK C (f + 1) K Y = R) := Lib.hid (by rw [← hf]; exact hR)
    have HF : Hid (11 - (K.length + 1) + G.length = f) := Lib.hid (by omega)
    have HBw : Hid (∀ W, Below w'.heap.size w' W → Below w.heap.size w W) := Lib.hid fun W b => HBW.out W (HS.out.below.trans (b.mono HS.out.below.size))
    clear hK hS hR hf hYK
    obtain ⟨ka, kc, rfl⟩ := VL.len (d := (0 : Int)) (HIK.out _ (Below.refl _ _))
    have hmu : lenAt (.pointer (some ⟨g, 0, none⟩)) w' = 11 - K.length := lenAt_of HS.out.cells.1
    have HMU := Lib.hid hmu
    clear hmu
    go_wp2_with fail
    go_loopg [17] C.length (fun gk i wr => ∃ k : Nat, k ≤ C.length ∧ gk + k = C.length ∧ i = .int .i64 k ∧ (∀ j, j < k → ¬ (rst K (C.getD j [])).length = 0) ∧ Below w'.heap.size w' wr)
    case atStart => exact ⟨0, Nat.zero_le _, by omega, rfl, fun j hj => by omega, Below.refl _ _⟩
    case round =>
      obtain ⟨k, hk, hgk, rfl, hb, hB⟩ := hrel
      have HBR := Lib.hid hb
      have HB := Lib.hid hB
      have hszr := hB.size
      clear hb hB
      by_cases hlt : k < C.length
      · obtain ⟨b, off, cap, e, cD⟩ := HV.out wr (HBw.out _ HB.out) k hlt
        injection e with e1 _ e3
        subst e1
        obtain ⟨c0, c1, c2, c3, cf⟩ := (HS.out.keep HB.out).cells
        have hcl := HC.out k hlt
        have RS := Lib.hid fun W (hb : Below wr.heap.size wr W) => restOf_any (V k) (.slice ka K.length kc) (C.getD k []) K W ((HVI.out k hlt).below (HBw.out W (HB.out.trans (hb.mono HB.out.size))) (Nat.le_refl _)) (HIK.out W (HB.out.trans (hb.mono HB.out.size))) (by have := hcl.len; omega) (by omega) (fun i hi2 => by have := hcl.a i hi2; have := hcl.n2; unfold ltr at *; split at * <;> omega)
        have HIV := Lib.hid (HVI.out k hlt)
        obtain ⟨da, dn, dc, hdv⟩ : ∃ da dn dc, V k = .slice da dn dc := by obtain ⟨a, c, e⟩ := (HVI.out k hlt).long; exact ⟨a, _, c, e⟩
        rw [hdv] at cD RS HIV
        obtain ⟨Z, hZ⟩ : ∃ Z, rst K (C.getD k []) = Z := ⟨_, rfl⟩
        rw [hZ] at RS
        have HDV := Lib.hid hdv
        have HZ := Lib.hid hZ
        have hZl : Z.length ≤ 10 := by have h1 := rst_len K (C.getD k []); rw [hZ] at h1; have := hcl.len; omega
        clear e3 hcl hdv hZ
        go_wp2_with fail
        go_at_call 73; refine (RS.out _ (Below.refl _ _)).mono ?_; rintro e w6 ⟨v6, rfl, g6, b6⟩
        have B6 := Lib.hid b6
        have hs6 := b6.size
        obtain ⟨ra, rc, rfl⟩ := SI.len (d := (0 : Int)) (Grows.si g6)
        have S6 := Lib.hid ((HS.out.keep HB.out).keep b6)
        have hg6 := S6.out.lt
        have hmz : w.heap.size < w6.heap.size := by omega
        clear b6 c0 c1 c2 c3 cf g6
        by_cases z : Z.length = 0
        · have HFB : Hid (fb K C = some k) := Lib.hid (fstP_some hlt (decide_eq_true (by rw [HZ.out]; exact z)) fun j hj => decide_eq_false (HBR.out j hj))
          have HR : Hid ((K, Y, (k : Int)) = R) := Lib.hid (by rw [← HR2.out, uK_bad HFB.out])
          have HH := Lib.hid (S6.out.broken (.slice da dn dc) true)
          have hge := S6.out.ge
          have hge2 : w.heap.size < g := by omega
          obtain ⟨⟨v0, r0⟩, ⟨v1, r1⟩, ⟨v2, r2⟩, ⟨v3, r3⟩, rf⟩ := HR4.out.keep S6.out.below (by omega)
          have rf0 := rf 0
          have rf1 := rf 1
          have rf2 := rf 2
          have rf3 := rf 3
          obtain ⟨d0, d1, d2, d3, df⟩ := S6.out.cells
          have df2 := df 2
          have df3 := df 3
          have hne : ¬ w.heap.size = g := by omega
          have hne2 : ¬ g = w.heap.size := by omega
          clear rf df
          rw [z]
          go_wp2_with fail
          simp only [Exit.jump]
          refine bodyPost_ret (v := .agg #[.slice ka K.length kc, .map (some mb), .slice da dn dc, .bool true]) (by simp [results, Try.results52, r0, r1, r2, r3, go_sem]) rfl ?_
          generalize hX : World.setCell _ _ _ = X
          have hT : Turned w.heap.size (w.heap.size + 1) ((w6.setCell ⟨g, 2, none⟩ (.slice da dn dc)).setCell ⟨g, 3, none⟩ (.bool true)) X := by
            rw [← hX]
            iterate 4 (refine Turned.setCell ?_ (by simp) (by simp) _)
            exact Turned.refl _ _ _
          clear hX
          exact unitsP_end HW0.out HΦ.out HVI.out HH.out hT HR.out (by simp) (fun _ => by rw [Int.toNat_natCast]; exact HIV.out)
        · have HBR2 : Hid (∀ j, j < k + 1 → ¬ (rst K (C.getD j [])).length = 0) := Lib.hid fun j hj => by
            by_cases e : j = k
            · subst e; rw [HZ.out]; exact z
            · exact HBR.out j (by omega)
          have z' : ((Z.length : Int) == 0) = false := by rw [beq_eq_false_iff_ne]; omega
          have HB6 := Lib.hid (HB.out.trans (B6.out.mono HB.out.size))
          go_wp2_with fail
          go_roundg (gk - 1)
          case measure => omega
          case rel => exact ⟨k + 1, by omega, by omega, by go_num, HBR2.out, HB6.out⟩
      · obtain rfl : k = C.length := by omega
        have HFB : Hid (fb K C = none) := Lib.hid (fstP_none fun j hj => decide_eq_false (HBR.out j hj))
        obtain ⟨wA, rfl⟩ : ∃ x : World, x = wr := ⟨_, rfl⟩
        clear HBR
        go_wp2_with fail
        go_loopg [34] C.length (fun gk i wr => ∃ k : Nat, k ≤ C.length ∧ gk + k = C.length ∧ i = .int .i64 k ∧ (∀ j, j < k → un K (C.getD j []) = false) ∧ Below w'.heap.size w' wr)
        case atStart => exact ⟨0, Nat.zero_le _, by omega, rfl, fun j hj => by omega, HB.out⟩
        case round =>
          clear HB
          obtain ⟨k, hk, hgk2, rfl, hb, hB⟩ := hrel
          have HBR := Lib.hid hb
          have HB := Lib.hid hB
          have hszr := hB.size
          clear hb hB
          by_cases hlt : k < C.length
          · obtain ⟨b, off, cap, e, cD⟩ := HV.out wr (HBw.out _ HB.out) k hlt
            injection e with e1 _ e3
            subst e1
            obtain ⟨c0, c1, c2, c3, cf⟩ := (HS.out.keep HB.out).cells
            have hcl := HC.out k hlt
            have RS := Lib.hid fun W (hb : Below wr.heap.size wr W) => restOf_any (V k) (.slice ka K.length kc) (C.getD k []) K W ((HVI.out k hlt).below (HBw.out W (HB.out.trans (hb.mono HB.out.size))) (Nat.le_refl _)) (HIK.out W (HB.out.trans (hb.mono HB.out.size))) (by have := hcl.len; omega) (by omega) (fun i hi2 => by have := hcl.a i hi2; have := hcl.n2; unfold ltr at *; split at * <;> omega)
            obtain ⟨da, dn, dc, hdv⟩ : ∃ da dn dc, V k = .slice da dn dc := by obtain ⟨a, c, e⟩ := (HVI.out k hlt).long; exact ⟨a, _, c, e⟩
            rw [hdv] at cD RS
            obtain ⟨Z, hZ⟩ : ∃ Z, rst K (C.getD k []) = Z := ⟨_, rfl⟩
            rw [hZ] at RS
            have HDV := Lib.hid hdv
            have HZ := Lib.hid hZ
            have hZl : Z.length ≤ 10 := by have h1 := rst_len K (C.getD k []); rw [hZ] at h1; have := hcl.len; omega
            clear e3 hcl hdv hZ
            go_wp2_with fail
            go_at_call 73; refine (RS.out _ (Below.refl _ _)).mono ?_; rintro e w6 ⟨v6, rfl, g6, b6⟩
            have B6 := Lib.hid b6
            have hs6 := b6.size
            have HB6 := Lib.hid (HB.out.trans (b6.mono HB.out.size))
            have S6 := Lib.hid ((HS.out.keep HB.out).keep b6)
            have HSR := Lib.hid (HS.out.keep HB.out)
            have hg6 := S6.out.lt
            have hgr : g < wr.heap.size := HSR.out.lt
            have hW6 : W1.heap.size ≤ w6.heap.size := S6.out.below.size
            clear b6 c0 c1 c2 c3 cf
            by_cases z : Z.length = 1
            · obtain ⟨x, hx⟩ := List.length_eq_one_iff.1 z
              subst hx
              rcases (Grows.si (d := (0 : Int)) g6).2 with ⟨hz, -⟩ | ⟨rb, roff, rcap, e, hpos, hrb1, hrb2, hfr, hcell⟩
              · cases hz
              have cx : w6.cell? ⟨rb, roff, none⟩ = some (.int .i64 x) := hcell 0 (by simp)
              rw [show ([x] : List Int).length = 1 from rfl] at e
              subst e
              have HUL : Hid (unL K C k = x) := Lib.hid (by unfold unL; rw [HZ.out]; rfl)
              have HUN : Hid (un K (C.getD k []) = !inS K x) := Lib.hid (by unfold un; rw [HZ.out]; simp)
              have CI := Lib.hid fun (n9 : Nat) => contains_any (.slice ka K.length kc) K x (w6.drewN n9) ((HIK.out _ HB6.out).drewN n9) (by omega)
              clear g6 hcell hfr hpos z hZl
              obtain ⟨d0, d1, d2, d3, df⟩ := S6.out.cells
              cases t : inS K x with
              | true =>
                have HBR2 : Hid (∀ j, j < k + 1 → un K (C.getD j []) = false) := Lib.hid fun j hj => by
                  by_cases e : j = k
                  · subst e; rw [HUN.out, t]; rfl
                  · exact HBR.out j (by omega)
                rw [t] at CI
                clear t
                go_wp2_with fail
                go_quiet ((go_at_call 71; with_reducible exact Calls.quiet_of_same ((CI.out _).mono fun _ _ ⟨q1, q2⟩ => ⟨q1, q2.symm⟩)))
                go_wp2_with fail
                go_roundg (gk - 1)
                case measure => omega
                case rel => exact ⟨k + 1, by omega, by omega, by go_num, HBR2.out, below_drewN HB6.out _⟩
              | false =>
                have HTX := Lib.hid t
                have HFU : Hid (fu K C = some k) := Lib.hid (fstP_some hlt (by rw [HUN.out, t]; rfl) HBR.out)
                have HR3 : Hid (uK C f (K ++ [x]) (Y ++ [(k : Int)]) = R) := Lib.hid (by rw [← HR2.out, uK_go HFB.out HFU.out, HUL.out])
                have hnw := un_new HKO.out HC.out hlt (by rw [HUN.out, t]; rfl)
                rw [HUL.out] at hnw
                have HK2 := Lib.hid hnw.1
                have hK10 : (K ++ [x]).length ≤ 10 := litsOk_len n1 n2 hnw.1
                rw [List.length_append, List.length_singleton] at hK10
                have hxr : InR x := by
                  have h1 := hnw.1.rng x (by simp)
                  unfold ltr at h1
                  unfold InR
                  split at h1 <;> omega
                have HXR := Lib.hid hxr
                rw [t] at CI
                clear t hnw hxr
                go_upto_region 14 with (fail)
                go_wp2_with fail
                go_quiet ((go_at_call 71; with_reducible exact Calls.quiet_of_same ((CI.out _).mono fun _ _ ⟨q1, q2⟩ => ⟨q1, q2.symm⟩)))
                go_wp2_with fail
                obtain ⟨w7, hw7⟩ : ∃ w7, w7 = w6.drewN nq := ⟨_, rfl⟩
                have S7 : Hid (StP Φ V g (.slice ka K.length kc) mb m (.slice none 0 0) false K Y W1 w7) := Lib.hid (by rw [hw7]; exact S6.out.keep (below_drewN (Below.refl _ _) nq))
                have cx7 : w7.cell? ⟨rb, roff, none⟩ = some (.int .i64 x) := by rw [hw7]; exact cx
                have hz7 : w7.heap.size = w6.heap.size := by rw [hw7]; rfl
                have HB7 : Hid (Below w'.heap.size w' w7) := Lib.hid (by rw [hw7]; exact below_drewN HB6.out _)
                rw [← hw7]
                clear hw7 cx d0 d1 d2 d3 df
                have hg7 := S7.out.lt
                have hrb7 : rb < w7.heap.size := cell_block cx7
                obtain ⟨d0, d1, d2, d3, df⟩ := S7.out.cells
                have df0 := df 0
                have HOWN : Hid (∀ W, Below w7.heap.size w7 W → W.ownsRow W1.heap.size 2 1 (.slice ka K.length kc) K.length (K.map (Value.int .i64))) := Lib.hid fun W b => (S7.out.keep b).known
                have HKB : Hid ((Value.slice ka K.length kc).ownBlock ≠ some rb) := Lib.hid fun e => by have := (World.ownsRow.lt HSR.out.known rb e).2; omega
                have hneg : rb ≠ g := by omega
                have HCX := Lib.hid cx7
                have HM0 : Hid (∀ w0 w9, Below w7.heap.size w7 w0 → w0.grownBy w9 (Value.slice ka K.length kc).ownBlock → w9.cell? ⟨rb, roff, none⟩ = some (.int .i64 x)) := Lib.hid fun w0 w9 b hg => kept_at HCX.out b hg HKB.out
                have d0a : ∀ o, (w7.alloc o).cell? ⟨g, 0, none⟩ = some (.slice ka K.length kc) := fun o => keep_cell d0 (below_alloc w7 o) hg7
                have hW7 : W1.heap.size ≤ w7.heap.size := by omega
                clear df d1 d2 d3 hz7
                go_region_law (first
                  | (refine step_append_lies _ (by rfl) _ _ _ (by rfl) W1.heap.size 2 i0 _ 1 8 Try.underlying25 hi hz0 hz1 hz2 rfl (by omega) (.slice ka K.length kc) K.length (K.map (Value.int .i64)) (by rfl) (HOWN.out _ (by first | exact below_alloc w7 _ | exact (below_drewN (Below.refl w7.heap.size w7) _).alloc (Nat.le_refl _) _ | exact below_drewN (below_alloc w7 _) _ | exact (Below.refl w7.heap.size w7).drew.alloc (Nat.le_refl _) _ | exact (below_alloc w7 _).drew)) ⟨w7.heap.size, 0, none⟩ 1 1 [.int .i64 x] (by rfl) (by rfl) (World.news_of_block (cs := #[_]) (t := 2) (fr := (0, 0)) (heap_alloc_new _ _)) (by simp [Value.oneCell']) (by omega) (by unfold maxLen; omega) (by omega) (by simp; omega) (w7.heap.size + 1) (by simp) ?_; intro gg gcap w9 hown hgrow hat hlt9; obtain ⟨hk9, hf9⟩ := S7.out.keptK (by first | exact below_alloc w7 _ | exact (below_drewN (Below.refl w7.heap.size w7) _).alloc (Nat.le_refl _) _ | exact below_drewN (below_alloc w7 _) _ | exact (Below.refl w7.heap.size w7).drew.alloc (Nat.le_refl _) _ | exact (below_alloc w7 _).drew) hgrow; have HNX := Lib.hid (fun q => StP.nextK S7.out HYK.out (by first | exact below_alloc w7 _ | exact (below_drewN (Below.refl w7.heap.size w7) _).alloc (Nat.le_refl _) _ | exact below_drewN (below_alloc w7 _) _ | exact (Below.refl w7.heap.size w7).drew.alloc (Nat.le_refl _) _ | exact (below_alloc w7 _).drew) hown hgrow q); have HX9 := Lib.hid (HM0.out _ _ (by first | exact below_alloc w7 _ | exact (below_drewN (Below.refl w7.heap.size w7) _).alloc (Nat.le_refl _) _ | exact below_drewN (below_alloc w7 _) _ | exact (Below.refl w7.heap.size w7).drew.alloc (Nat.le_refl _) _ | exact (below_alloc w7 _).drew) hgrow); clear hown hgrow hat hlt9))
                all_goals
                  generalize hwB : World.setCell _ _ _ = wB
                  have H5 : Hid (StP Φ V g (.slice (some ⟨gg, 0, none⟩) (K.length + 1) gcap) mb m (.slice none 0 0) false (K ++ [x]) Y W1 wB) := Lib.hid (by rw [← hwB]; exact HNX.out 0)
                  have cxB : wB.cell? ⟨rb, roff, none⟩ = some (.int .i64 x) := by rw [← hwB]; exact set_at HX9.out hneg
                  clear hwB d0 d0a hk9 hf9 df0 cx7 HNX
                  obtain ⟨d0, d1, d2, d3, df⟩ := H5.out.cells
                  obtain ⟨D, hD, hTd⟩ := H5.out.makers
                  have HD := Lib.hid hD
                  have HTD := Lib.hid (told_less hTd)
                  clear df d0 d2 d3 hD hTd
                  go_wp2_with fail
                  refine wp_region_still_tail 6 (by kernel_rfl) (by kernel_rfl) ?_
                  simp only [List.take_succ_cons, List.take_zero, List.drop_succ_cons, List.drop_zero]
                  repeat still_step
                  refine wpStill_nil ?_
                  change wpList _ _ _ _ _ wB.drew
                  refine wpList_mapUpdate_own _ rfl _ _ _ 66 rfl 2 25 keyI Try.underlying66 (elemF Φ) mb m D rfl HD.out.drew (by unfold maxLen; omega) _ _ (.int .i64 x) rfl rfl (keyOf_int_mk Try.underlying2 (wfR HXR.out)) (.lit (.int .i64 (Φ (V k)))) [] (by rw [HDV.out]; rfl) ?_
                  intro w4 hown4 hgrow4
                  have HST := Lib.hid (StP.nextM H5.out.drew HYK.out HD.out.isMap HTD.out HTX.out hown4 hgrow4)
                  clear hown4 hgrow4
                  go_wp2_with fail
                  refine wp_goto ?_
                  refine ⟨rfl, ⟨_, _, _, _, _, _, _, _, _, _, _, _, _, _, _, _, _, _, _, _, _, _, _, _, _, _, _, _, _, _, _, _, _, _, _, _, _, _, _, _, _, _, _, _, _, _, _, _, _, _, _, _, _, _, _, _, _, _, _, _, _, _, _, _, _, _, g, rfl, K ++ [x], Y ++ [(k : Int)], _, mb, m + 1, HST.out, by rw [List.length_append, List.length_singleton]; omega, HK2.out, by rw [List.length_append, List.length_append, HYK.out]; rfl, by rw [List.length_append]; omega, ?_⟩, ?_⟩
                  · rw [List.length_append, List.length_singleton, HF.out]; exact HR3.out
                  · show lenAt (.pointer (some ⟨g, 0, none⟩)) _ < lenAt (.pointer (some ⟨g, 0, none⟩)) _
                    rw [HMU.out, lenAt_of HST.out.cells.1]; omega
            · have HBR2 : Hid (∀ j, j < k + 1 → un K (C.getD j []) = false) := Lib.hid fun j hj => by
                by_cases e : j = k
                · subst e; unfold un; rw [HZ.out, decide_eq_false z]; rfl
                · exact HBR.out j (by omega)
              obtain ⟨ra, rc, rfl⟩ := SI.len (d := (0 : Int)) (Grows.si g6)
              have z' : ((Z.length : Int) == 1) = false := by rw [beq_eq_false_iff_ne]; omega
              clear g6
              go_wp2_with fail
              go_quiet (fail)
              go_wp2_with fail
              go_roundg (gk - 1)
              case measure => omega
              case rel => exact ⟨k + 1, by omega, by omega, by go_num, HBR2.out, below_drewN HB6.out _⟩
          · obtain rfl : k = C.length := by omega
            have HFU : Hid (fu K C = none) := Lib.hid (fstP_none HBR.out)
            have HR : Hid ((K, Y, -1) = R) := Lib.hid (by rw [← HR2.out, uK_end HFB.out HFU.out])
            have SA := Lib.hid (HS.out.keep HB.out)
            have hgA := SA.out.lt
            have hge := SA.out.ge
            have hge2 : w.heap.size < g := by omega
            obtain ⟨⟨v0, r0⟩, ⟨v1, r1⟩, ⟨v2, r2⟩, ⟨v3, r3⟩, rf⟩ := HR4.out.keep SA.out.below (by omega)
            have rf0 := rf 0
            have rf1 := rf 1
            have rf2 := rf 2
            have rf3 := rf 3
            obtain ⟨d0, d1, d2, d3, df⟩ := SA.out.cells
            have hne : ¬ w.heap.size = g := by omega
            have hne2 : ¬ g = w.heap.size := by omega
            clear rf df
            go_wp2_with fail
            simp only [Exit.jump]
            refine bodyPost_ret (v := .agg #[.slice ka K.length kc, .map (some mb), .slice none 0 0, .bool false]) (by simp [results, Try.results52, r0, r1, r2, r3, go_sem]) rfl ?_
            generalize hX : World.setCell _ _ _ = X
            have hT : Turned w.heap.size (w.heap.size + 1) wr X := by
              rw [← hX]
              iterate 4 (refine Turned.setCell ?_ (by simp) (by simp) _)
              exact Turned.refl _ _ _
            clear hX
            exact unitsP_end HW0.out HΦ.out HVI.out SA.out hT HR.out (by decide) (fun h => by omega)
end Go.Proofs.Ytnakpfbeeekmiaa
/- The first place of a list at which something holds. -/
namespace Go.Proofs.Ytnakpfbeeekmiaa
open Go.RowKit Go.ChangeShapes Go.WideShapes

structure FirstAt (p : Int → Bool) (Z : List Int) (k : Nat) : Prop where
  lt : k < Z.length
  yes : p (Z.getD k 0) = true
  no : ∀ j, j < k → p (Z.getD j 0) = false
def NoneAt (p : Int → Bool) (Z : List Int) : Prop := ∀ j, j < Z.length → p (Z.getD j 0) = false
def anyZ (p : Int → Bool) (Z : List Int) : Bool := (List.range Z.length).any fun i => p (Z.getD i 0)
theorem FirstAt.any {p : Int → Bool} {Z : List Int} {k : Nat} (h : FirstAt p Z k) : anyZ p Z = true := by
  unfold anyZ
  rw [List.any_eq_true]
  exact ⟨k, List.mem_range.2 h.lt, h.yes⟩
theorem anyZ_none {p : Int → Bool} {Z : List Int} (h : NoneAt p Z) : anyZ p Z = false := by
  unfold anyZ
  rw [List.any_eq_false]
  exact fun i hi => by rw [h i (List.mem_range.1 hi)]; simp
/-- The first place, or -1. -/
def FirstI (p : Int → Bool) (Z : List Int) (w : World) (e : Ending) (w' : World) : Prop := ((∃ k : Nat, FirstAt p Z k ∧ e = .returned (.int .i64 k)) ∨ (NoneAt p Z ∧ e = .returned (.int .i64 (-1)))) ∧ Below w.heap.size w w'
end Go.Proofs.Ytnakpfbeeekmiaa
/- Forms with given literals (plain). -/
namespace Go.Proofs.Ytnakpfbeeekmiaa

/-- One of a clause's literals is given. -/
def hasG (G c : List Int) : Bool := anyZ (inS G) c
/-- What is left of the first k clauses. -/
def gvK (G : List Int) (C : List (List Int)) : Nat → List (List Int)
  | 0 => []
  | k + 1 => if hasG G (C.getD k []) then gvK G C k else gvK G C k ++ [rst G (C.getD k [])]
theorem gvK_yes {G : List Int} {C : List (List Int)} {k : Nat} (h : hasG G (C.getD k []) = true) : gvK G C (k + 1) = gvK G C k := by rw [gvK, if_pos h]
theorem gvK_no {G : List Int} {C : List (List Int)} {k : Nat} (h : hasG G (C.getD k []) = false) : gvK G C (k + 1) = gvK G C k ++ [rst G (C.getD k [])] := by rw [gvK, h]; rfl
theorem gvK_few (G : List Int) (C : List (List Int)) : ∀ k, (gvK G C k).length ≤ k
  | 0 => Nat.le_refl _
  | k + 1 => by
    have := gvK_few G C k
    unfold gvK
    split
    · omega
    · simp; omega
theorem gvK_short {G : List Int} {C : List (List Int)} {m : Nat} (h : ∀ k, k < C.length → (C.getD k []).length ≤ m) : ∀ k, k ≤ C.length → ∀ i, i < (gvK G C k).length → ((gvK G C k).getD i []).length ≤ m
  | 0, _, i, hi => by simp [gvK] at hi
  | k + 1, hk, i, hi => by
    have ih := gvK_short (G := G) h k (by omega)
    cases q : hasG G (C.getD k []) with
    | true => rw [gvK_yes q] at hi ⊢; exact ih i hi
    | false =>
      rw [gvK_no q] at hi ⊢
      simp only [List.length_append, List.length_singleton] at hi
      by_cases e : i = (gvK G C k).length
      · have : (gvK G C k ++ [rst G (C.getD k [])]).getD i [] = rst G (C.getD k []) := by rw [e]; simp [List.getD]
        rw [this]; exact Nat.le_trans (rst_len _ _) (h k (by omega))
      · have : (gvK G C k ++ [rst G (C.getD k [])]).getD i [] = (gvK G C k).getD i [] := by simp [List.getD, List.getElem?_append_left (show i < (gvK G C k).length by omega)]
        rw [this]; exact ih i (by omega)
def givB (F : Fm) (G : List Int) : Bool := formB F && litsB F.letters G
def gvF (F : Fm) (G : List Int) : Fm := if givB F G then ⟨F.letters, gvK G F.cs F.cs.length⟩ else ⟨0, []⟩
theorem gvF_no {F : Fm} {G : List Int} (h : givB F G = false) : gvF F G = ⟨0, []⟩ := by unfold gvF; rw [h]; rfl
theorem gvF_yes {F : Fm} {G : List Int} (h : givB F G = true) : gvF F G = ⟨F.letters, gvK G F.cs F.cs.length⟩ := by unfold gvF; rw [if_pos h]
theorem tot_few10 {C : List (List Int)} (h : ∀ i, i < C.length → (C.getD i []).length ≤ 10) : ∀ k, k ≤ C.length → totAt C k ≤ 10 * k
  | 0, _ => Nat.le_refl _
  | k + 1, hk => by
    have ih := tot_few10 h k (by omega)
    have := h k (by omega)
    show totAt C k + (C.getD k []).length ≤ _
    omega
theorem cl_short {F : Fm} (h : FormOk F) : ∀ k, k < F.cs.length → (F.cs.getD k []).length ≤ 10 := fun k hk => by have := (h.cl k hk).len; have := h.n2; omega
theorem gvF_len (F : Fm) (G : List Int) : szL (gvF F G).cs ≤ 1048576 := by
  unfold gvF
  split
  · rename_i h
    unfold givB at h
    rw [Bool.and_eq_true] at h
    have hc := formB_ok h.1
    have h1 := gvK_few G F.cs F.cs.length
    have h2 := hc.few
    have h3 := tot_few10 (C := gvK G F.cs F.cs.length) (gvK_short (cl_short hc) _ (Nat.le_refl _)) _ (Nat.le_refl _)
    show szL (gvK G F.cs F.cs.length) ≤ _
    unfold szL
    omega
  · simp [szL, totAt]
theorem cl_range {n : Int} {c : List Int} (h : ClOk n c) : ∀ i, i < c.length → -10 ≤ c.getD i 0 ∧ c.getD i 0 ≤ 10 := fun i hi => by
  have h1 := h.a i hi
  have h2 := h.n2
  unfold ltr at h1
  split at h1 <;> omega
end Go.Proofs.Ytnakpfbeeekmiaa
/- slices.SortFunc laid at this program: its code is the shelf's own, number by number. -/
namespace Go.Proofs.Ytnakpfbeeekmiaa
open Go.Shelf
def Try.sortF_ren : Go.Shelf.Ren := ⟨fun | 6 => 117 | 15 => 131 | 14 => 130 | 28 => 147 | 29 => 148 | 20 => 139 | 21 => 140 | 22 => 141 | 23 => 142 | 24 => 143 | 25 => 144 | 26 => 145 | 27 => 146 | 46 => 159 | 47 => 160 | 48 => 161 | 49 => 162 | 50 => 163 | 57 => 167 | n => n, fun | 22 => 25 | 24 => 2 | 25 => 124 | 3 => 3 | 39 => 129 | 0 => 0 | 53 => 146 | 55 => 118 | 4 => 4 | 46 => 139 | 45 => 138 | 50 => 143 | 5 => 5 | 9 => 9 | 66 => 152 | 70 => 156 | 76 => 160 | 77 => 161 | n => n, fun | n => n⟩
theorem Try.sortF : Go.Proofs.SlLaysF.n6 Try.prog Try.sortF_ren := {
  mixed := by kernel_rfl
  f6 := ⟨Try.f117.name, by decide, Try.func117.trans (congrArg some (by kernel_rfl))⟩
  f14 := ⟨Try.f130.name, by decide, Try.func130.trans (congrArg some (by kernel_rfl))⟩
  f15 := Try.func131.trans (congrArg some (by kernel_rfl))
  f20 := ⟨Try.f139.name, by decide, Try.func139.trans (congrArg some (by kernel_rfl))⟩
  f21 := ⟨Try.f140.name, by decide, Try.func140.trans (congrArg some (by kernel_rfl))⟩
  f22 := ⟨Try.f141.name, by decide, Try.func141.trans (congrArg some (by kernel_rfl))⟩
  f23 := ⟨Try.f142.name, by decide, Try.func142.trans (congrArg some (by kernel_rfl))⟩
  f24 := ⟨Try.f143.name, by decide, Try.func143.trans (congrArg some (by kernel_rfl))⟩
  f25 := ⟨Try.f144.name, by decide, Try.func144.trans (congrArg some (by kernel_rfl))⟩
  f26 := ⟨Try.f145.name, by decide, Try.func145.trans (congrArg some (by kernel_rfl))⟩
  f27 := ⟨Try.f146.name, by decide, Try.func146.trans (congrArg some (by kernel_rfl))⟩
  f28 := Try.func147.trans (congrArg some (by kernel_rfl))
  f29 := Try.func148.trans (congrArg some (by kernel_rfl))
  f46 := ⟨Try.f159.name, by decide, Try.func159.trans (congrArg some (by kernel_rfl))⟩
  f47 := Try.func160.trans (congrArg some (by kernel_rfl))
  f48 := Try.func161.trans (congrArg some (by kernel_rfl))
  f49 := ⟨Try.f162.name, by decide, Try.func162.trans (congrArg some (by kernel_rfl))⟩
  f50 := ⟨Try.f163.name, by decide, Try.func163.trans (congrArg some (by kernel_rfl))⟩
  f57 := ⟨Try.f167.name, by decide, Try.func167.trans (congrArg some (by kernel_rfl))⟩
  t0 := Try.underlying0
  a0 := Try.isAgg0
  z0 := Try.sizeOf0
  v0 := Try.zeroValue0
  t3 := Try.underlying3
  a3 := Try.isAgg3
  z3 := Try.sizeOf3
  v3 := Try.zeroValue3
  t4 := Try.underlying4
  a4 := Try.isAgg4
  z4 := Try.sizeOf4
  v4 := Try.zeroValue4
  t5 := Try.underlying5
  a5 := Try.isAgg5
  z5 := Try.sizeOf5
  v5 := Try.zeroValue5
  t9 := Try.underlying9
  a9 := Try.isAgg9
  z9 := Try.sizeOf9
  v9 := Try.zeroValue9
  t22 := Try.underlying25
  a22 := Try.isAgg25
  z22 := Try.sizeOf25
  v22 := Try.zeroValue25
  a24 := Try.isAgg2
  z24 := Try.sizeOf2
  t25 := Try.underlying124
  a25 := Try.isAgg124
  z25 := Try.sizeOf124
  v25 := Try.zeroValue124
  t39 := Try.underlying129
  a39 := Try.isAgg129
  z39 := Try.sizeOf129
  v39 := Try.zeroValue129
  t45 := Try.underlying138
  a45 := Try.isAgg138
  z45 := Try.sizeOf138
  v45 := Try.zeroValue138
  t46 := Try.underlying139
  a46 := Try.isAgg139
  z46 := Try.sizeOf139
  v46 := Try.zeroValue139
  t50 := Try.underlying143
  a50 := Try.isAgg143
  z50 := Try.sizeOf143
  v50 := Try.zeroValue143
  t53 := Try.underlying146
  a53 := Try.isAgg146
  z53 := Try.sizeOf146
  v53 := Try.zeroValue146
  t55 := Try.underlying118
  a55 := Try.isAgg118
  z55 := Try.sizeOf118
  v55 := Try.zeroValue118
  t66 := Try.underlying152
  a66 := Try.isAgg152
  z66 := Try.sizeOf152
  v66 := Try.zeroValue152
  t70 := Try.underlying156
  a70 := Try.isAgg156
  z70 := Try.sizeOf156
  v70 := Try.zeroValue156
  t76 := Try.underlying160
  a76 := Try.isAgg160
  z76 := Try.sizeOf160
  v76 := Try.zeroValue160
  t77 := Try.underlying161
  a77 := Try.isAgg161
  z77 := Try.sizeOf161
  v77 := Try.zeroValue161 }
end Go.Proofs.Ytnakpfbeeekmiaa
/- Clones of lists of integers; lists that grow, kept over calls. -/
namespace Go.Proofs.Ytnakpfbeeekmiaa
open Go.RowKit Go.ChangeShapes Go.WideShapes

set_option maxHeartbeats 1000000 in
theorem cloneI_any (v : Value) (Z : List Int) (w : World) (hv : IL w v Z) (hn : Z.length ≤ 1048576) :
    Calls Try.prog 76 #[v] w (Made (Value.int .i64) (0 : Int) Z w) := by
  obtain ⟨i0, hi, hz0, hz1, hz2⟩ := info_parts Try.infoI
  rcases hv.lies with ⟨rfl, cap, rfl⟩ | ⟨ad, cap, rfl, hl⟩
  · have hnil := fun (W : World) => Lib.run_eql_slice_nil (P := Try.prog) W 25 2 none 0 cap 0 0 Try.underlying25
    clear hv
    go_enter Try.func76, Try.ntmps76
    go_wp2_with fail
    refine bodyPost_ret (results_tmp rfl _ _ _) rfl ?_
    exact ⟨_, rfl, SI.nil _ (Nat.le_refl _) _ _, Below.refl _ _⟩
  · have HL := Lib.hid hl
    clear hv hl
    have hnil := fun (W : World) => Lib.run_eql_slice_nil (P := Try.prog) W 25 2 (some ad) Z.length cap 0 0 Try.underlying25
    go_enter Try.func76, Try.ntmps76
    go_wp2_with (at_builtin; refine wpList_append_own _ rfl _ _ 25 rfl w.heap.size 2 i0 (.int .i64 0) 1 8 Try.underlying25 hi hz0 hz1 hz2 rfl (by decide) _ _ _ rfl (Grows.empty (Value.int .i64) _ _ w (Nat.le_refl _)) ad Z.length cap (Z.map (Value.int .i64)) rfl (by simp) ?c1 ?c2 ?c3 ?c4 ?c5 ?_)
    case c1 => exact HL.out _
    case c2 => exact map_oneI Z
    case c3 => simp; unfold maxLen; omega
    case c4 => simp; omega
    case c5 => simp
    intro v' w' hown hgrow _
    have HN : Hid (Grows (Value.int .i64) 2 w.heap.size v' Z w') := Lib.hid (by have h := hown; show World.ownsRow _ _ _ _ _ _ _; simpa using h)
    have HB := Lib.hid ((below_alloc w _).grown hgrow (by simp) (fun k hk => by simp [Value.ownBlock] at hk; omega))
    clear hown hgrow
    go_wp2_with fail
    refine bodyPost_ret (results_tmp rfl _ _ _) rfl ?_
    exact ⟨_, rfl, HN.out.si, HB.out⟩
end Go.Proofs.Ytnakpfbeeekmiaa
/- Rows of which the part behind r is new, and the part ahead of it old (plain). -/
namespace Go.Proofs.Ytnakpfbeeekmiaa

def mix (f g : Nat → Int) (n r : Nat) : List Int := (List.range n).map fun x => if r ≤ x then f x else g x
def allF (f : Nat → Int) (n : Nat) : List Int := (List.range n).map f
theorem mix_len (f g : Nat → Int) (n r : Nat) : (mix f g n r).length = n := by simp [mix]
theorem allF_len (f : Nat → Int) (n : Nat) : (allF f n).length = n := by simp [allF]
theorem mix_at {f g : Nat → Int} {n r x : Nat} (h : x < n) : (mix f g n r).getD x 0 = if r ≤ x then f x else g x := by simp [mix, List.getD, h]
theorem mix_old {f g : Nat → Int} {n r x : Nat} (h : x < n) (hr : x < r) : (mix f g n r).getD x 0 = g x := by rw [mix_at h, if_neg (by omega)]
theorem allF_at {f : Nat → Int} {n x : Nat} (h : x < n) : (allF f n).getD x 0 = f x := by simp [allF, List.getD, h]
theorem mix_start (f g : Nat → Int) (n : Nat) : mix f g n n = allF g n := by
  unfold mix allF
  refine List.map_congr_left fun x hx => ?_
  rw [if_neg (by have := List.mem_range.1 hx; omega)]
theorem mix_done {f g : Nat → Int} {n r : Nat} (h : ∀ x, x < r → f x = g x) : mix f g n r = allF f n := by
  unfold mix allF
  refine List.map_congr_left fun x _ => ?_
  split
  · rfl
  · exact (h x (by omega)).symm
theorem mix_set {f g : Nat → Int} {n r : Nat} : (mix f g n (r + 1)).set r (f r) = mix f g n r := by
  refine List.ext_getElem (by simp [mix]) fun i h1 h2 => ?_
  rw [List.getElem_set]
  simp only [mix, List.getElem_map, List.getElem_range]
  by_cases e : r = i
  · subst e; simp
  · rw [if_neg e]
    by_cases e2 : r ≤ i
    · rw [if_pos (by omega), if_pos e2]
    · rw [if_neg (by omega), if_neg e2]
theorem mix_up {f g : Nat → Int} {n r : Nat} : (mix f g n r).set r (g r) = mix f g n (r + 1) := by
  refine List.ext_getElem (by simp [mix]) fun i h1 h2 => ?_
  rw [List.getElem_set]
  simp only [mix, List.getElem_map, List.getElem_range]
  by_cases e : r = i
  · subst e; rw [if_pos rfl, if_neg (by omega)]
  · rw [if_neg e]
    by_cases e2 : r ≤ i
    · rw [if_pos e2, if_pos (by omega)]
    · rw [if_neg e2, if_neg (by omega)]
theorem mix_end {f g : Nat → Int} {n r : Nat} (h : n ≤ r) : mix f g n r = allF g n := by
  unfold mix allF
  refine List.map_congr_left fun x hx => ?_
  rw [if_neg (by have := List.mem_range.1 hx; omega)]
theorem mix_new {f g : Nat → Int} {n r x : Nat} (h : x < n) (hr : r ≤ x) : (mix f g n r).getD x 0 = f x := by rw [mix_at h, if_pos hr]
theorem rep_allF {f : Nat → Int} {n : Nat} {z : Int} (h : ∀ x, x < n → f x = z) : List.replicate n z = allF f n := by
  refine List.ext_getElem (by simp [allF]) fun i h1 h2 => ?_
  rw [List.length_replicate] at h1
  simp [allF, h i h1]
theorem allF_congr {f g : Nat → Int} {n : Nat} (h : ∀ x, x < n → f x = g x) : allF f n = allF g n := by
  unfold allF
  exact List.map_congr_left fun x hx => h x (List.mem_range.1 hx)
/-- The first row of ways to fill: one way to fill nothing. -/
theorem fill0 (S : List Int) (n : Nat) : (List.replicate (n + 1) (0 : Int)).set 0 1 = allF (fillW S 0) (n + 1) := by
  refine List.ext_getElem (by simp [allF]) fun i h1 h2 => ?_
  rw [List.getElem_set]
  simp only [allF, List.getElem_map, List.getElem_range, List.getElem_replicate, fillW]
  by_cases e : i = 0
  · subst e; simp
  · rw [if_neg (fun h => e h.symm), if_neg e]
theorem fill_yes {S : List Int} {i r s : Nat} (hs : S.getD i 0 = (s : Int)) (h : s ≤ r) : fillW S (i + 1) r = fillW S i r + fillW S i (r - s) := by
  show (if (S.getD i 0).toNat ≤ r then _ else _) = _
  rw [hs, Int.toNat_natCast, if_pos h]
theorem fill_no {S : List Int} {i r s : Nat} (hs : S.getD i 0 = (s : Int)) (h : r < s) : fillW S (i + 1) r = fillW S i r := by
  show (if (S.getD i 0).toNat ≤ r then _ else _) = _
  rw [hs, Int.toNat_natCast, if_neg (by omega)]
theorem best_yes {S G : List Int} {i r s : Nat} (hs : S.getD i 0 = (s : Int)) (h : s ≤ r) : bestG S G (i + 1) r = max (bestG S G i r) (bestG S G i (r - s) + G.getD i 0) := by
  show (if (S.getD i 0).toNat ≤ r then max (bestG S G i r) (bestG S G i (r - (S.getD i 0).toNat) + G.getD i 0) else _) = _
  rw [hs, Int.toNat_natCast, if_pos h]
theorem best_no {S G : List Int} {i r s : Nat} (hs : S.getD i 0 = (s : Int)) (h : r < s) : bestG S G (i + 1) r = bestG S G i r := by
  show (if (S.getD i 0).toNat ≤ r then _ else _) = _
  rw [hs, Int.toNat_natCast, if_neg (by omega)]
theorem nat_of {x : Int} (h : 0 ≤ x) : ∃ s : Nat, x = (s : Int) := ⟨x.toNat, by omega⟩
/-- The answers of WaysToFill. -/
def fillB (S : List Int) (r : Int) : Bool := sizesB S && inB r 0 1000
def fillI (S : List Int) (r : Int) : Int := if fillB S r then fillW S S.length r.toNat else 0
def gainL (S G : List Int) (r : Int) : List Int := if canB S G r then allF (bestG S G S.length) (r.toNat + 1) else []
theorem gainL_len {S G : List Int} {r : Int} : (gainL S G r).length ≤ 1048576 := by
  unfold gainL
  split
  · rename_i h
    have := (canB_ok h).r1
    rw [allF_len]; omega
  · simp
end Go.Proofs.Ytnakpfbeeekmiaa
/- The numbers below a number, as the program makes them. -/
namespace Go.Proofs.Ytnakpfbeeekmiaa
open Go.RowKit Go.ChangeShapes Go.WideShapes

def numL (n : Nat) : List Int := allF (fun i => (i : Int)) n
theorem numL_len (n : Nat) : (numL n).length = n := allF_len _ _
theorem numL_up (n : Nat) : numL (n + 1) = numL n ++ [(n : Int)] := by unfold numL allF; rw [List.range_succ, List.map_append]; rfl
set_option maxRecDepth 100000 in
set_option maxHeartbeats 4000000 in
theorem numbersBelow_any (n : Nat) (w : World) (hn : n ≤ 1000) :
    Calls Try.prog 89 #[.int .i64 n] w (Made (Value.int .i64) (0 : Int) (numL n) w) := by
  obtain ⟨i0, hi, hz0, hz1, hz2⟩ := info_parts Try.infoI
  go_enter Try.func89, Try.ntmps89
  go_wp2_with fail
  go_loopg [3, 6] n (fun gk v i wr => ∃ k : Nat, k ≤ n ∧ gk + k = n ∧ i = .int .i64 k ∧ Below w.heap.size w wr ∧ Grows (Value.int .i64) 2 w.heap.size v (numL k) wr)
  case atStart => exact ⟨0, Nat.zero_le _, by omega, rfl, Below.refl _ _, Grows.nil _ _ _ _⟩
  case round =>
    obtain ⟨k, hk, hgk, rfl, hB, hG⟩ := hrel
    have HB := Lib.hid hB
    have HG := Lib.hid hG
    have HML := Lib.hid (numL_len k)
    have HUP := Lib.hid (numL_up k)
    clear hB hG
    by_cases hlt : k < n
    · go_wp2_with (at_builtin; refine wpList_append_own _ rfl _ _ 25 rfl w.heap.size 2 i0 (.int .i64 0) 1 8 Try.underlying25 hi hz0 hz1 hz2 rfl (by decide) _ _ _ rfl (Grows.alloc HG.out _) ⟨wr.heap.size, 0, none⟩ 1 1 [.int .i64 (k : Int)] rfl rfl ?c1 ?c2 ?c3 ?c4 ?c5 ?_)
      case c1 => exact one_new
      case c2 => intro u hu; simp at hu; subst hu; rfl
      case c3 => rw [HML.out]; unfold maxLen; omega
      case c4 => rw [HML.out]; omega
      case c5 => have := HB.out.size; simp; omega
      intro v' w' hown hgrow _
      have HN2 : Hid (Below w.heap.size w w' ∧ Grows (Value.int .i64) 2 w.heap.size v' (numL (k + 1)) w') := Lib.hid ⟨(HB.out.alloc HB.out.size _).grown hgrow (by have := HB.out.size; simp; omega) (fun g hg => HG.out.block g hg), by rw [HUP.out]; exact Grows.more (news := [(k : Int)]) rfl hown⟩
      clear hown hgrow
      go_wp2_with fail
      go_roundg (gk - 1)
      case measure => omega
      case rel => exact ⟨k + 1, by omega, by omega, by go_num, HN2.out.1, HN2.out.2⟩
    · obtain rfl : k = n := by omega
      go_wp2_with fail
      refine bodyPost_ret (results_tmp rfl _ _ _) rfl ?_
      exact ⟨_, rfl, HG.out.si, HB.out⟩
end Go.Proofs.Ytnakpfbeeekmiaa
/- A list of indices, put in order by insertion: equal ones stay as they are (plain). -/
namespace Go.Proofs.Ytnakpfbeeekmiaa
open Go.Sort

def swN (Y : List Nat) (j : Nat) : List Nat := (Y.set j (Y.getD (j - 1) 0)).set (j - 1) (Y.getD j 0)
theorem swN_len (Y : List Nat) (j : Nat) : (swN Y j).length = Y.length := by simp [swN]
theorem swN_perm {Y : List Nat} {j : Nat} (h : j < Y.length) : (swN Y j).Perm Y := by
  unfold swN
  have h1 : j - 1 < Y.length := by omega
  rw [show Y.getD (j - 1) 0 = Y[j - 1] by simp [List.getD, h1], show Y.getD j 0 = Y[j] by simp [List.getD, h]]
  exact List.set_set_perm h h1
theorem swN_at {Y : List Nat} {j i : Nat} (h0 : 0 < j) (h : j < Y.length) : (swN Y j).getD i 0 = if i = j - 1 then Y.getD j 0 else if i = j then Y.getD (j - 1) 0 else Y.getD i 0 := by
  unfold swN
  simp only [List.getD, List.getElem?_set, List.length_set]
  by_cases e1 : i = j - 1
  · rw [if_pos e1.symm, if_pos (by omega), if_pos e1]; rfl
  · rw [if_neg (fun e => e1 e.symm), if_neg e1]
    by_cases e2 : i = j
    · rw [if_pos e2.symm, if_pos h, if_pos e2]; rfl
    · rw [if_neg (fun e => e2 e.symm), if_neg e2]
/-- The number at j goes down as far as it is less than those below it. -/
def insI (lt : Nat → Nat → Bool) : Nat → List Nat → List Nat
  | 0, Y => Y
  | j + 1, Y => if lt (Y.getD (j + 1) 0) (Y.getD j 0) then insI lt j (swN Y (j + 1)) else Y
theorem insI_yes {lt : Nat → Nat → Bool} {j : Nat} {Y : List Nat} (h : lt (Y.getD (j + 1) 0) (Y.getD j 0) = true) : insI lt (j + 1) Y = insI lt j (swN Y (j + 1)) := by
  show (if lt (Y.getD (j + 1) 0) (Y.getD j 0) then _ else _) = _
  rw [if_pos h]
theorem insI_no {lt : Nat → Nat → Bool} {j : Nat} {Y : List Nat} (h : lt (Y.getD (j + 1) 0) (Y.getD j 0) = false) : insI lt (j + 1) Y = Y := by
  show (if lt (Y.getD (j + 1) 0) (Y.getD j 0) then _ else _) = _
  rw [h]; rfl
theorem insI_len (lt : Nat → Nat → Bool) : ∀ j Y, (insI lt j Y).length = Y.length
  | 0, _ => rfl
  | j + 1, Y => by
    unfold insI
    split
    · rw [insI_len lt j, swN_len]
    · rfl
theorem insI_perm (lt : Nat → Nat → Bool) : ∀ j Y, j < Y.length → (insI lt j Y).Perm Y
  | 0, _, _ => List.Perm.refl _
  | j + 1, Y, h => by
    unfold insI
    split
    · exact (insI_perm lt j _ (by rw [swN_len]; omega)).trans (swN_perm h)
    · exact List.Perm.refl _
theorem insI_tail (lt : Nat → Nat → Bool) : ∀ j Y i, j < Y.length → j < i → (insI lt j Y).getD i 0 = Y.getD i 0
  | 0, _, _, _, _ => rfl
  | j + 1, Y, i, h, hi => by
    unfold insI
    split
    · rw [insI_tail lt j _ i (by rw [swN_len]; omega) (by omega), swN_at (by omega) h, if_neg (by omega), if_neg (by omega)]
    · rfl
/-- The first i indices in order, the others behind them. -/
def insS (lt : Nat → Nat → Bool) (n : Nat) : Nat → List Nat
  | 0 => List.range n
  | i + 1 => insI lt i (insS lt n i)
theorem insS_len (lt : Nat → Nat → Bool) (n : Nat) : ∀ i, (insS lt n i).length = n
  | 0 => by simp [insS]
  | i + 1 => by unfold insS; rw [insI_len, insS_len lt n i]
theorem insS_perm (lt : Nat → Nat → Bool) (n : Nat) : ∀ i, i ≤ n → (insS lt n i).Perm (List.range n)
  | 0, _ => List.Perm.refl _
  | i + 1, h => (insI_perm lt i _ (by rw [insS_len]; omega)).trans (insS_perm lt n i (by omega))
theorem insS_tail (lt : Nat → Nat → Bool) (n : Nat) : ∀ i k, i ≤ n → i ≤ k → k < n → (insS lt n i).getD k 0 = k
  | 0, k, _, _, hk => by simp [insS, List.getD, hk]
  | i + 1, k, hi, hk, hn => by
    unfold insS
    rw [insI_tail lt i _ k (by rw [insS_len]; omega) (by omega), insS_tail lt n i k (by omega) (by omega) hn]
theorem insS_lt (lt : Nat → Nat → Bool) {n i k : Nat} (hi : i ≤ n) (hk : k < n) : (insS lt n i).getD k 0 < n := by
  have hp := insS_perm lt n i hi
  have hl := insS_len lt n i
  have hm : (insS lt n i).getD k 0 ∈ insS lt n i := by
    have e : (insS lt n i).getD k 0 = (insS lt n i)[k]'(by omega) := by simp [List.getD, hl, hk]
    rw [e]; exact List.getElem_mem _
  exact List.mem_range.1 (hp.mem_iff.1 hm)
/-- All indices in order. -/
def ordN (lt : Nat → Nat → Bool) (n : Nat) : List Nat := insS lt n n
def intsN (Y : List Nat) : List Int := Y.map fun (x : Nat) => ((x : Nat) : Int)
theorem intsN_len (Y : List Nat) : (intsN Y).length = Y.length := by simp [intsN]
theorem intsN_at {Y : List Nat} {i : Nat} (h : i < Y.length) : (intsN Y).getD i 0 = ((Y.getD i 0 : Nat) : Int) := by simp [intsN, List.getD, h]
theorem ordN_len (lt : Nat → Nat → Bool) (n : Nat) : (ordN lt n).length = n := insS_len lt n n
theorem ordN_lt (lt : Nat → Nat → Bool) {n k : Nat} (hk : k < n) : (ordN lt n).getD k 0 < n := insS_lt lt (Nat.le_refl n) hk

/-- The library's insertion of an array of indices is that of the list. -/
def valL {n : Nat} (d : Array (Fin n)) : List Nat := d.toList.map Fin.val
theorem valL_len {n : Nat} (d : Array (Fin n)) : (valL d).length = d.size := by simp [valL]
def finA (n : Nat) : Array (Fin n) := (List.finRange n).toArray
theorem finA_size (n : Nat) : (finA n).size = n := by simp [finA]
theorem valL_finA {n : Nat} : valL (finA n) = List.range n := by
  refine List.ext_getElem (by simp [valL, finA]) fun i h1 h2 => ?_
  simp [valL, finA]
section
variable {n : Nat} [Inhabited (Fin n)]
theorem valL_at {d : Array (Fin n)} {i : Nat} (h : i < d.size) : (valL d).getD i 0 = (d[i]!).val := by
  rw [getElem!_pos d i h]
  simp [valL, List.getD, h]
theorem valL_swp {d : Array (Fin n)} {j : Nat} (h : j + 1 < d.size) : valL (swp d (j + 1) j) = swN (valL d) (j + 1) := by
  unfold swN
  rw [valL_at h, valL_at (by omega : j + 1 - 1 < d.size)]
  unfold valL swp
  simp [List.map_set]
theorem valL_ins (lt : Nat → Nat → Bool) (ltF : Fin n → Fin n → Bool) (h : ∀ x y, ltF x y = lt x.val y.val) : ∀ j (d : Array (Fin n)), j < d.size → valL (insInner ltF 0 j d) = insI lt j (valL d)
  | 0, _, _ => rfl
  | j + 1, d, hj => by
    unfold insInner insI
    rw [valL_at hj, valL_at (by omega : j < d.size), h]
    by_cases c : lt (d[j + 1]!).val (d[j]!).val = true
    · rw [if_pos c, if_pos (by simp [c]), valL_ins lt ltF h j _ (by simp [swp]; omega), valL_swp hj]
    · rw [if_neg c, if_neg (by simp [c])]
theorem insInner_size (ltF : Fin n → Fin n → Bool) : ∀ j (d : Array (Fin n)), (insInner ltF 0 j d).size = d.size
  | 0, _ => rfl
  | j + 1, d => by
    unfold insInner
    split
    · rw [insInner_size ltF j]; simp [swp]
    · rfl
theorem valL_outer (lt : Nat → Nat → Bool) (ltF : Fin n → Fin n → Bool) (h : ∀ x y, ltF x y = lt x.val y.val) : ∀ m i (d : Array (Fin n)), d.size = n → i + m = n → valL d = insS lt n i → valL (insOuter ltF 0 n i d) = insS lt n n
  | 0, i, d, _, hi, hd => by
    obtain rfl : i = n := by omega
    rw [insOuter, if_neg (Nat.lt_irrefl _), hd]
  | m + 1, i, d, hs, hi, hd => by
    rw [insOuter, if_pos (by omega)]
    refine valL_outer lt ltF h m (i + 1) _ (by rw [insInner_size, hs]) (by omega) ?_
    rw [valL_ins lt ltF h i d (by omega), hd]
    rfl
theorem valL_sort (lt : Nat → Nat → Bool) (ltF : Fin n → Fin n → Bool) (h : ∀ x y, ltF x y = lt x.val y.val) (hn : 1 ≤ n) : valL (insertionSort ltF (finA n) 0 n) = ordN lt n := by
  unfold insertionSort ordN
  exact valL_outer lt ltF h (n - 1) 1 (finA n) (finA_size n) (by omega) (by rw [valL_finA]; rfl)
end
end Go.Proofs.Ytnakpfbeeekmiaa
/- Orders by keys (plain). -/
namespace Go.Proofs.Ytnakpfbeeekmiaa

/-- By keys, the least one first. -/
def ltK (K : Nat → Int) (x y : Nat) : Bool := decide (K x < K y)
/-- What cmp.Compare tells. -/
def cmpI (a b : Int) : Int := if a < b then -1 else if b < a then 1 else 0
theorem cmpI_neg (a b : Int) : decide (cmpI a b < 0) = decide (a < b) := by
  unfold cmpI
  by_cases h : a < b
  · simp [h]
  · by_cases h2 : b < a <;> simp [h, h2]
theorem swN_take (Y : List Nat) (j k : Nat) :
    (((intsN (Y.take k)).map (Value.int .i64)).set j (.int .i64 ((Y.getD (j - 1) 0 : Nat) : Int))).set (j - 1) (.int .i64 ((Y.getD j 0 : Nat) : Int)) = (intsN ((swN Y j).take k)).map (Value.int .i64) := by
  unfold swN intsN
  rw [List.take_set, List.take_set, List.map_set, List.map_set, List.map_set, List.map_set]
theorem ordN_congr {lt lt' : Nat → Nat → Bool} {n : Nat} (h : ∀ x y, x < n → y < n → lt x y = lt' x y) : ordN lt n = ordN lt' n := by
  have ins : ∀ j (Y : List Nat), j < Y.length → (∀ i, i < Y.length → Y.getD i 0 < n) → insI lt j Y = insI lt' j Y := by
    intro j
    induction j with
    | zero => intro Y _ _; rfl
    | succ j ih =>
      intro Y hj hY
      unfold insI
      rw [h _ _ (hY (j + 1) hj) (hY j (by omega))]
      split
      · refine ih _ (by rw [swN_len]; omega) fun i hi => ?_
        rw [swN_len] at hi
        rw [swN_at (by omega) hj]
        split
        · exact hY _ hj
        · split
          · exact hY _ (by omega)
          · exact hY _ hi
      · rfl
  have all : ∀ i, i ≤ n → insS lt n i = insS lt' n i := by
    intro i
    induction i with
    | zero => intro _; rfl
    | succ i ih =>
      intro hi
      show insI lt i (insS lt n i) = insI lt' i (insS lt' n i)
      rw [← ih (by omega)]
      exact ins i _ (by rw [insS_len]; omega) fun k hk => insS_lt lt (by omega) (by rw [insS_len] at hk; exact hk)
  exact all n (Nat.le_refl n)
end Go.Proofs.Ytnakpfbeeekmiaa
/- Lists of literals of different letters: the program puts them in order. -/
namespace Go.Proofs.Ytnakpfbeeekmiaa
open Go.RowKit Go.ChangeShapes Go.WideShapes Go.Sort

theorem isNaNC (a : Int) (w : World) : Calls Try.prog 132 #[.int .i64 a] w (fun e w' => e = .returned (.bool false) ∧ w = w') := by
  have h : ((a : Int) != a) = false := by simp
  go_enter Try.func132, Try.ntmps132
  go_wp2_with fail
  go_ret
  exact ⟨rfl, rfl⟩
theorem compare_any (a b : Int) (w : World) : Calls Try.prog 119 #[.int .i64 a, .int .i64 b] w (fun e w' => e = .returned (.int .i64 (cmpI a b)) ∧ w = w') := by
  unfold cmpI
  by_cases h : a < b
  · rw [if_pos h]
    go_enter Try.func119, Try.ntmps119
    go_wp2_with (go_at_call 132; refine (isNaNC _ _).mono ?_; rintro e w' ⟨rfl, rfl⟩)
    go_ret
    exact ⟨rfl, rfl⟩
  · rw [if_neg h]
    by_cases h2 : b < a
    · rw [if_pos h2]
      have d : decide (a > b) = true := by simp; omega
      go_enter Try.func119, Try.ntmps119
      go_wp2_with (go_at_call 132; refine (isNaNC _ _).mono ?_; rintro e w' ⟨rfl, rfl⟩)
      go_ret
      exact ⟨rfl, rfl⟩
    · rw [if_neg h2]
      have d : decide (a > b) = false := by simp; omega
      go_enter Try.func119, Try.ntmps119
      go_wp2_with (go_at_call 132; refine (isNaNC _ _).mono ?_; rintro e w' ⟨rfl, rfl⟩)
      go_ret
      exact ⟨rfl, rfl⟩
/-- 64-bit integers, as lists of literals hold them. -/
abbrev I6 : Type := {x : Int // -9223372036854775808 ≤ x ∧ x ≤ 9223372036854775807}
instance : Inhabited I6 := ⟨⟨0, by decide⟩⟩
def encI (x : I6) : Value := .int .i64 x.val
def cfI (x y : I6) : Int := cmpI (lw x.val) (lw y.val)
theorem ordC_is (x y : Int) (w : World) (x1 : -9223372036854775808 ≤ x) (x2 : x ≤ 9223372036854775807) (y1 : -9223372036854775808 ≤ y) (y2 : y ≤ 9223372036854775807) :
    Calls Try.prog 118 #[.int .i64 x, .int .i64 y] w (fun e w' => e = .returned (.int .i64 (cmpI (lw x) (lw y))) ∧ ∃ q, w' = w.drewN q) := by
  have LX := Lib.hid fun W => letterOf_is x W x1 x2
  have LY := Lib.hid fun W => letterOf_is y W y1 y2
  generalize lw x = a at LX ⊢
  generalize lw y = b at LY ⊢
  have CC := Lib.hid (compare_any a b)
  generalize cmpI a b = r at CC ⊢
  clear x1 x2 y1 y2
  go_enter Try.func118, Try.ntmps118
  go_wp2_with fail
  go_at_call 120; refine (LX.out _).mono ?_; rintro e w' ⟨rfl, rfl⟩
  go_wp2_with fail
  go_at_call 120; refine (LY.out _).mono ?_; rintro e w' ⟨rfl, rfl⟩
  go_wp2_with fail
  go_at_call 119; refine (CC.out _).mono ?_; rintro e w' ⟨rfl, rfl⟩
  go_wp2_with fail
  go_ret
  exact ⟨rfl, 0, rfl⟩
theorem ordC_any (x y : I6) (w : World) : Calls Try.prog 118 #[.int .i64 x.val, .int .i64 y.val] w (fun e w' => e = .returned (.int .i64 (cfI x y)) ∧ ∃ q, w' = w.drewN q) :=
  ordC_is x.val y.val w x.property.1 x.property.2 y.property.1 y.property.2
theorem swoI : SWO (ltOf cfI) := by
  have e : ∀ x y, ltOf cfI x y = decide (lw x.val < lw y.val) := fun x y => cmpI_neg _ _
  refine ⟨fun x => by rw [e]; simp, fun x y z h1 h2 => ?_, fun x y z h1 h2 => ?_⟩
  · rw [e, decide_eq_true_eq] at *; omega
  · rw [e, decide_eq_false_iff_not] at *; omega
/-- A list as an array of such integers. -/
def arrI (Z : List Int) (h : ∀ x ∈ Z, -9223372036854775808 ≤ x ∧ x ≤ 9223372036854775807) : Array I6 := (Z.attach.map fun x => (⟨x.1, h x.1 x.2⟩ : I6)).toArray
theorem arrI_size (Z : List Int) (h) : (arrI Z h).size = Z.length := by simp [arrI]
def valI (D : Array I6) : List Int := D.toList.map Subtype.val
theorem valI_arr (Z : List Int) (h) : valI (arrI Z h) = Z := by
  unfold valI arrI
  simp
theorem valI_len (D : Array I6) : (valI D).length = D.size := by simp [valI]
theorem valI_at {D : Array I6} {i : Nat} (h : i < D.size) : (valI D).getD i 0 = (D[i]!).val := by
  simp [valI, List.getD, h, getElem!_pos]
theorem holdsI {w : World} {g off : Nat} {Z : List Int} {D : Array I6} (h : Arr (Value.int .i64) 0 w g off Z) (e : valI D = Z) : Holds encI w g off D := by
  intro j hj
  have hj2 : j < Z.length := by rw [← e, valI_len]; exact hj
  refine ⟨?_, h.free _⟩
  rw [h.cells j hj2, ← e, valI_at hj]
  rfl
theorem turnedI {w : World} {g off n : Nat} {d : Array I6} {os : Array Obj} : Turned g (g + 1) w (grow (putRow encI (Sort.ahead w n) g off d) os) := by
  refine ⟨rfl, rfl, rfl, by simp, fun b hb hne => ?_⟩
  rw [heap_grow_old _ os (by simpa using hb)]
  show (w.heap.modify g _)[b]? = w.heap[b]?
  rw [Array.getElem?_modify, if_neg (by omega)]
theorem arrI_sort {w : World} {g off n : Nat} {Z : List Int} {D0 D : Array I6} {os : Array Obj} (h : Arr (Value.int .i64) 0 w g off Z) (e : valI D0 = Z) (hs : D.size = D0.size) (hg : g < w.heap.size) :
    Arr (Value.int .i64) 0 (grow (putRow encI (Sort.ahead w n) g off D) os) g off (valI D) := by
  have h1 : Holds encI (putRow encI (Sort.ahead w n) g off D) g off D := holds_putRow _ _ _ _ D0 D (holds_ahead _ _ n _ _ _ (holdsI h e)) hs
  refine ⟨fun i hi => ?_, fun i => ?_⟩
  · rw [valI_len] at hi
    rw [cell?_grow _ os _ (by simpa using hg), (h1 i hi).1, valI_at hi]
    rfl
  · rw [frozen?_grow _ os _ (by simpa using hg), frozen?_putRow]
    exact h.free i
/-- The literals in order of their letters. -/
structure InOrd (Z Y : List Int) : Prop where
  perm : Y.Perm Z
  up : ∀ i j, i < j → j < Y.length → lw (Y.getD i 0) ≤ lw (Y.getD j 0)
set_option maxRecDepth 100000 in
theorem sortF_any (g off cap : Nat) (Z : List Int) (w : World) (hA : Arr (Value.int .i64) 0 w g off Z) (hg : g < w.heap.size) (hn : Z.length ≤ 1048576) (hr : ∀ x ∈ Z, -9223372036854775808 ≤ x ∧ x ≤ 9223372036854775807) :
    Calls Try.prog 117 #[.slice (some ⟨g, off, none⟩) Z.length cap, .func (.func 118) #[] #[]] w
      (fun e w' => ∃ Y, e = .returned (.tuple #[]) ∧ InOrd Z Y ∧ Turned g (g + 1) w w' ∧ Arr (Value.int .i64) 0 w' g off Y) := by
  have hc : CmpReads Try.prog 118 #[] encI cfI g off (arrI Z hr).size w := fun m os dk _ x y => ordC_any x y _
  have h := Any.slices_SortFunc Try.sortF encI (fun _ => rfl) cfI swoI 118 #[] g off cap (arrI Z hr) w (fun _ _ => rfl) hc.lays (holdsI hA (valI_arr Z hr)) hg (by rw [arrI_size]; omega)
  rw [arrI_size] at h
  refine h.mono fun e w' ⟨he, D, n, os, ⟨p1, p2, p3⟩, s, hw⟩ => ?_
  subst hw
  have q1 : D.size = Z.length := by rw [p1, arrI_size]
  refine ⟨valI D, he, ⟨?_, fun i j hij hj => ?_⟩, turnedI, arrI_sort hA (valI_arr Z hr) p1 hg⟩
  · have hp := p3.map Subtype.val
    have e1 : D.extract 0 Z.length = D := by rw [← q1]; simp
    have e2 : (arrI Z hr).extract 0 Z.length = arrI Z hr := by
      have := arrI_size Z hr
      rw [← this]; simp
    rw [e1, e2] at hp
    have e3 := valI_arr Z hr
    unfold valI at e3 ⊢
    rwa [e3] at hp
  · rw [valI_len] at hj
    have h1 := s i j (Nat.zero_le _) hij (by omega)
    have e : ltOf cfI D[j]! D[i]! = decide (lw (D[j]!).val < lw (D[i]!).val) := cmpI_neg _ _
    rw [e, decide_eq_false_iff_not] at h1
    rw [valI_at (by omega), valI_at hj]
    omega
theorem lits_sorted {n : Int} {Z Y : List Int} (n1 : 1 ≤ n) (n2 : n ≤ 10) (h : InOrd Z Y) : clB n Y = litsB n Z := by
  rw [Bool.eq_iff_iff]
  constructor
  · intro hc
    exact litsB_mk ((litsB_ok (litsB_of (clB_ok hc))).perm h.perm.symm)
  · intro hl
    have hY := (litsB_ok hl).perm h.perm
    have mem : ∀ i, i < Y.length → Y.getD i 0 ∈ Y := fun i hi => by rw [show Y.getD i 0 = Y[i] by simp [List.getD, hi]]; exact List.getElem_mem _
    have hlw : ∀ i, i < Y.length → lw (Y.getD i 0) = ltr (Y.getD i 0) := fun i hi => lw_ltr (fun e => by
      have := (hY.rng _ (mem i hi)).2
      rw [e] at this
      unfold ltr at this; omega)
    refine clB_of ⟨n1, n2, fun i hi => hY.rng _ (mem i hi), fun i j hij hj => ?_⟩
    have h1 := h.up i j hij hj
    rw [hlw i (by omega), hlw j hj] at h1
    have nd := hY.nd
    rw [List.nodup_iff_pairwise_ne, List.pairwise_iff_getElem] at nd
    have h2 := nd i j (by rw [List.length_map]; omega) (by rw [List.length_map]; exact hj) hij
    have h3 : ltr (Y.getD i 0) ≠ ltr (Y.getD j 0) := by
      rw [show Y.getD i 0 = Y[i] by simp [List.getD, (show i < Y.length by omega)], show Y.getD j 0 = Y[j] by simp [List.getD, hj]]
      simpa using h2
    omega
set_option maxHeartbeats 1000000 in
theorem inOrder_any (v : Value) (Z : List Int) (w : World) (hv : IL w v Z) (hn : Z.length ≤ 1048576) (hr : ∀ x ∈ Z, -9223372036854775808 ≤ x ∧ x ≤ 9223372036854775807) :
    Calls Try.prog 94 #[v] w (fun e w' => ∃ Y u, InOrd Z Y ∧ e = .returned u ∧ II w.heap.size w'.heap.size w' u Y ∧ Below w.heap.size w w') := by
  have HV := Lib.hid hv
  obtain ⟨ao, cap, rfl⟩ := hv.long
  have HR := Lib.hid hr
  clear hv hr
  go_enter Try.func94, Try.ntmps94
  go_wp2_with fail
  go_at_call 76; refine (cloneI_any _ Z _ HV.out hn).mono ?_; rintro e w1 ⟨u, rfl, i1, b1⟩
  have B1 := Lib.hid b1
  obtain ⟨hs, ⟨rfl, ao2, cap2, rfl⟩ | ⟨b, off, c2, rfl, h2, h3, h4, h5, h6⟩⟩ := i1
  · have HN : Hid (InOrd [] []) := Lib.hid ⟨List.Perm.refl _, fun i j _ hj => by simp at hj⟩
    clear b1 hs
    go_wp2_with fail
    go_at_call 117; refine (AnyF.slices_SortFunc_none (P := Try.prog) (ρ := Try.sortF_ren) { Try.sortF with } ao2 cap2 _ w1).mono ?_; rintro e w2 ⟨rfl, rfl⟩
    go_wp2_with fail
    refine bodyPost_ret (results_tmp rfl _ _ _) rfl ?_
    exact ⟨[], _, HN.out, rfl, SI.nil _ (Nat.le_refl _) _ _, B1.out⟩
  · have HA : Hid (Arr (Value.int .i64) 0 w1 b off Z) := Lib.hid ⟨h6, h5⟩
    have HLT : Hid (w.heap.size ≤ b ∧ b < w1.heap.size) := Lib.hid ⟨h3, h4⟩
    clear h3 h4 h5 h6 b1 hs
    go_wp2_with fail
    go_at_call 117; refine (sortF_any b off _ Z w1 HA.out HLT.out.2 hn HR.out).mono ?_; rintro e w2 ⟨Y, rfl, ho, ht, ha⟩
    have HO := Lib.hid ho
    have hyl : Y.length = Z.length := ho.perm.length_eq
    have HY := Lib.hid hyl
    have HT := Lib.hid ht
    have HA2 := Lib.hid ha
    clear ho ht ha hyl
    go_wp2_with fail
    refine bodyPost_ret (results_tmp rfl _ _ _) rfl ?_
    have hlt := HLT.out
    have hs2 := HT.out.size
    exact ⟨Y, _, HO.out, rfl, ⟨Nat.le_refl _, Or.inr ⟨b, off, c2, by rw [HY.out]; rfl, by rw [HY.out]; exact h2, hlt.1, by omega, HA2.out.free, HA2.out.cells⟩⟩, B1.out.trans ((HT.out.below (by omega)).mono hlt.1)⟩
set_option maxHeartbeats 1000000 in
theorem areGiven_any (n : Int) (v : Value) (G : List Int) (w : World) (hv : IL w v G) (o : OKI G) (n1 : 1 ≤ n) (n2 : n ≤ 10) :
    Calls Try.prog 51 #[.int .i64 n, v] w (Says (litsB n G) w) := by
  have HV := Lib.hid hv
  obtain ⟨ao, cap, rfl⟩ := hv.long
  have HO := Lib.hid o
  have HQ := Lib.hid (fun Y (h : InOrd G Y) => lits_sorted n1 n2 h)
  clear hv o n1 n2
  go_enter Try.func51, Try.ntmps51
  go_wp2_with fail
  go_at_call 94; refine (inOrder_any _ G _ HV.out HO.out.size HO.out.fit.2).mono ?_; rintro e w1 ⟨Y, u, hy, rfl, i1, b1⟩
  have HY := Lib.hid hy
  have I1 := Lib.hid i1.il
  have B1 := Lib.hid b1
  obtain ⟨ya, yc, rfl⟩ := I1.out.long
  clear hy i1 b1
  go_wp2_with fail
  go_at_call 85; refine (implClause_any n _ Y _ I1.out (by rw [HY.out.perm.length_eq]; exact HO.out.size) (fun i => by
    by_cases hi : i < Y.length
    · refine HO.out.fit.2 _ (HY.out.perm.mem_iff.1 ?_)
      rw [show Y.getD i 0 = Y[i] by simp [List.getD, hi]]; exact List.getElem_mem _
    · simp [List.getD, List.getElem?_eq_none (Nat.le_of_not_lt hi)])).mono ?_; rintro e w2 ⟨rfl, b2⟩
  rw [HQ.out Y HY.out]
  have B2 := Lib.hid (B1.out.trans (b2.mono B1.out.size))
  clear b2
  go_wp2_with fail
  go_ret
  exact says rfl B2.out
end Go.Proofs.Ytnakpfbeeekmiaa
/- slices.IndexFunc over a list of integers, with a closure of impl.GiveForm. -/
namespace Go.Proofs.Ytnakpfbeeekmiaa
open Go.RowKit Go.ChangeShapes Go.WideShapes

set_option maxHeartbeats 1000000 in
theorem ixGv_any (p : Int → Bool) (B : Nat) (v : Value) (Z : List Int) (w : World) (hv : IL w v Z) (hn : Z.length ≤ 1048576)
    (hcl : ∀ k w', k < Z.length → Below w.heap.size w w' → Calls Try.prog 70 #[.int .i64 (Z.getD k 0), .pointer (some ⟨B, 0, none⟩)] w' (Says (p (Z.getD k 0)) w')) :
    Calls Try.prog 106 #[v, .func (.func 70) #[] #[.pointer (some ⟨B, 0, none⟩)]] w (FirstI p Z w) := by
  rcases hv with ⟨rfl, ao, cap, rfl⟩ | ⟨b, off, cap, rfl, hpos, hbl, hcell⟩
  · clear hcl
    go_enter Try.func106, Try.ntmps106
    go_wp2_with fail
    refine wp_loop_rounds 1 ?_
    rw [rounds_succ]
    go_wp2
    go_ret
    exact ⟨Or.inr ⟨fun j hj => absurd hj (Nat.not_lt_zero _), rfl⟩, Below.refl _ _⟩
  have HC := Lib.hid hcell
  have HCL := Lib.hid hcl
  clear hcell hcl
  go_enter Try.func106, Try.ntmps106
  go_wp2_with fail
  go_loopg [8] Z.length (fun gk i wr => ∃ k : Nat, k ≤ Z.length ∧ gk + k = Z.length ∧ i = .int .i64 k ∧ (∀ j, j < k → p (Z.getD j 0) = false) ∧ Below w.heap.size w wr)
  case atStart => exact ⟨0, Nat.zero_le _, by omega, rfl, fun j hj => by omega, Below.refl _ _⟩
  case round =>
    obtain ⟨k, hk, hgk, rfl, hall, hwr⟩ := hrel
    have HL := Lib.hid hall
    have HW := Lib.hid hwr
    clear hall
    by_cases hlt : k < Z.length
    · have c0 : wr.cell? ⟨b, off + k, none⟩ = some (.int .i64 (Z.getD k 0)) := by rw [hwr.cell (p := ⟨b, off + k, none⟩) hbl]; exact HC.out k hlt
      have HK := Lib.hid (HCL.out k wr hlt hwr)
      have HP : Hid (∀ t, p (Z.getD k 0) = t → p (Z.getD k 0) = t) := Lib.hid fun _ h => h
      clear hwr
      cases q : p (Z.getD k 0) with
      | true =>
        have HQ := Lib.hid q
        rw [q] at HK
        generalize Z.getD k 0 = x at c0 HK
        clear q
        go_wp2_with fail
        go_at_call 70; refine (HK.out).mono ?_; rintro e w1 ⟨rfl, b1⟩
        have H1 := Lib.hid (HW.out.trans (b1.mono HW.out.size))
        clear b1 c0
        go_wp2_with fail
        go_ret
        exact ⟨Or.inl ⟨k, ⟨hlt, HQ.out, HL.out⟩, rfl⟩, H1.out⟩
      | false =>
        have HQ := Lib.hid q
        rw [q] at HK
        generalize Z.getD k 0 = x at c0 HK
        clear q
        go_wp2_with fail
        go_at_call 70; refine (HK.out).mono ?_; rintro e w1 ⟨rfl, b1⟩
        have H1 := Lib.hid (HW.out.trans (b1.mono HW.out.size))
        clear b1 c0
        go_wp2_with fail
        go_roundg (gk - 1)
        case measure => omega
        case rel => exact ⟨k + 1, by omega, by omega, by go_num, fun j hj => by
          by_cases e : j = k
          · subst e; exact HQ.out
          · exact HL.out j (by omega), H1.out⟩
    · obtain rfl : k = Z.length := by omega
      clear hwr
      go_wp2_with fail
      go_ret
      exact ⟨Or.inr ⟨HL.out, rfl⟩, HW.out⟩
theorem ctGv_any (p : Int → Bool) (B : Nat) (v : Value) (Z : List Int) (w : World) (hv : IL w v Z) (hn : Z.length ≤ 1048576)
    (hcl : ∀ k w', k < Z.length → Below w.heap.size w w' → Calls Try.prog 70 #[.int .i64 (Z.getD k 0), .pointer (some ⟨B, 0, none⟩)] w' (Says (p (Z.getD k 0)) w')) :
    Calls Try.prog 72 #[v, .func (.func 70) #[] #[.pointer (some ⟨B, 0, none⟩)]] w (Says (anyZ p Z) w) := by
  have HV := Lib.hid hv
  have HCL := Lib.hid hcl
  obtain ⟨ao, cap, rfl⟩ := hv.long
  clear hv hcl
  go_enter Try.func72, Try.ntmps72
  go_wp2_with fail
  go_at_call 106; refine (ixGv_any p B _ Z _ HV.out hn HCL.out).mono ?_; rintro e w1 ⟨⟨k, hf, rfl⟩ | ⟨hf, rfl⟩, b1⟩
  · have HT := Lib.hid hf.any
    have H1 := Lib.hid b1
    have hk0 : (0 : Int) ≤ (k : Int) := by omega
    clear hf b1
    go_wp2_with fail
    go_ret
    exact says HT.out.symm H1.out
  · have HT := Lib.hid (anyZ_none hf)
    have H1 := Lib.hid b1
    clear hf b1
    go_wp2_with fail
    go_ret
    exact says HT.out.symm H1.out
end Go.Proofs.Ytnakpfbeeekmiaa
/- Forms with given literals: the program. -/
namespace Go.Proofs.Ytnakpfbeeekmiaa
open Go.RowKit Go.ChangeShapes Go.WideShapes

theorem Try.infoLI : (Try.prog.info? 25).map (fun i => (i.zero, i.size, i.bytes)) = some (some (.slice none 0 0), 1, 24) := by kernel_rfl
theorem gvCl_any (B : Nat) (x : Int) (u : Value) (G : List Int) (w : World) (hc : w.cell? ⟨B, 0, none⟩ = some u) (hu : IL w u G) (hG : G.length ≤ 1048576) :
    Calls Try.prog 70 #[.int .i64 x, .pointer (some ⟨B, 0, none⟩)] w (Says (inS G x) w) := by
  have HU := Lib.hid hu
  clear hu
  go_enter Try.func70, Try.ntmps70
  go_wp2_with fail
  go_at_call 71; refine (contains_any _ G x _ HU.out hG).mono ?_; rintro e w4 ⟨rfl, rfl⟩
  go_wp2_with fail
  go_ret
  exact says rfl (Below.refl _ _)
/-- The boxes of the call: the form that came in, the literals, the result. -/
structure GvBox (B : Nat) (L : Int) (s u : Value) (W : World) : Prop where
  c0 : W.cell? ⟨B, 0, none⟩ = some (.int .i64 L)
  c1 : W.cell? ⟨B, 1, none⟩ = some s
  d0 : W.cell? ⟨B + 1, 0, none⟩ = some u
  r : Res2 W (B + 1 + 1)
theorem GvBox.keep {B C : Nat} {L : Int} {s u : Value} {W W' : World} (h : GvBox B L s u W) (b : Below C W W') (hC : B + 1 + 1 < C) : GvBox B L s u W' :=
  ⟨by rw [b.cell (p := ⟨B, 0, none⟩) (by show B < C; omega)]; exact h.c0, by rw [b.cell (p := ⟨B, 1, none⟩) (by show B < C; omega)]; exact h.c1, by rw [b.cell (p := ⟨B + 1, 0, none⟩) (by show B + 1 < C; omega)]; exact h.d0, h.r.keep b hC⟩
set_option maxRecDepth 100000 in
set_option maxHeartbeats 8000000 in
theorem implGv_yes (v u : Value) (F : Fm) (G : List Int) (w : World) (hv : FmV w v F) (hu : IL w u G) (o : OKFm F) (oG : OKI G) (h : givB F G = true) :
    Calls Try.prog 35 #[v, u] w (SaysFB ⟨F.letters, gvK G F.cs F.cs.length⟩ true w) := by
  obtain ⟨j0, hj, hy0, hy1, hy2⟩ := info_parts Try.infoLI
  unfold givB at h
  rw [Bool.and_eq_true] at h
  obtain ⟨h1, h2⟩ := h
  have H1 := Lib.hid h1
  have H2 := Lib.hid h2
  have HOK := Lib.hid (formB_ok h1)
  have n1 := HOK.out.n1
  have n2 := HOK.out.n2
  have hfew := HOK.out.few
  have nG := oG.size
  obtain ⟨s1, rfl, hl⟩ := hv
  have HL : Hid (∀ W, Below w.heap.size w W → LV W s1 F.cs) := Lib.hid fun W b => hl.below b (Nat.le_refl _)
  have HU : Hid (∀ W, Below w.heap.size w W → IL W u G) := Lib.hid fun W b => hu.below b (Nat.le_refl _)
  have HB3 : Hid (∀ A B C, Below w.heap.size w (((w.alloc A).alloc B).alloc C)) := Lib.hid fun A B C => ((below_alloc w A).alloc (by simp) B).alloc (by simp; omega) C
  have HX0 : Hid (∀ T, GvBox w.heap.size F.letters s1 u (((w.alloc (.cells #[.int .i64 F.letters, s1] 29)).alloc (.cells #[u] T)).alloc (.cells #[.int .i64 0, .slice none 0 0] 29))) := Lib.hid fun T => ⟨by go_simp, by go_simp, by go_simp, ⟨⟨.int .i64 0, by go_simp⟩, ⟨.slice none 0 0, by go_simp⟩, fun i => by go_simp⟩⟩
  obtain ⟨ga, gc, rfl⟩ := hu.long
  obtain ⟨fa, fc, rfl⟩ := hl.long
  clear hl hu h1 h2
  go_enter Try.func35, Try.ntmps35
  go_wp2_with fail
  go_at_call 50; refine (implForm_any _ F _ ⟨_, rfl, HL.out _ (HB3.out _ _ _)⟩ o).mono ?_; rintro e w4 ⟨rfl, b4⟩
  rw [H1.out]
  have B4 := Lib.hid ((HB3.out _ _ _).trans (b4.mono (by simp; omega)))
  have X4 := Lib.hid ((HX0.out _).keep b4 (by simp))
  clear b4 HX0
  obtain ⟨x0, x1, x2, xr⟩ := X4.out
  clear xr
  go_wp2_with fail
  go_at_call 51; refine (areGiven_any F.letters _ G _ (HU.out _ B4.out) oG n1 n2).mono ?_; rintro e w5 ⟨rfl, b5⟩
  rw [H2.out]
  have B5 := Lib.hid (B4.out.trans (b5.mono B4.out.size))
  have X5 := Lib.hid (X4.out.keep b5 X4.out.r.lt)
  clear b5 x0 x1 x2 X4 B4
  obtain ⟨x0, x1, x2, xr⟩ := X5.out
  have hs5 : w.heap.size + 1 + 1 < w5.heap.size := xr.lt
  have hw5 : w.heap.size ≤ w5.heap.size := by omega
  have HBW : Hid (∀ W, Below w5.heap.size w5 W → Below w.heap.size w W) := Lib.hid fun W b => B5.out.trans (b.mono hw5)
  have HX : Hid (∀ W, Below w5.heap.size w5 W → GvBox w.heap.size F.letters (.slice fa F.cs.length fc) (.slice ga G.length gc) W) := Lib.hid fun W b => X5.out.keep b hs5
  have F0 := Lib.hid (FoUp.start F.letters (Below.refl w5.heap.size w5))
  obtain ⟨xx0, xx1, xx2, xxr⟩ := HX.out (w5.alloc (.cells #[.int .i64 F.letters, .slice none 0 0] 29)) (below_alloc _ _)
  clear xr xxr
  go_wp2_with fail
  go_loopg [27] F.cs.length (fun gk i wr => ∃ (k : Nat) (s : Value) (U : Nat → Value), k ≤ F.cs.length ∧ gk + k = F.cs.length ∧ i = .int .i64 k ∧ FoUp F.letters (gvK G F.cs k) w5.heap.size s w5 wr U)
  case atStart => exact ⟨0, _, _, Nat.zero_le _, by omega, rfl, F0.out⟩
  case round =>
    clear F0 xx0 xx1 xx2 x0 x1 x2
    obtain ⟨k, s, U, hk, hgk, rfl, hF⟩ := hrel
    have HF := Lib.hid hF
    have hww : w5.heap.size ≤ wr.heap.size := hF.out.below.size
    have HBK := Lib.hid hF.out.below
    clear hF
    by_cases hlt : k < F.cs.length
    · have hcl := HOK.out.cl k hlt
      have hEl : (F.cs.getD k []).length ≤ 10 := by have := hcl.len; omega
      have HER := Lib.hid (cl_range hcl)
      have HSL : Hid (∀ W, Below w.heap.size w W → ∃ b off cap D, (Value.slice fa F.cs.length fc) = .slice (some ⟨b, off, none⟩) F.cs.length (F.cs.length + cap) ∧ W.cell? ⟨b, off + k, none⟩ = some D ∧ IL W D (F.cs.getD k [])) := Lib.hid fun W hb => by
        rcases HL.out W hb with ⟨hz, -⟩ | ⟨b, off, cap, D, e, hpos, hbl, hcell⟩
        · rw [hz] at hlt; simp at hlt
        · exact ⟨b, off, cap, D k, e, (hcell k hlt).1, (hcell k hlt).2⟩
      obtain ⟨b, off, cap, D, e, cD, iD⟩ := HSL.out _ (HBW.out _ HBK.out)
      have HID : Hid (∀ W, Below wr.heap.size wr W → IL W D (F.cs.getD k [])) := Lib.hid fun W hb => iD.below hb (Nat.le_refl _)
      injection e with e1 _ e3
      subst e1
      have HGY := Lib.hid (@gvK_yes G F.cs k)
      have HGN := Lib.hid (@gvK_no G F.cs k)
      have hvl := gvK_few G F.cs k
      generalize gvK G F.cs k = T at HF HGY HGN hvl
      obtain ⟨E, hE⟩ : ∃ E, E = F.cs.getD k [] := ⟨_, rfl⟩
      rw [← hE] at hEl HER HID HGY HGN
      clear hcl iD e3 HSL hE
      obtain ⟨da, dc, rfl⟩ := (HID.out wr (Below.refl _ _)).long
      have HCLO : Hid (∀ W, Below wr.heap.size wr W → ∀ x, Calls Try.prog 70 #[.int .i64 x, .pointer (some ⟨w.heap.size + 1, 0, none⟩)] W (Says (inS G x) W)) := Lib.hid fun W hb x =>
        gvCl_any _ x _ G W (HX.out W (HBK.out.trans (hb.mono hww))).d0 (HU.out W (HBW.out W (HBK.out.trans (hb.mono hww)))) nG
      have HUG : Hid (∀ W, Below wr.heap.size wr W → IL W (.slice ga G.length gc) G) := Lib.hid fun W hb => HU.out W (HBW.out W (HBK.out.trans (hb.mono hww)))
      have HXR : Hid (∀ W, Below wr.heap.size wr W → W.cell? ⟨w.heap.size + 1, 0, none⟩ = some (.slice ga G.length gc)) := Lib.hid fun W hb => (HX.out W (HBK.out.trans (hb.mono hww))).d0
      obtain ⟨wA, rfl⟩ : ∃ x : World, x = wr := ⟨_, rfl⟩
      cases hs : hasG G E with
      | true =>
        have HS := Lib.hid hs
        have HN := Lib.hid (HGY.out hs)
        clear hs HGY HGN
        go_wp2_with fail
        go_at_call 72; refine (ctGv_any (inS G) (w.heap.size + 1) _ E _ (HID.out _ (Below.refl _ _)) (by omega) (fun k w' _ hb => HCLO.out w' hb _)).mono ?_; rintro e w6 ⟨rfl, b6⟩
        rw [show anyZ (inS G) E = true from HS.out]
        have B6 := Lib.hid b6
        clear b6
        go_wp2_with fail
        go_roundg (gk - 1)
        case measure => omega
        case rel => exact ⟨k + 1, _, _, by omega, by omega, by go_num, by rw [HN.out]; exact HF.out.keep B6.out⟩
      | false =>
        have HS := Lib.hid hs
        have HN := Lib.hid (HGN.out hs)
        clear hs HGY HGN
        go_wp2_with fail
        go_at_call 72; refine (ctGv_any (inS G) (w.heap.size + 1) _ E _ (HID.out _ (Below.refl _ _)) (by omega) (fun k w' _ hb => HCLO.out w' hb _)).mono ?_; rintro e w6 ⟨rfl, b6⟩
        rw [show anyZ (inS G) E = false from HS.out]
        have hw6 : wA.heap.size ≤ w6.heap.size := b6.size
        have HF6 := Lib.hid (HF.out.keep b6)
        have HI6 : Hid (∀ W, Below w6.heap.size w6 W → IL W (.slice da E.length dc) E ∧ IL W (.slice ga G.length gc) G) := Lib.hid fun W hb => ⟨HID.out W (b6.trans (hb.mono hw6)), HUG.out W (b6.trans (hb.mono hw6))⟩
        have c6 := HF6.out.cells.2.1
        have d6 := HXR.out w6 b6
        have hl6 : w5.heap.size < w6.heap.size := HF6.out.lt
        have hl66 : w5.heap.size ≤ w6.heap.size := by omega
        have RO : Hid (∀ W, Below w6.heap.size w6 W → Calls Try.prog 73 #[.slice da E.length dc, .slice ga G.length gc] W (GrownI (rst G E) W)) := Lib.hid fun W hb => restOf_any _ _ E G W (HI6.out W hb).1 (HI6.out W hb).2 (by omega) nG (fun i hi => by have := HER.out i hi; omega)
        generalize rst G E = Z at RO HN
        clear b6
        go_wp2_with fail
        go_region_law (first
          | (go_simp; go_at_call 73; refine (RO.out _ (by first | exact Below.refl _ _ | exact below_drewN (Below.refl _ _) _ | exact (Below.refl _ _).drew)).mono ?_; rintro e w7 ⟨dv, rfl, hd, b7⟩; have B7 : Hid (Below w6.heap.size w6 w7) := Lib.hid (by first | exact b7 | exact (below_drewN (Below.refl w6.heap.size w6) _).trans b7 | exact (Below.refl w6.heap.size w6).drew.trans b7); have D7 : Hid (Grows (Value.int .i64) 2 w6.heap.size dv Z w7) := Lib.hid hd; clear hd b7; obtain ⟨za, zc, rfl⟩ := SI.len (d := (0 : Int)) D7.out.si; have HF7 := Lib.hid (HF6.out.keep B7.out); have c7 := HF7.out.cells.2.1; have d7 : w7.cell? ⟨w.heap.size + 1, 0, none⟩ = some (.slice ga G.length gc) := keep_cell d6 B7.out (cell_block d6); have HOWN : Hid (∀ W, Below w7.heap.size w7 W → W.ownsRow w5.heap.size 25 1 s T.length ((List.range T.length).map U)) := Lib.hid fun W hb => (HF7.out.keep hb).out.own; have hz7 : w6.heap.size ≤ w7.heap.size := B7.out.size; have c7a : ∀ o, (w7.alloc o).cell? ⟨w5.heap.size, 1, none⟩ = some s := fun o => keep_cell c7 (below_alloc w7 o) (Nat.lt_of_lt_of_le hl6 hz7); go_wp2_with fail)
          | (refine step_append_lies _ (by rfl) _ _ _ (by rfl) w5.heap.size 25 j0 _ 1 24 Try.underlying22 hj hy0 hy1 hy2 rfl (by omega) s T.length ((List.range T.length).map U) (by rfl) (HOWN.out _ (by first | exact below_alloc _ _ | exact (below_drewN (Below.refl _ _) _).alloc (Nat.le_refl _) _ | exact below_drewN (below_alloc _ _) _ | exact (Below.refl _ _).drew.alloc (Nat.le_refl _) _ | exact (below_alloc _ _).drew)) ⟨w7.heap.size, 0, none⟩ 1 1 [.slice za Z.length zc] (by rfl) (by rfl) (World.news_of_block (cs := #[_]) (t := 25) (fr := (0, 0)) (heap_alloc_new _ _)) (by simp [Value.oneCell']) (by omega) (by unfold maxLen; omega) (by omega) (by simp; omega) (w7.heap.size + 1) (by simp) ?_; intro gg gcap w9 hown hgrow hat hlt9; obtain ⟨hk9, hf9⟩ := HF7.out.kept (by first | exact below_alloc w7 _ | exact (below_drewN (Below.refl w7.heap.size w7) _).alloc (Nat.le_refl _) _ | exact below_drewN (below_alloc w7 _) _ | exact (Below.refl w7.heap.size w7).drew.alloc (Nat.le_refl _) _ | exact (below_alloc w7 _).drew) hgrow; have HNX := Lib.hid (fun q => FoUp.next HF6.out (by first | exact B7.out.trans ((below_alloc w7 _).mono hz7) | exact B7.out.trans (((below_drewN (Below.refl w7.heap.size w7) _).alloc (Nat.le_refl _) _).mono hz7) | exact B7.out.trans ((below_drewN (below_alloc w7 _) _).mono hz7) | exact B7.out.trans (((Below.refl w7.heap.size w7).drew.alloc (Nat.le_refl _) _).mono hz7) | exact B7.out.trans ((below_alloc w7 _).drew.mono hz7)) (D7.out.below (by first | exact below_alloc w7 _ | exact (below_drewN (Below.refl w7.heap.size w7) _).alloc (Nat.le_refl _) _ | exact below_drewN (below_alloc w7 _) _ | exact (Below.refl w7.heap.size w7).drew.alloc (Nat.le_refl _) _ | exact (below_alloc w7 _).drew) (Nat.le_refl _)) hown hgrow (hat.imp id (fun e => by rw [e]; simp)) q); clear hown hgrow hat hlt9))
        all_goals
          go_wp2_with fail
          go_roundg (gk - 1)
          case measure => omega
          case rel => exact ⟨k + 1, _, _, by omega, by omega, by go_num, by rw [HN.out]; exact HNX.out 0⟩
    · obtain rfl : k = F.cs.length := by omega
      obtain ⟨sa, sc, rfl⟩ := HF.out.slice
      obtain ⟨c0, c1, c2⟩ := HF.out.cells
      obtain ⟨⟨u0, r0⟩, ⟨u1, r1⟩, rf⟩ := (HX.out _ HBK.out).r
      have rf0 := rf 0
      have rf1 := rf 1
      have BF := Lib.hid (HBW.out _ HBK.out)
      have hne : ¬ w5.heap.size = w.heap.size + 1 + 1 := by omega
      have hne2 : ¬ w.heap.size + 1 + 1 = w5.heap.size := by omega
      clear rf
      go_wp2_with fail
      refine bodyPost_ret (v := .tuple #[.agg #[.int .i64 F.letters, .slice sa (gvK G F.cs F.cs.length).length sc], .bool true]) (by simp [results, Try.results35, r0, r1, go_sem]) rfl ?_
      generalize hX : World.setCell _ _ _ = X
      have hT : Turned (w.heap.size + 1 + 1) (w.heap.size + 1 + 1 + 1) wr X := by
        rw [← hX]
        repeat (refine Turned.setCell ?_ (by simp) (by simp) _)
        exact Turned.refl _ _ _
      clear hX
      exact ⟨_, rfl, HF.out.res hT (by omega) hw5, BF.out.trans ((hT.below (by omega)).mono (by omega))⟩
end Go.Proofs.Ytnakpfbeeekmiaa
/- What must hold then: the program, for all arguments. -/
namespace Go.Proofs.Ytnakpfbeeekmiaa
open Go.RowKit Go.ChangeShapes Go.WideShapes Go.Maps
set_option maxRecDepth 100000

set_option maxHeartbeats 4000000 in
theorem implUnitsOf_any (v : Value) (F : Fm) (u : Value) (G : List Int) (w : World) (hv : FmV w v F) (hu : IL w u G) (o : OKFm F) (oG : OKI G) :
    Calls Try.prog 17 #[v, u] w (SaysJBB (unF F G) (unW F G) (unB F G) w) := by
  obtain ⟨s1, rfl, hl⟩ := hv
  have HL : Hid (∀ W, Below w.heap.size w W → LV W s1 F.cs) := Lib.hid fun W b => hl.below b (Nat.le_refl _)
  have HU : Hid (∀ W, Below w.heap.size w W → IL W u G) := Lib.hid fun W b => hu.below b (Nat.le_refl _)
  have HB1 : Hid (∀ A, Below w.heap.size w (w.alloc A)) := Lib.hid fun A => below_alloc w A
  have HX0 := Lib.hid (Box2.mk' w (.int .i64 F.letters) s1 29)
  obtain ⟨ga, gc, rfl⟩ := hu.long
  obtain ⟨fa, fc, rfl⟩ := hl.long
  have HUF : Hid (unB F G = false → unF F G = [] ∧ unW F G = false) := Lib.hid fun h => by unfold unF unW; rw [h]; exact ⟨rfl, rfl⟩
  have HUY : Hid (unB F G = true → unF F G = (unR F G).1 ∧ unW F G = decide (0 ≤ (unR F G).2.2)) := Lib.hid fun h => by unfold unF unW; rw [h]; exact ⟨rfl, by simp⟩
  have HUB : Hid (unB F G = (formB F && litsB F.letters G)) := Lib.hid rfl
  clear hl hu
  cases h1 : formB F with
  | false =>
    have HUB2 : Hid (unB F G = false) := Lib.hid (by rw [HUB.out, h1]; rfl)
    rw [HUB2.out, (HUF.out HUB2.out).1, (HUF.out HUB2.out).2]
    have H1 := Lib.hid h1
    clear h1
    go_enter Try.func17, Try.ntmps17
    go_wp2_with fail
    go_at_call 50; refine (implForm_any _ F _ ⟨_, rfl, HL.out _ (HB1.out _)⟩ o).mono ?_; rintro e w4 ⟨rfl, b4⟩
    rw [H1.out]
    have B4 := Lib.hid ((HB1.out _).trans (b4.mono (by simp)))
    clear b4
    go_wp2_with fail
    refine bodyPost_ret (v := .tuple #[.slice none 0 0, .bool false, .bool false]) (by simp [results, Try.results17, go_sem]) rfl ?_
    exact jbb_no B4.out
  | true =>
    have H1 := Lib.hid h1
    have hF := formB_ok h1
    have n1 := hF.n1
    have n2 := hF.n2
    have HF := Lib.hid hF
    cases h2 : litsB F.letters G with
    | false =>
      have HUB2 : Hid (unB F G = false) := Lib.hid (by rw [HUB.out, h1, h2]; rfl)
      rw [HUB2.out, (HUF.out HUB2.out).1, (HUF.out HUB2.out).2]
      have H2 := Lib.hid h2
      clear h1 h2 hF
      go_enter Try.func17, Try.ntmps17
      go_wp2_with fail
      go_at_call 50; refine (implForm_any _ F _ ⟨_, rfl, HL.out _ (HB1.out _)⟩ o).mono ?_; rintro e w4 ⟨rfl, b4⟩
      rw [H1.out]
      have B4 := Lib.hid ((HB1.out _).trans (b4.mono (by simp)))
      obtain ⟨x0, x1⟩ := HX0.out.keep b4 (by simp)
      clear b4
      go_wp2_with fail
      go_at_call 51; refine (areGiven_any F.letters _ G _ (HU.out _ B4.out) oG n1 n2).mono ?_; rintro e w5 ⟨rfl, b5⟩
      rw [H2.out]
      have B5 := Lib.hid (B4.out.trans (b5.mono B4.out.size))
      clear b5 x0 x1
      go_wp2_with fail
      refine bodyPost_ret (v := .tuple #[.slice none 0 0, .bool false, .bool false]) (by simp [results, Try.results17, go_sem]) rfl ?_
      exact jbb_no B5.out
    | true =>
      have HUB2 : Hid (unB F G = true) := Lib.hid (by rw [HUB.out, h1, h2]; rfl)
      have HLI := Lib.hid (litsB_ok h2)
      rw [HUB2.out, (HUY.out HUB2.out).1, (HUY.out HUB2.out).2]
      have HRR : Hid (uK F.cs 11 G (List.replicate G.length (-1)) = unR F G) := Lib.hid rfl
      have hcl := litsOk_len n1 n2 HLI.out
      have HUL : Hid ((unR F G).1.length ≤ 1048576) := Lib.hid (by have := uK_len F.cs 11 G (List.replicate G.length (-1)); rw [HRR.out] at this; omega)
      obtain ⟨R, hR⟩ : ∃ R, unR F G = R := ⟨_, rfl⟩
      rw [hR] at HRR HUL ⊢
      have H2 := Lib.hid h2
      clear h1 h2 hF hR
      go_enter Try.func17, Try.ntmps17
      go_wp2_with fail
      go_at_call 50; refine (implForm_any _ F _ ⟨_, rfl, HL.out _ (HB1.out _)⟩ o).mono ?_; rintro e w4 ⟨rfl, b4⟩
      rw [H1.out]
      have B4 := Lib.hid ((HB1.out _).trans (b4.mono (by simp)))
      have X4 := Lib.hid (HX0.out.keep b4 (by simp))
      clear b4
      obtain ⟨x0, x1⟩ := X4.out
      have hx4 := X4.out.lt
      go_wp2_with fail
      go_at_call 51; refine (areGiven_any F.letters _ G _ (HU.out _ B4.out) oG n1 n2).mono ?_; rintro e w5 ⟨rfl, b5⟩
      rw [H2.out]
      have B5 := Lib.hid (B4.out.trans (b5.mono B4.out.size))
      have X5 := Lib.hid (X4.out.keep b5 hx4)
      clear b5 x0 x1
      obtain ⟨x0, x1⟩ := X5.out
      have US := Lib.hid (unitsOf_any F.letters (.slice fa F.cs.length fc) F.cs (.slice ga G.length gc) G w5 (HL.out _ B5.out) (HU.out _ B5.out) n1 n2 HF.out.cl (by have := HF.out.few; omega) HLI.out)
      rw [HRR.out] at US
      go_wp2_with fail
      go_at_call 52; refine US.out.mono ?_; rintro e w6 ⟨kv, mb, m, ba, bn, bc, Φ, V, rfl, g6, -, hbk, b6⟩
      obtain ⟨ka, kc, rfl⟩ := SI.len (d := (0 : Int)) (Grows.si g6)
      have hw5 : w.heap.size ≤ w5.heap.size := B5.out.size
      have G6 := Lib.hid g6
      have B6 := Lib.hid b6
      obtain ⟨t, ht⟩ : ∃ t, decide (0 ≤ R.2.2) = t := ⟨_, rfl⟩
      rw [ht]
      have HT := Lib.hid ht
      clear g6 b6 hbk ht x0 x1
      go_wp2_with fail
      go_quiet (fail)
      go_wp2_with fail
      refine bodyPost_ret (v := .tuple #[.slice ka R.1.length kc, .bool t, .bool true]) (by simp [results, Try.results17, go_sem]) rfl ?_
      have B7 : Below w6.heap.size w6 ((w6.alloc (.cells #[.slice ka R.1.length kc, .map (some mb), .slice ba bn bc, .bool t] 68)).drewN nq) := below_drewN (below_alloc w6 _) nq
      exact ⟨_, by rw [HT.out], SI.wide (Grows.si (d := (0 : Int)) (G6.out.below B7 (Nat.le_refl _))) hw5 (Nat.le_refl _) (Nat.le_refl _), B5.out.trans ((B6.out.trans (B7.mono B6.out.size)).mono hw5)⟩
end Go.Proofs.Ytnakpfbeeekmiaa
