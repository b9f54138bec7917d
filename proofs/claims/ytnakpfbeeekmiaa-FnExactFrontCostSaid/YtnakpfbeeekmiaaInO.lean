/- slices.Insert of one element where there is room. -/
import Derived.Test.YtnakpfbeeekmiaaPtF
import Derived.Test.YtnakpfbeeekmiaaArr
import Derived.Test.YtnakpfbeeekmiaaIl
import Derived.Shelf.Spec.SlicesInsert
import Derived.Deep.LoopGhost
import Derived.Deep.RegionLaw
import Derived.Lib.Overlaps
import Derived.Laws.Externs
import Derived.Laws.IdiomCopy
import Derived.Lib.JoinLaws
namespace Go.Proofs.Ytnakpfbeeekmiaa
open Go.RowKit Go.ChangeShapes Go.WideShapes
set_option maxRecDepth 100000

theorem shape_of {w : World} {b o : Nat} {v : Value} (h : w.cell? ⟨b, o, none⟩ = some v) : ∃ t k, w.shape? b = some (t, k) ∧ k ≠ 0 := by
  unfold World.cell? at h
  split at h
  · rename_i c e f hb
    have hb2 : w.heap[b]? = some (.cells c e f) := hb
    simp at h
    have hs : o < c.size := (Array.getElem?_eq_some_iff.1 h).1
    refine ⟨e, c.size, ?_, by omega⟩
    unfold World.shape?
    rw [hb2]
  · cases h
theorem turned_cells {lo hi b : Nat} : ∀ (vs : List Value) (o : Nat) (w0 w : World), Turned lo hi w0 w → lo ≤ b → b < hi → Turned lo hi w0 (w.setCells b o vs)
  | [], _, _, _, h, _, _ => h
  | v :: r, o, w0, w, h, h1, h2 => by
    rw [World.setCells]
    exact turned_cells r (o + 1) w0 _ (h.setCell (p := ⟨b, o, none⟩) h1 h2 v) h1 h2
theorem one_all (L : List Int) : ∀ v ∈ L.map (Value.int .i64), v.oneCell' = true := fun v hv => by
  obtain ⟨x, -, rfl⟩ := List.mem_map.1 hv
  rfl
theorem shift_arr {w : World} {b off i : Nat} {x : Int} {u : Value} {Z : List Int} (hA : Arr (Value.int .i64) 0 w b off Z) (hu : w.cell? ⟨b, off + Z.length, none⟩ = some u) (hi : i ≤ Z.length) :
    Arr (Value.int .i64) 0 ((w.setCells b (off + (i + 1)) ((Z.drop i).map (Value.int .i64))).setCells b (off + i) [.int .i64 x]) b off (putF Z i x) := by
  have hs : ∀ k, k < Z.length + 1 → (w.cell? ⟨b, off + k, none⟩).isSome = true := fun k hk => by
    by_cases h : k < Z.length
    · rw [hA.cells k h]; rfl
    · obtain rfl : k = Z.length := by omega
      rw [hu]; rfl
  have hs1 : ∀ k, k < Z.length + 1 → ((w.setCells b (off + (i + 1)) ((Z.drop i).map (Value.int .i64))).cell? ⟨b, off + k, none⟩).isSome = true := fun k hk =>
    isSome_setCells b _ _ _ (fun j hj => by rw [Nat.add_assoc]; exact hs _ (by simp at hj; omega)) _ (hs k hk)
  refine ⟨fun j hj => ?_, fun j => by rw [World.frozen?_setCells, World.frozen?_setCells]; exact hA.free j⟩
  rw [putF_len hi] at hj
  rw [putF_at hi]
  by_cases e : j = i
  · subst e
    rw [if_neg (Nat.lt_irrefl _), if_pos rfl]
    have := World.cell?_setCells_in b [Value.int .i64 x] (off + j) (w.setCells b (off + (j + 1)) ((Z.drop j).map (Value.int .i64))) (fun q hq => by
      simp at hq; subst hq; exact hs1 j (by omega)) 0 (by simp)
    simpa using this
  · rw [World.cell?_setCells_out b _ _ _ _ (fun _ _ => by show off + j < off + i ∨ off + i + 1 ≤ off + j; omega)]
    by_cases h : j < i
    · rw [if_pos h, World.cell?_setCells_out b _ _ _ _ (fun _ _ => by show off + j < off + (i + 1) ∨ _; omega), hA.cells j (by omega)]
    · rw [if_neg h, if_neg e]
      have := World.cell?_setCells_in b ((Z.drop i).map (Value.int .i64)) (off + (i + 1)) w (fun q hq => by
        rw [Nat.add_assoc]; exact hs _ (by simp at hq; omega)) (j - (i + 1)) (by simp; omega)
      rw [show off + (i + 1) + (j - (i + 1)) = off + j by omega] at this
      rw [this]
      simp only [List.getElem_map, List.getElem_drop]
      congr 2
      rw [List.getD, List.getElem?_eq_getElem (by omega)]
      simp only [Option.getD_some]
      congr 1
      omega
/-- The block stays one of as many cells. -/
def KeptB (b : Nat) (w w' : World) : Prop := ∀ cur e, w.heap[b]? = some (.cells cur e (0, 0)) → ∃ cur' : Array Value, w'.heap[b]? = some (.cells cur' e (0, 0)) ∧ cur'.size = cur.size
theorem KeptB.refl (b : Nat) (w : World) : KeptB b w w := fun cur _ h => ⟨cur, h, rfl⟩
theorem KeptB.cell {b : Nat} {w0 w : World} (h : KeptB b w0 w) (o : Nat) (v : Value) : KeptB b w0 (w.setCell ⟨b, o, none⟩ v) := fun cur e hc => by
  obtain ⟨c1, h1, h2⟩ := h cur e hc
  refine ⟨c1.setIfInBounds o v, ?_, by simpa using h2⟩
  show (w.heap.modify b _)[b]? = _
  rw [Array.getElem?_modify, if_pos rfl, h1]
  rfl
theorem KeptB.cells {b : Nat} {w0 : World} : ∀ (vs : List Value) (o : Nat) (w : World), KeptB b w0 w → KeptB b w0 (w.setCells b o vs)
  | [], _, _, h => h
  | v :: r, o, w, h => by
    rw [World.setCells]
    exact KeptB.cells r (o + 1) _ (h.cell o v)
/-- What slices.Insert of one element does. -/
def PutAt (b off c n : Nat) (Z : List Int) (w : World) (e : Ending) (w' : World) : Prop := e = .returned (.slice (some ⟨b, off, none⟩) n c) ∧ Turned b (b + 1) w w' ∧ Arr (Value.int .i64) 0 w' b off Z ∧ KeptB b w w'
set_option maxHeartbeats 4000000 in
theorem insert_mid (b off c i vb : Nat) (x : Int) (u : Value) (Z : List Int) (w : World) (hA : Arr (Value.int .i64) 0 w b off Z) (hu : w.cell? ⟨b, off + Z.length, none⟩ = some u) (hi : i < Z.length) (hroom : Z.length + 1 ≤ c) (hc63 : c ≤ 9223372036854775807) (hvb : vb ≠ b)
    (hx : w.cell? ⟨vb, 0, none⟩ = some (.int .i64 x)) (hfv : ∀ j, w.frozen? ⟨vb, j, none⟩ = false) :
    Calls Try.prog 91 #[.slice (some ⟨b, off, none⟩) Z.length c, .int .i64 i, .slice (some ⟨vb, 0, none⟩) 1 1] w (PutAt b off c (Z.length + 1) (putF Z i x) w) := by
  obtain ⟨tA, kA, hsa, -⟩ := shape_of hx
  obtain ⟨tB, kB, hsb, hkB⟩ := shape_of (hA.cells 0 (by omega))
  obtain ⟨i0, hi0, hz0, hz1, hz2⟩ := info_parts Try.infoI
  have hsz : (Try.prog.info? 2).map (·.size) = some 1 := by rw [hi0]; simp [hz1]
  have hov : ∀ lb cb, (callFunc 113 #[.slice (some ⟨vb, 0, none⟩) 1 1, .slice (some ⟨b, off + (i + 1), none⟩) lb cb]).run Try.prog w = .ok (.value (.bool false)) w := fun lb cb => by
    rw [run_callFunc_extern Try.func113 (by kernel_rfl) (by kernel_rfl) (by kernel_rfl) (e := Extern.SlicesOverlaps.overlaps #[25, 25] #[4]) (by kernel_rfl),
      Lib.run_overlaps_apart w 25 4 2 Try.underlying25 1 Try.sizeOf2 ⟨vb, 0, none⟩ ⟨b, off + (i + 1), none⟩ 1 1 lb cb hvb tA tB kA kB hsa hsb hkB (hfv _) (hfv _)]
    rfl
  have hcell : ∀ k, k < Z.length + 1 → (w.cell? ⟨b, off + k, none⟩).isSome = true := fun k hk => by
    by_cases h : k < Z.length
    · rw [hA.cells k h]; rfl
    · obtain rfl : k = Z.length := by omega
      rw [hu]; rfl
  obtain ⟨cs, hcs⟩ : ∃ cs, cs = (Z.drop i).map (Value.int .i64) := ⟨_, rfl⟩
  have hcl : cs.length = Z.length - i := by rw [hcs]; simp
  have hcp1 : ∀ ty dc sc, (Builtin.copy_ #[25, 25] ty #[.slice (some ⟨b, off + (i + 1), none⟩) (Z.length - i) dc, .slice (some ⟨b, off + i, none⟩) (Z.length + 1 - i) sc]).run Try.prog w.drew = .ok (goInt cs.length) (w.drew.setCells b (off + (i + 1)) cs) := fun ty dc sc =>
    run_copy_cells w.drew _ _ ty 2 b (off + (i + 1)) (Z.length - i) dc ⟨b, off + i, none⟩ (Z.length + 1 - i) sc cs Try.underlying25 hsz (by rw [hcl]; simp only [Nat.min_def]; split <;> omega)
      (fun j v hj => by
        have hj2 := (List.getElem?_eq_some_iff.1 hj).1
        rw [Addr.add_lit, Nat.add_assoc]
        show w.cell? _ = _
        rw [hA.cells (i + j) (by omega), List.getD, ← hj, hcs, List.getElem?_map, List.getElem?_drop, List.getElem?_eq_getElem (by omega)]
        rfl)
      (fun j hj => by rw [Nat.add_assoc]; exact hcell _ (by omega)) (fun j _ => hA.free _) (by rw [hcs]; exact one_all _)
  obtain ⟨W1, hW1⟩ : ∃ W1, W1 = w.drew.setCells b (off + (i + 1)) cs := ⟨_, rfl⟩
  have hsp1 : ∀ k, k < Z.length + 1 → (W1.cell? ⟨b, off + k, none⟩).isSome = true := fun k hk => by
    rw [hW1]
    exact isSome_setCells b _ _ _ (fun j hj => by rw [Nat.add_assoc]; exact hcell _ (by omega)) _ (hcell k hk)
  have hcp2 : ∀ (W : World), (∀ x, W.cell? x = W1.cell? x) → (∀ x, W.frozen? x = W1.frozen? x) → ∀ ty dc, (Builtin.copy_ #[25, 25] ty #[.slice (some ⟨b, off + i, none⟩) (Z.length + 1 - i) dc, .slice (some ⟨vb, 0, none⟩) 1 1]).run Try.prog W = .ok (goInt 1) (W.setCells b (off + i) [.int .i64 x]) := fun W hWc hWf ty dc =>
    run_copy_cells W _ _ ty 2 b (off + i) (Z.length + 1 - i) dc ⟨vb, 0, none⟩ 1 1 [.int .i64 x] Try.underlying25 hsz (by simp only [Nat.min_def, List.length_singleton]; split <;> omega)
      (fun j v hj => by
        have hj2 : j = 0 := by have := (List.getElem?_eq_some_iff.1 hj).1; simp at this; omega
        subst hj2
        simp at hj
        subst hj
        rw [Addr.add_lit, hWc, hW1, World.cell?_setCells_out b _ _ _ _ (fun h _ => absurd h hvb)]
        exact hx)
      (fun j hj => by
        have hj2 : j = 0 := by simp at hj; exact hj
        subst hj2
        rw [hWc]; exact hsp1 i (by omega))
      (fun j _ => by rw [hWf, hW1, World.frozen?_setCells]; exact hA.free _) (fun v hv => by simp at hv; subst hv; rfl)
  rw [← hW1] at hcp1
  have HR : Hid (∀ W, (W = W1 ∨ W = W1.drew) → PutAt b off c (Z.length + 1) (putF Z i x) w (.returned (.slice (some ⟨b, off, none⟩) (Z.length + 1) c)) (W.setCells b (off + i) [.int .i64 x])) := Lib.hid fun W hW => by
    have hT : Turned b (b + 1) w W1 := by
      rw [hW1]
      exact turned_cells _ _ _ _ ((Turned.refl b (b + 1) w).drewN 1) (Nat.le_refl _) (Nat.lt_succ_self _)
    have hAA : Arr (Value.int .i64) 0 (W1.setCells b (off + i) [.int .i64 x]) b off (putF Z i x) := by
      rw [hW1, hcs]
      exact shift_arr (w := w.drew) (hA.drewN 1) hu (by omega)
    have hK : KeptB b w W1 := by
      rw [hW1]
      exact KeptB.cells _ _ w.drew (KeptB.refl b w)
    rcases hW with rfl | rfl
    · exact ⟨rfl, turned_cells _ _ _ _ hT (Nat.le_refl _) (Nat.lt_succ_self _), hAA, KeptB.cells _ _ _ hK⟩
    · exact ⟨rfl, turned_cells _ _ _ _ (hT.drewN 1) (Nat.le_refl _) (Nat.lt_succ_self _), ⟨fun j hj => hAA.cells j hj, fun j => hAA.free j⟩, KeptB.cells _ _ W1.drew hK⟩
  have hw1 : IntKind.i64.wrap ((i : Int) + 1) = (i : Int) + 1 := by rw [IntKind.wrap_i64]; omega
  have hb1 : (0 : Int) ≤ (i : Int) + 1 := by omega
  have htn : ((i : Int) + 1).toNat = i + 1 := by omega
  have hw2 : IntKind.i64.wrap ((Z.length : Int) + 1) = (Z.length : Int) + 1 := by rw [IntKind.wrap_i64]; omega
  have hz2 : ¬ ((i : Int) = (Z.length : Int)) := by omega
  have hb2 : ¬ (c = i + 1) := by omega
  have hb4 : ¬ (c = i) := by omega
  have hle : i ≤ Z.length := by omega
  have hle2 : i ≤ Z.length + 1 := by omega
  have hle3 : (i : Int) ≤ (Z.length : Int) + 1 := by omega
  have mixed : Try.prog.follows .mixedOrders = true := by kernel_rfl
  clear hA hu hcell hsp1 hcs hcl hx hfv hW1
  go_enter Try.func91, Try.ntmps91
  go_wp2_with (simp only [hov])
  go_region_law_o (refine step_copy_runI rfl _ _ 25 25 rfl _ _ (by simp [Act.eval, Act.put]) (by simp [Act.eval, Act.put]) (hcp1 _ _ _) ?_)
  go_wp2_with (at_builtin; refine wpList_copy_runI _ rfl _ _ 25 25 rfl _ _ rfl rfl (hcp2 _ (fun _ => rfl) (fun _ => rfl) _ _) ?_)
  go_ret
  first | exact HR.out _ (Or.inl rfl) | exact HR.out _ (Or.inr rfl)
theorem frozen_new (w : World) (c : Array Value) (E : TypeId) (j : Nat) : (w.alloc (.cells c E)).frozen? ⟨w.heap.size, j, none⟩ = false := by
  unfold World.frozen?
  rw [show (w.alloc (.cells c E)).heap[(⟨w.heap.size, j, none⟩ : Addr).block]? = _ from heap_alloc_new w _]
  simp
set_option maxHeartbeats 4000000 in
theorem insert_end (b off c vb : Nat) (x : Int) (u : Value) (Z : List Int) (w : World) (hA : Arr (Value.int .i64) 0 w b off Z) (hcd : w.cell? ⟨b, off + Z.length, none⟩ = some u) (hroom : Z.length + 1 ≤ c)
    (hx : w.cell? ⟨vb, 0, none⟩ = some (.int .i64 x)) :
    Calls Try.prog 91 #[.slice (some ⟨b, off, none⟩) Z.length c, .int .i64 (Z.length : Nat), .slice (some ⟨vb, 0, none⟩) 1 1] w (PutAt b off c (Z.length + 1) (putF Z Z.length x) w) := by
  have mixed : Try.prog.follows .mixedOrders = true := by kernel_rfl
  have hfd : w.frozen? ⟨b, off + Z.length, none⟩ = false := hA.free _
  have HR : Hid (PutAt b off c (Z.length + 1) (putF Z Z.length x) w (.returned (.slice (some ⟨b, off, none⟩) (Z.length + 1) c)) (w.setCell ⟨b, off + Z.length, none⟩ (.int .i64 x))) := Lib.hid (by
    show PutAt _ _ _ _ _ _ _ (w.setCells b (off + Z.length) [.int .i64 x])
    refine ⟨rfl, turned_cells _ _ _ _ (Turned.refl _ _ _) (Nat.le_refl _) (Nat.lt_succ_self _), ?_, KeptB.cells _ _ _ (KeptB.refl _ _)⟩
    have h := shift_arr (x := x) hA hcd (Nat.le_refl Z.length)
    rw [List.drop_length] at h
    exact h)
  have hb4 : ¬ (c = Z.length) := by omega
  have hle : Z.length ≤ c := by omega
  clear hA
  go_enter Try.func91, Try.ntmps91
  go_wp2_with fail
  go_ret
  exact HR.out
theorem insert_any (b off c k vb : Nat) (x : Int) (u : Value) (Z : List Int) (w : World) (hA : Arr (Value.int .i64) 0 w b off Z) (hu : w.cell? ⟨b, off + Z.length, none⟩ = some u) (hk : k ≤ Z.length) (hroom : Z.length + 1 ≤ c) (hc63 : c ≤ 9223372036854775807) (hvb : vb ≠ b)
    (hx : w.cell? ⟨vb, 0, none⟩ = some (.int .i64 x)) (hfv : ∀ j, w.frozen? ⟨vb, j, none⟩ = false) :
    Calls Try.prog 91 #[.slice (some ⟨b, off, none⟩) Z.length c, .int .i64 k, .slice (some ⟨vb, 0, none⟩) 1 1] w (PutAt b off c (Z.length + 1) (putF Z k x) w) := by
  by_cases h : k < Z.length
  · exact insert_mid b off c k vb x u Z w hA hu h hroom hc63 hvb hx hfv
  · obtain rfl : k = Z.length := by omega
    exact insert_end b off c vb x u Z w hA hu hroom hx
end Go.Proofs.Ytnakpfbeeekmiaa
