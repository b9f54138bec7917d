/- The list of a set: its numbers in order of their letters. -/
import Derived.Test.YtnakpfbeeekmiaaMs
import Derived.Test.YtnakpfbeeekmiaaAg
import Derived.Test.YtnakpfbeeekmiaaKeyP
import Derived.Test.YtnakpfbeeekmiaaSrdP
import Derived.Test.YtnakpfbeeekmiaaSoP
import Derived.Shelf.SlIterI.Nil
namespace Go.Proofs.Ytnakpfbeeekmiaa
open Go.RowKit Go.ChangeShapes Go.WideShapes Go.Maps Go.Sort Go.Shelf
set_option maxRecDepth 100000

/-- slices.Sort's two contracts, at the fence that asks nothing. -/
theorem Try.sortsP (m : Nat) : AnyZI.SortsIn Try.prog Try.sortedP_ren Fence.wide m :=
  ⟨fun blk off cap ss W hH hblk hsz => callsIn_wide.2 (AnyM.slices_Sort_int Try.sortI blk off cap ss W hH hblk hsz),
   fun p cap W => callsIn_wide.2 (AnyM.slices_Sort_int_none Try.sortI p cap W)⟩
/-- The numbers of a set, in order of their letters. -/
structure SetL (S : Int → Bool) (Y : List Int) : Prop where
  nodup : Y.Nodup
  mem : ∀ x, x ∈ Y ↔ InR x ∧ S x = true
  up : ∀ i j, i < j → j < Y.length → lw (Y.getD i 0) ≤ lw (Y.getD j 0)
set_option maxHeartbeats 2000000 in
theorem listOf_len (S : Int → Bool) (b n : Nat) (w : World) (h : SetM S n b w) (hn : n ≤ 1048576) :
    Calls Try.prog 68 #[.map (some b)] w (fun e w' => ∃ Y u, (SetL S Y ∧ Y.length ≤ n) ∧ e = .returned u ∧ II w.heap.size w'.heap.size w' u Y ∧ Below w.heap.size w w') := by
  obtain ⟨D0, hown, hhas, -⟩ := h.own
  obtain ⟨hnd, hmem⟩ := keys_set hown hhas
  have hsz : Maps.size D0 ≤ 1048576 := Nat.le_trans hown.size_le hn
  refine (callsIn_wide (n := 6)).1 ?_
  have hbl := hown.lt
  have hseq : SeqGives Fence.wide 2 Try.prog 127 #[.pointer (some ⟨w.heap.size, 0, none⟩)] encZ (fun ss => ss.Perm (intKeys D0)) (Maps.size D0) (w.alloc (.cells #[.map (some b)] 79)) :=
    AnyZI.keys_gives (ρ := Try.keysP_ren) { Try.keysP with } Fence.wide _ trivial rfl (by omega) w.heap.size b n D0 _ (by simp) (by simp) (by
      obtain ⟨es, clock, hb, Ft, hs, hD⟩ := hown
      exact ⟨es, clock, (Below.heap_alloc _ _ b hbl).trans hb, Ft, hs, hD⟩)
  have cK : ∀ mb W, CallsIn Fence.wide 5 Try.prog 105 #[.map mb] W fun e w' => e = .returned (.func (.func 127) #[] #[.pointer (some ⟨W.heap.size, 0, none⟩)]) ∧ w' = W.alloc (.cells #[.map mb] 79) := fun mb W => AnyZI.keys_in Try.keysP Fence.wide 5 trivial rfl mb W
  have cS := AnyZI.sorted_in Try.sortedP Fence.wide 5 trivial trivial trivial trivial rfl (by omega) (Try.sortsP _) (enters_of Try.func126 (by kernel_rfl) rfl) 127 #[.pointer (some ⟨w.heap.size, 0, none⟩)] trivial (enters_of Try.func127 (by kernel_rfl) rfl) _ _ (by unfold maxLen; omega) (by omega) _ hseq
  change CallsIn _ _ Try.prog 104 _ _ _ at cS
  have cO : ∀ (B : Nat) (v : Value) (ss : List Int) (W : World), ss.Perm (intKeys D0) → W.ownsRow B 2 1 v ss.length ((ss.mergeSort (fun x y => decide (x ≤ y))).map encZ) → CallsIn Fence.wide 5 Try.prog 94 #[v] W (fun e w' => ∃ Y u, InOrd (ss.mergeSort (fun x y => decide (x ≤ y))) Y ∧ e = .returned u ∧ II W.heap.size w'.heap.size w' u Y ∧ Below W.heap.size W w') := fun B v ss W hp hv => callsIn_wide.2 (inOrder_any v _ W (SI.vl (Grows.si (mk := Value.int .i64) (E := 2) (Z := ss.mergeSort fun x y => decide (x ≤ y)) (by show World.ownsRow _ _ _ _ _ _ _; rw [List.length_mergeSort]; exact hv))) (by
      rw [List.length_mergeSort, hp.length_eq]
      obtain ⟨es, clock, hb, Ft, hs, hD⟩ := hown
      subst hD
      show (List.map _ _).length ≤ _
      rw [List.length_map]
      exact hsz) (fun x hx => by
      have hx2 := hp.mem_iff.1 ((List.mergeSort_perm ss _).mem_iff.1 hx)
      exact ((hmem x).1 hx2).1))
  have HM := Lib.hid (And.intro hnd hmem)
  have HSZ : Hid ((intKeys D0).length ≤ n) := Lib.hid (by
    have h1 := hown.size_le
    obtain ⟨es, clock, hb, Ft, hs, hD⟩ := hown
    subst hD
    show (List.map _ _).length ≤ _
    rw [List.length_map]
    exact h1)
  have hfK : Fence.wide.fn 105 := trivial
  have hfS : Fence.wide.fn 104 := trivial
  have hfO : Fence.wide.fn 94 := trivial
  refine callsIn_of_wp Try.func68 rfl trivial ?_ rfl
  simp only [Try.ntmps68, List.size_toArray, List.length_cons, List.length_nil, Nat.reduceAdd, Nat.reduceSub, Array.replicate_succ, Array.replicate_zero, List.push_toArray, List.append_toArray, List.nil_append, List.cons_append]
  gi_wp2_with (first
    | (gi_at_call 105; refine (cK _ _).mono ?_; rintro e w' ⟨rfl, rfl⟩)
    | (gi_at_call 104; refine cS.mono ?_; rintro e w2 ⟨v, ss, rfl, hS, hrow, hnil, hb2⟩)
    | (gi_at_call 94; refine (cO _ _ _ _ hS hrow).mono ?_; rintro e w3 ⟨Y, u, ho, rfl, hi, hb3⟩))
  go_ret
  have hz2 := hb2.size
  refine ⟨Y, u, ⟨⟨?_, fun x => ?_, ho.up⟩, by rw [((ho.perm.trans (List.mergeSort_perm ss _)).trans hS).length_eq]; exact HSZ.out⟩, rfl, SI.wide hi (Nat.le_trans (by simp) hz2) (Nat.le_refl _) (Nat.le_refl _), ((Below.refl _ w).alloc (Nat.le_refl _) _).trans ((hb2.trans (hb3.mono hz2)).mono (by simp))⟩
  · exact (((ho.perm.trans (List.mergeSort_perm ss _)).trans hS).nodup_iff).2 HM.out.1
  · rw [((ho.perm.trans (List.mergeSort_perm ss _)).trans hS).mem_iff]
    exact HM.out.2 x
theorem listOf_any (S : Int → Bool) (b n : Nat) (w : World) (h : SetM S n b w) (hn : n ≤ 1048576) :
    Calls Try.prog 68 #[.map (some b)] w (fun e w' => ∃ Y u, SetL S Y ∧ e = .returned u ∧ II w.heap.size w'.heap.size w' u Y ∧ Below w.heap.size w w') :=
  (listOf_len S b n w h hn).mono fun _ _ ⟨Y, u, ⟨h1, _⟩, h2⟩ => ⟨Y, u, h1, h2⟩
end Go.Proofs.Ytnakpfbeeekmiaa
