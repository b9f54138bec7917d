/- A clause as an array of ten numbers: the program. -/
import Derived.Test.YtnakpfbeeekmiaaThP
import Derived.Test.YtnakpfbeeekmiaaConZ
import Derived.Test.YtnakpfbeeekmiaaArr
import Derived.Laws.MakeOwn
import Derived.Laws.Cover3
import Derived.Laws.OwnMore
namespace Go.Proofs.Ytnakpfbeeekmiaa
open Go.RowKit Go.ChangeShapes Go.WideShapes
set_option maxRecDepth 100000

def ten (P : List Int) : List Int := P ++ List.replicate 10 0
theorem concatT_any (g : Nat) (v : Value) (ad2 : Addr) (cap2 : Nat) (P Z : List Int) (w : World) (hv : IL w v P) (hb : Box2 w g v (.slice (some ad2) Z.length cap2)) (hZ : LiesC w ad2 Z) (nP : P.length ≤ 10) (nZ : Z.length ≤ 10) (hp : 0 < Z.length) :
    Calls Try.prog 102 #[.slice (some ⟨g, 0, none⟩) 2 2] w (Made (Value.int .i64) (0 : Int) (P ++ Z) w) := by
  by_cases h0 : P.length = 0
  · have hP : P = [] := List.eq_nil_of_length_eq_zero h0
    subst hP
    rcases hv.lies with ⟨-, cap, rfl⟩ | ⟨ad, cap, rfl, -⟩
    · exact concatZ_any g cap ad2 cap2 Z w hb hZ (by omega) hp
    · exact concatI_any g ad ad2 cap cap2 [] Z w hb (fun w' _ j u hu => by simp at hu) hZ (by omega) (by omega) (by omega)
  · obtain ⟨ad, cap, rfl, hl⟩ := hv.liesC (by omega)
    exact concatI_any g ad ad2 cap cap2 P Z w hb hl hZ (by omega) (by omega) (by omega)
set_option maxHeartbeats 4000000 in
theorem arrayOf_any (v : Value) (P : List Int) (w : World) (hv : IL w v P) (hP : P.length ≤ 10) :
    Calls Try.prog 108 #[v] w (fun e w' => ∃ q : Nat → Int, (∀ j, q j = (ten P).getD j 0) ∧ e = .returned (.agg #[.int .i64 (q 0), .int .i64 (q 1), .int .i64 (q 2), .int .i64 (q 3), .int .i64 (q 4), .int .i64 (q 5), .int .i64 (q 6), .int .i64 (q 7), .int .i64 (q 8), .int .i64 (q 9)]) ∧ Below w.heap.size w w') := by
  obtain ⟨i0, hi, hz0, hz1, hz2⟩ := info_parts Try.infoI
  have HV : Hid (∀ W, Below w.heap.size w W → IL W v P) := Lib.hid fun W b => hv.below b (Nat.le_refl _)
  obtain ⟨va, vc, rfl⟩ := hv.long
  obtain ⟨W1, hW1⟩ : ∃ W1, W1 = w.alloc (.cells #[.int .i64 0, .int .i64 0, .int .i64 0, .int .i64 0, .int .i64 0, .int .i64 0, .int .i64 0, .int .i64 0, .int .i64 0, .int .i64 0] 115) := ⟨_, rfl⟩
  have HW0 : Hid (Below w.heap.size w W1 ∧ W1.heap.size = w.heap.size + 1) := Lib.hid (by rw [hW1]; exact ⟨below_alloc _ _, by simp⟩)
  have HRB : Hid (W1.heap[w.heap.size]? = some (.cells #[.int .i64 0, .int .i64 0, .int .i64 0, .int .i64 0, .int .i64 0, .int .i64 0, .int .i64 0, .int .i64 0, .int .i64 0, .int .i64 0] 115 (0, 0))) := Lib.hid (by rw [hW1]; exact heap_alloc_new _ _)
  have hw1 : W1.heap.size = w.heap.size + 1 := HW0.out.2
  have HW1 := Lib.hid hW1
  have HM : Hid ((madeCells (Value.int .i64 0).cells (10 * 1)).toList = (List.replicate 10 (0 : Int)).map (Value.int .i64)) := Lib.hid (by show (madeCells #[.int .i64 0] 10).toList = _; rw [toList_madeCells_one, List.map_replicate])
  clear hv hW1
  go_enter Try.func108, Try.ntmps108
  go_wp2_with (at_make; (refine wpList_make_full _ rfl _ _ 25 rfl w.heap.size 2 i0 (.int .i64 0) 1 Try.underlying25 hi hz0 hz1 _ _ _ _ 10 rfl rfl rfl rfl (by rw [hz2]; omega) (by unfold maxLen; omega) (by simp) ?_; intro w2 hown hgrow; have HO : Hid (Grows (Value.int .i64) 2 w.heap.size (.slice (some ⟨W1.heap.size, 0, none⟩) 10 10) (List.replicate 10 0) w2) := Lib.hid (by rw [HW1.out]; rw [HM.out] at hown; exact hown); have HB2 : Hid (Below W1.heap.size W1 w2) := Lib.hid (by rw [HW1.out]; exact (Below.refl _ _).grown hgrow (Nat.le_refl _) (fun k hk => by cases hk)); clear hown hgrow))
  have hw2 : W1.heap.size ≤ w2.heap.size := HB2.out.size
  have BA := Lib.hid (below_alloc w2 (.cells #[.slice va P.length vc, .slice (some ⟨W1.heap.size, 0, none⟩) 10 10] 25))
  have HLZ : Hid (LiesC (w2.alloc (.cells #[.slice va P.length vc, .slice (some ⟨W1.heap.size, 0, none⟩) 10 10] 25)) ⟨W1.heap.size, 0, none⟩ (List.replicate 10 0)) := Lib.hid (by
    have h : IL _ _ (List.replicate 10 0) := VL.below (d := (0 : Int)) (SI.vl (Grows.si HO.out)) BA.out (Nat.le_refl _)
    obtain ⟨ad, cp, e, hl⟩ := IL.liesC (Z := List.replicate 10 0) h (by simp)
    have had : ad = ⟨W1.heap.size, 0, none⟩ := by injection e with e1 _ _; exact (Option.some.inj e1).symm
    subst had
    exact hl)
  have CT := Lib.hid (concatT_any w2.heap.size (.slice va P.length vc) ⟨W1.heap.size, 0, none⟩ 10 P (List.replicate 10 0) _ (HV.out _ (HW0.out.1.trans ((HB2.out.trans (BA.out.mono hw2)).mono HW0.out.1.size))) (Box2.mk' w2 _ _ 25) HLZ.out hP (by simp) (by simp))
  rw [← hw1]
  go_at_call 102; refine CT.out.mono ?_; rintro e w7 ⟨v7, rfl, i7, b7⟩
  have B7 : Hid (Below W1.heap.size W1 w7) := Lib.hid (HB2.out.trans ((BA.out.trans (b7.mono BA.out.size)).mono hw2))
  have hb7 := (HRB.out)
  have HRB7 : Hid (w7.heap[w.heap.size]? = some (.cells #[.int .i64 0, .int .i64 0, .int .i64 0, .int .i64 0, .int .i64 0, .int .i64 0, .int .i64 0, .int .i64 0, .int .i64 0, .int .i64 0] 115 (0, 0))) := Lib.hid (by rw [B7.out.block _ (by omega)]; exact HRB.out)
  have HB7 := Lib.hid (HW0.out.1.trans (B7.out.mono HW0.out.1.size))
  have hlen : (P ++ List.replicate 10 0).length = P.length + 10 := by simp
  obtain ⟨q, hq⟩ : ∃ q : Nat → Int, ∀ j, q j = (ten P).getD j 0 := ⟨fun j => (ten P).getD j 0, fun _ => rfl⟩
  have HQ := Lib.hid hq
  have HI7 := Lib.hid (SI.vl i7)
  rcases SI.vl i7 with ⟨hz, -⟩ | ⟨b, off, cap, e, hpos, hbl, hcell⟩
  · rw [hz] at hlen; simp at hlen
  rw [hlen] at e
  subst e
  have hc : ∀ j, j < 10 → w7.cell? ⟨b, off + j, none⟩ = some (.int .i64 (q j)) := fun j hj => by
    rw [hq j]; exact hcell j (by rw [hlen]; omega)
  have d0 := hc 0 (by omega)
  have d1 := hc 1 (by omega)
  have d2 := hc 2 (by omega)
  have d3 := hc 3 (by omega)
  have d4 := hc 4 (by omega)
  have d5 := hc 5 (by omega)
  have d6 := hc 6 (by omega)
  have d7 := hc 7 (by omega)
  have d8 := hc 8 (by omega)
  have d9 := hc 9 (by omega)
  rw [Nat.add_zero] at d0
  have r0 : ∀ i, w7.cell? ⟨w.heap.size, i, none⟩ = (#[.int .i64 0, .int .i64 0, .int .i64 0, .int .i64 0, .int .i64 0, .int .i64 0, .int .i64 0, .int .i64 0, .int .i64 0, .int .i64 0] : Array Value)[i]? := fun i => by rw [Lib.cell_of_heap HRB7.out]
  have rf : ∀ i, w7.frozen? ⟨w.heap.size, i, none⟩ = false := fun i => Lib.frozen_of_heap HRB7.out i
  have f1 : (10 : Int) ≤ ((P.length + 10 + cap : Nat) : Int) := by omega
  have f2 : (10 : Int) ≤ ((P.length + 10 : Nat) : Int) := by omega
  have ra := run_arrayAt (P := Try.prog) (w := w7) 115 2 10 (some ⟨b, off, none⟩) 10 (P.length + 10 + cap) Try.underlying115 (Nat.le_refl _)
  clear i7 b7 hq hcell hc hlen hpos CT HLZ hb7
  have rf0 := rf 0
  have rf1 := rf 1
  have rf2 := rf 2
  have rf3 := rf 3
  have rf4 := rf 4
  have rf5 := rf 5
  have rf6 := rf 6
  have rf7 := rf 7
  have rf8 := rf 8
  have rf9 := rf 9
  clear rf
  have r00 : w7.cell? ⟨w.heap.size, 0, none⟩ = some (.int .i64 0) := r0 0
  have r01 : w7.cell? ⟨w.heap.size, 1, none⟩ = some (.int .i64 0) := r0 1
  have r02 : w7.cell? ⟨w.heap.size, 2, none⟩ = some (.int .i64 0) := r0 2
  have r03 : w7.cell? ⟨w.heap.size, 3, none⟩ = some (.int .i64 0) := r0 3
  have r04 : w7.cell? ⟨w.heap.size, 4, none⟩ = some (.int .i64 0) := r0 4
  have r05 : w7.cell? ⟨w.heap.size, 5, none⟩ = some (.int .i64 0) := r0 5
  have r06 : w7.cell? ⟨w.heap.size, 6, none⟩ = some (.int .i64 0) := r0 6
  have r07 : w7.cell? ⟨w.heap.size, 7, none⟩ = some (.int .i64 0) := r0 7
  have r08 : w7.cell? ⟨w.heap.size, 8, none⟩ = some (.int .i64 0) := r0 8
  have r09 : w7.cell? ⟨w.heap.size, 9, none⟩ = some (.int .i64 0) := r0 9
  clear r0
  go_wp2_with fail
  refine bodyPost_ret (v := .agg #[.int .i64 (q 0), .int .i64 (q 1), .int .i64 (q 2), .int .i64 (q 3), .int .i64 (q 4), .int .i64 (q 5), .int .i64 (q 6), .int .i64 (q 7), .int .i64 (q 8), .int .i64 (q 9)]) (by simp [results, Try.results108, r00, r01, r02, r03, r04, r05, r06, r07, r08, r09, go_sem]) rfl ?_
  generalize hX : World.setCell _ _ _ = X
  have hT : Turned w.heap.size (w.heap.size + 1) w7 X := by
    rw [← hX]
    repeat (refine Turned.setCell ?_ (by simp) (by simp) _)
    exact Turned.refl _ _ _
  clear hX
  exact ⟨q, HQ.out, rfl, HB7.out.trans ((hT.below (by have := B7.out.size; omega)).mono (by omega))⟩
end Go.Proofs.Ytnakpfbeeekmiaa
