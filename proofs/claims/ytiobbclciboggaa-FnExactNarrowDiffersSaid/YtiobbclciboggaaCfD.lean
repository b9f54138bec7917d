/- How many choices there are, and the first one (fits: differsIn$1). -/
import Derived.Test.YtiobbclciboggaaRfD
import Derived.OwnWalkIn
import Derived.TacticsInMore
import Derived.LoopIn
namespace Go.Proofs.Ytiobbclciboggaa
open Go.RowKit Go.ChangeShapes Go.WideShapes
attribute [local go_sem] Oper.semAt_some

set_option maxRecDepth 100000 in
set_option maxHeartbeats 4000000 in
theorem countD_any (lv : Value) (Ls : List (List Int)) (w : World) (hlv : LV w lv Ls)
    (hD : ∀ i, (Ls.getD i []).length ≤ 1000 ∧ ∀ x ∈ Ls.getD i [], 0 ≤ x ∧ x ≤ 1000) (hLs : Ls.length ≤ 1000) (hNe : ∀ i, i < Ls.length → (Ls.getD i []).length ≠ 0) :
    Calls Try.prog 62 #[.agg #[lv, fitD]] w (SaysI (cntW (exts nwB Ls Ls.length [])) w) := by
  obtain ⟨la, lc, rfl⟩ := hlv.long
  have HLV := Lib.hid hlv
  clear hlv
  refine (callsIn_wide (n := 5)).1 ?_
  refine callsIn_of_wp_marks Try.func62 rfl trivial ?_ rfl
  simp only [Try.ntmps62, List.size_toArray, List.length_cons, List.length_nil, Nat.reduceAdd, Nat.reduceSub, Array.replicate_succ, Array.replicate_zero, List.push_toArray, List.append_toArray, List.nil_append, List.cons_append]
  have hb2 : ∀ A B, Below w.heap.size w ((w.alloc A).alloc B) := fun A B => (below_alloc w A).alloc (by simp) B
  have hb3 : ∀ A B C, Below w.heap.size w (((w.alloc A).alloc B).alloc C) := fun A B C => ((below_alloc w A).alloc (by simp) B).alloc (by simp; omega) C
  gi_wp2_with (refine ⟨trivial, ?_⟩; gi_at_call 110; refine (callsIn_wide.2 (allD_any _ Ls _ (HLV.out.below (hb2 _ _) (Nat.le_refl _)))).mono ?_; rintro e w' ⟨rfl, rfl⟩)
  obtain ⟨W, hW⟩ : ∃ W, W = (((w.alloc (.cells #[.slice la Ls.length lc, fitD] 75)).alloc (.cells #[.int .i64 0] 2)).alloc (.cells #[.slice la Ls.length lc, fitD] 75)) := ⟨_, rfl⟩
  have hz : W.heap.size = w.heap.size + 3 := by rw [hW]; simp
  have hc : W.cell? ⟨w.heap.size + 1, 0, none⟩ = some (.int .i64 0) ∧ W.frozen? ⟨w.heap.size + 1, 0, none⟩ = false := by
    have k := World.cell?_alloc_new (w.alloc (.cells #[.slice la Ls.length lc, fitD] 75)) #[.int .i64 0] 2 0
    have f := World.frozen?_alloc_new (w.alloc (.cells #[.slice la Ls.length lc, fitD] 75)) #[.int .i64 0] 2 0
    have b := below_alloc ((w.alloc (.cells #[.slice la Ls.length lc, fitD] 75)).alloc (.cells #[.int .i64 0] 2)) (.cells #[.slice la Ls.length lc, fitD] 75)
    rw [World.size_alloc] at k f
    rw [hW]
    exact ⟨keep_cell k b (by simp), by rw [b.frozen (p := ⟨w.heap.size + 1, 0, none⟩) (by show _ < _; simp)]; exact f⟩
  have hx : Box2 W (w.heap.size + 2) (.slice la Ls.length lc) fitD := by
    have := Box2.mk' ((w.alloc (.cells #[.slice la Ls.length lc, fitD] 75)).alloc (.cells #[.int .i64 0] 2)) (.slice la Ls.length lc) fitD 75
    rw [hW]; simpa using this
  have hbw : Below w.heap.size w W := by rw [hW]; exact hb3 _ _ _
  rw [← hW]
  clear hW hb2 hb3
  refine rangeD (c := w.heap.size + 2) (w0 := w) 5 (by rfl) rfl (fun k => k = w.heap.size + 1)
    (fun pre X => X.cell? ⟨w.heap.size + 1, 0, none⟩ = some (.int .i64 (cntW pre)) ∧ X.frozen? ⟨w.heap.size + 1, 0, none⟩ = false ∧ Below w.heap.size w X) (fun _ _ _ => False)
    Ls (.slice la Ls.length lc) HLV.out hD hLs hNe hx hbw (fun k hk => by omega) (fun k hk => by omega) ?keep (fun _ _ _ _ h _ => h) (fun _ _ h => h.2.2) ⟨by rw [show cntW [] = 0 by unfold cntW wrap64; simp]; exact hc.1, hc.2, hbw⟩ ?round ?done (fun _ _ _ _ _ h _ => h.elim)
  case keep =>
    rintro pre X X' ⟨h1, h2, h3⟩ hb
    have hk := hb.block (w.heap.size + 1) (cell_block h1) (by omega)
    refine ⟨by rw [World.cell?_of_block (w := X) (a := ⟨w.heap.size + 1, 0, none⟩) hk]; exact h1, by rw [World.frozen?_of_block (w := X) (a := ⟨w.heap.size + 1, 0, none⟩) hk]; exact h2, h3.trans ⟨hb.os, hb.tape, hb.output, hb.size, fun k hk => hb.block k (by have := h3.size; omega) (by omega)⟩⟩
  case round =>
    rintro pre C v X ⟨h1, h2, h3⟩ hC hv hzX
    refine ⟨_, fun K hK => by gi_wp2; exact hK, fun X2 hb2 _ => ?_⟩
    have hk := hb2.block (w.heap.size + 1) (cell_block h1) (by omega)
    have k1 : X2.cell? ⟨w.heap.size + 1, 0, none⟩ = some (.int .i64 (cntW pre)) := by rw [World.cell?_of_block (w := X) (a := ⟨w.heap.size + 1, 0, none⟩) hk]; exact h1
    have k2 : X2.frozen? ⟨w.heap.size + 1, 0, none⟩ = false := by rw [World.frozen?_of_block (w := X) (a := ⟨w.heap.size + 1, 0, none⟩) hk]; exact h2
    have k3 : Below w.heap.size w X2 := h3.trans ⟨hb2.os, hb2.tape, hb2.output, hb2.size, fun k hk => hb2.block k (by have := h3.size; omega) (by omega)⟩
    have KK := Lib.hid (And.intro k1 k3)
    have K2 := Lib.hid k2
    have hcw : cntW (pre ++ [C]) = wrap64 (cntW pre + 1) := by
      unfold cntW; rw [List.length_append, wrap_addl]; simp
    have HCW := Lib.hid hcw
    clear hk h1 h2 h3 hb2 hcw k3
    generalize cntW pre = z at k1 HCW KK
    gi_wp2
    refine ⟨⟨rfl, rfl, rfl, by simp [World.setCell], fun k _ hs => Below.heap_setCell _ _ _ _ hs⟩, ?_, by rw [World.frozen?_setCell]; exact K2.out, KK.out.2.setCell (p := ⟨w.heap.size + 1, 0, none⟩) (by show _ ≤ w.heap.size + 1; omega) _⟩
    rw [World.cell?_setCell_same _ _ _ KK.out.1, HCW.out]
  case done =>
    rintro X ⟨h1, h2, h3⟩ hK
    have H3 := Lib.hid h3
    have HKK := Lib.hid hK
    have hKlt := (Array.getElem?_eq_some_iff.1 hK).1
    clear h2 h3 hK
    gi_wp2
    refine ⟨by simp, .inl ⟨_, _, rfl, run_takeDeferred HKK.out, ?_⟩⟩
    refine ⟨_, results_tmp rfl _ _ _, rfl, H3.out.trans ⟨rfl, rfl, rfl, by simp, fun k hk => World.putObj_heap_other (by have := hk; omega)⟩⟩
end Go.Proofs.Ytiobbclciboggaa
