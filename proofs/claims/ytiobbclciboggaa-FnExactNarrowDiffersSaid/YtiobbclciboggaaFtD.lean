/- The first of the choices (fits: differsIn$1). -/
import Derived.Test.YtiobbclciboggaaRfD
import Derived.Test.YtiobbclciboggaaClI
import Derived.OwnWalkIn
import Derived.TacticsInMore
import Derived.LoopIn
namespace Go.Proofs.Ytiobbclciboggaa
open Go.RowKit Go.ChangeShapes Go.WideShapes
attribute [local go_sem] Oper.semAt_some

theorem But.turned {l : Nat} {W W' : World} (h : But (fun k => k = l) W W') : Turned l (l + 1) W W' := ⟨h.os, h.tape, h.output, h.size, fun k hk hl => h.block k hk (by omega)⟩
theorem But.cell {S : Nat → Prop} {W W' : World} (h : But S W W') {g o : Nat} {a : Value} (hc : W.cell? ⟨g, o, none⟩ = some a) (hs : ¬ S g) : W'.cell? ⟨g, o, none⟩ = some a := by
  rw [World.cell?_of_block (w := W) (a := ⟨g, o, none⟩) (h.block g (cell_block hc) hs)]; exact hc
theorem But.free {S : Nat → Prop} {W W' : World} (h : But S W W') {g o : Nat} {a : Value} (hc : W.cell? ⟨g, o, none⟩ = some a) (hf : W.frozen? ⟨g, o, none⟩ = false) (hs : ¬ S g) : W'.frozen? ⟨g, o, none⟩ = false := by
  rw [World.frozen?_of_block (w := W) (a := ⟨g, o, none⟩) (h.block g (cell_block hc) hs)]; exact hf
theorem But.low {S : Nat → Prop} {B : Nat} {W W' : World} (h : But S W W') (hB : B ≤ W.heap.size) (hs : ∀ k, S k → B ≤ k) : Below B W W' := ⟨h.os, h.tape, h.output, h.size, fun k hk => h.block k (by omega) (fun q => by have := hs k q; omega)⟩
/-- The two cells of a function's results. -/
structure Rs2 (w : World) (g : Nat) (u v : Value) (X : World) : Prop where
  c1 : X.cell? ⟨g, 0, none⟩ = some u
  c2 : X.cell? ⟨g + 1, 0, none⟩ = some v
  f1 : X.frozen? ⟨g, 0, none⟩ = false
  f2 : X.frozen? ⟨g + 1, 0, none⟩ = false
  below : Below w.heap.size w X
theorem Rs2.but {w : World} {g : Nat} {u v : Value} {X X' : World} (h : Rs2 w g u v X) {S : Nat → Prop} (hb : But S X X') (h1 : ¬ S g) (h2 : ¬ S (g + 1)) (hs : ∀ k, S k → w.heap.size ≤ k) : Rs2 w g u v X' :=
  ⟨hb.cell h.c1 h1, hb.cell h.c2 h2, hb.free h.c1 h.f1 h1, hb.free h.c2 h.f2 h2, h.below.trans (hb.low h.below.size hs)⟩
theorem Rs2.keep {w : World} {g : Nat} {u v : Value} {X X' : World} (h : Rs2 w g u v X) (hb : Below X.heap.size X X') : Rs2 w g u v X' :=
  ⟨keep_cell h.c1 hb (cell_block h.c1), keep_cell h.c2 hb (cell_block h.c2), by rw [hb.frozen (p := ⟨g, 0, none⟩) (cell_block h.c1)]; exact h.f1, by rw [hb.frozen (p := ⟨g + 1, 0, none⟩) (cell_block h.c2)]; exact h.f2, h.below.trans (hb.mono h.below.size)⟩
theorem Rs2.put {w : World} {g : Nat} {u v : Value} {X : World} (h : Rs2 w g u v X) (hg : w.heap.size ≤ g) (u' v' : Value) : Rs2 w g u' v' ((X.setCell ⟨g, 0, none⟩ u').setCell ⟨g + 1, 0, none⟩ v') := by
  have n1 : (⟨g, 0, none⟩ : Addr) ≠ ⟨g + 1, 0, none⟩ := by intro e; injection e with e _ _; omega
  refine ⟨?_, ?_, by rw [World.frozen?_setCell, World.frozen?_setCell]; exact h.f1, by rw [World.frozen?_setCell, World.frozen?_setCell]; exact h.f2, (h.below.setCell (p := ⟨g, 0, none⟩) hg _).setCell (p := ⟨g + 1, 0, none⟩) (by show _ ≤ g + 1; omega) _⟩
  · rw [World.cell?_setCell_other _ _ _ _ (Ne.symm n1)]; exact World.cell?_setCell_same _ _ _ h.c1
  · exact World.cell?_setCell_same _ _ _ (by rw [World.cell?_setCell_other _ _ _ _ n1]; exact h.c2)
theorem But.setCell {S : Nat → Prop} {W X : World} (h : But S W X) {p : Addr} (hs : S p.block) (u : Value) : But S W (X.setCell p u) :=
  h.trans ⟨rfl, rfl, rfl, by simp [World.setCell], fun k _ hn => Below.heap_setCell _ _ _ _ (fun e => hn (e ▸ hs))⟩
theorem But.of_below {S : Nat → Prop} {W X : World} (h : Below W.heap.size W X) : But S W X := ⟨h.os, h.tape, h.output, h.size, fun k hk _ => h.block k hk⟩
set_option maxRecDepth 100000 in
set_option maxHeartbeats 4000000 in
theorem firstD_any (lv : Value) (Ls : List (List Int)) (w : World) (hlv : LV w lv Ls)
    (hD : ∀ i, (Ls.getD i []).length ≤ 1000 ∧ ∀ x ∈ Ls.getD i [], 0 ≤ x ∧ x ≤ 1000) (hLs : Ls.length ≤ 1000) (hNe : ∀ i, i < Ls.length → (Ls.getD i []).length ≠ 0) :
    Calls Try.prog 61 #[.agg #[lv, fitD]] w (SaysJB ((exts nwB Ls Ls.length []).headD []) (decide (exts nwB Ls Ls.length [] ≠ [])) w) := by
  obtain ⟨la, lc, rfl⟩ := hlv.long
  have HLV := Lib.hid hlv
  clear hlv
  refine (callsIn_wide (n := 5)).1 ?_
  refine callsIn_of_wp_marks Try.func61 rfl trivial ?_ rfl
  simp only [Try.ntmps61, List.size_toArray, List.length_cons, List.length_nil, Nat.reduceAdd, Nat.reduceSub, Array.replicate_succ, Array.replicate_zero, List.push_toArray, List.append_toArray, List.nil_append, List.cons_append]
  have hb3 : ∀ A B C, Below w.heap.size w (((w.alloc A).alloc B).alloc C) := fun A B C => ((below_alloc w A).alloc (by simp) B).alloc (by simp; omega) C
  gi_wp2_with (refine ⟨trivial, ?_⟩; gi_at_call 110; refine (callsIn_wide.2 (allD_any _ Ls _ (HLV.out.below (hb3 _ _ _) (Nat.le_refl _)))).mono ?_; rintro e w' ⟨rfl, rfl⟩)
  obtain ⟨A, hA⟩ : ∃ A : Obj, A = .cells #[.slice la Ls.length lc, fitD] 75 := ⟨_, rfl⟩
  obtain ⟨W, hW⟩ : ∃ W, W = ((((w.alloc (.cells #[.slice la Ls.length lc, fitD] 75)).alloc (.cells #[.slice none 0 0] 24)).alloc (.cells #[.bool false] 4)).alloc (.cells #[.slice la Ls.length lc, fitD] 75)) := ⟨_, rfl⟩
  have hz : W.heap.size = w.heap.size + 4 := by rw [hW]; simp
  have hr : Rs2 w (w.heap.size + 1) (.slice none 0 0) (.bool false) W := by
    have k1 := World.cell?_alloc_new (w.alloc A) #[.slice none 0 0] 24 0
    have f1 := World.frozen?_alloc_new (w.alloc A) #[.slice none 0 0] 24 0
    have k2 := World.cell?_alloc_new ((w.alloc A).alloc (.cells #[.slice none 0 0] 24)) #[.bool false] 4 0
    have f2 := World.frozen?_alloc_new ((w.alloc A).alloc (.cells #[.slice none 0 0] 24)) #[.bool false] 4 0
    have b1 := below_alloc ((w.alloc A).alloc (.cells #[.slice none 0 0] 24)) (.cells #[.bool false] 4)
    have r2 : Rs2 w (w.heap.size + 1) (.slice none 0 0) (.bool false) (((w.alloc A).alloc (.cells #[.slice none 0 0] 24)).alloc (.cells #[.bool false] 4)) := by
      simp only [World.size_alloc] at k1 f1 k2 f2
      exact ⟨keep_cell k1 b1 (by simp), k2, by rw [b1.frozen (p := ⟨w.heap.size + 1, 0, none⟩) (by show _ < _; simp)]; exact f1, f2, hb3 _ _ _⟩
    rw [hW, ← hA]
    exact r2.keep (below_alloc _ _)
  have hx : Box2 W (w.heap.size + 3) (.slice la Ls.length lc) fitD := by
    have := Box2.mk' (((w.alloc (.cells #[.slice la Ls.length lc, fitD] 75)).alloc (.cells #[.slice none 0 0] 24)).alloc (.cells #[.bool false] 4)) (.slice la Ls.length lc) fitD 75
    rw [hW]; simpa using this
  rw [← hW]
  clear hW hb3 hA
  have hlen := exts_len (fits := nwB) (Ls := Ls) (n := Ls.length) Ls.length [] (by simp)
  have HLEN := Lib.hid hlen
  clear hlen
  refine rangeD (c := w.heap.size + 3) (w0 := w) 5 (by rfl) rfl (fun k => k = w.heap.size + 1 ∨ k = w.heap.size + 2)
    (fun pre X => pre = [] ∧ Rs2 w (w.heap.size + 1) (.slice none 0 0) (.bool false) X)
    (fun d q X => d = .ret ∧ ∃ C u, q = [C] ∧ II (w.heap.size + 6) X.heap.size X u C ∧ Rs2 w (w.heap.size + 1) u (.bool true) X)
    Ls (.slice la Ls.length lc) HLV.out hD hLs hNe hx hr.below (fun k hk => by omega) (fun k hk => by omega) ?keep ?keepx (fun _ _ h => h.2.below) ⟨rfl, hr⟩ ?round ?done ?stop
  case keep =>
    rintro pre X X' ⟨rfl, h2⟩ hb
    exact ⟨rfl, h2.but hb (by omega) (by omega) (fun k hk => by omega)⟩
  case keepx =>
    rintro d q X X' ⟨rfl, C, u, rfl, h1, h2⟩ hb
    refine ⟨rfl, C, u, rfl, ?_, h2.but hb (by omega) (by omega) (fun k hk => by omega)⟩
    exact SI.wide (SI.kept h1 hb.turned (Or.inr (by omega))) (Nat.le_refl _) hb.size (Nat.le_refl _)
  case round =>
    rintro pre C v X ⟨rfl, h2⟩ hC hv hzX
    obtain ⟨ao, cap, rfl⟩ := hv.long
    have hCl : C.length ≤ 1048576 := by omega
    clear hC
    refine ⟨_, fun K hK => by gi_wp2; exact hK, fun X2 hb2 hv2 => ?_⟩
    have R2 := Lib.hid (h2.but hb2 (by omega) (by omega) (fun k hk => by omega))
    have HV := Lib.hid hv2
    have hz2 : w.heap.size + 6 ≤ X2.heap.size := by have := hb2.size; omega
    clear hv hb2 h2 hv2 hzX
    gi_wp2_with (refine ⟨trivial, ?_⟩; gi_at_call 111; refine (CallsIn.inRound _ (callsIn_wide.2 (cloneI_any _ C _ HV.out hCl))).mono ?_; rintro e w3 ⟨u, rfl, hu, hbu⟩; obtain ⟨ua, uc, rfl⟩ := SI.len hu; have R3 := Lib.hid (R2.out.keep hbu); have HU := Lib.hid hu; have HBU := Lib.hid hbu; have q1 := R3.out.c1; have q2 := R3.out.c2; have q3 := R3.out.f1; have q4 := R3.out.f2; clear hu hbu)
    refine ⟨((But.of_below HBU.out).setCell (p := ⟨w.heap.size + 1, 0, none⟩) (Or.inl rfl) _).setCell (p := ⟨w.heap.size + 1 + 1, 0, none⟩) (Or.inr rfl) _, rfl, C, _, rfl, ?_, R3.out.put (by omega) _ _⟩
    have h1 := SI.set (p := ⟨w.heap.size + 1 + 1, 0, none⟩) (SI.set (p := ⟨w.heap.size + 1, 0, none⟩) HU.out (Or.inl (by show w.heap.size + 1 < _; omega)) (.slice ua C.length uc)) (Or.inl (by show w.heap.size + 1 + 1 < _; omega)) (.bool true)
    exact SI.wide h1 hz2 (by simp [World.setCell]) (Nat.le_refl _)
  case done =>
    rintro X ⟨h1, h2⟩ hK
    have R2 := Lib.hid h2
    have HKK := Lib.hid hK
    have H1 := Lib.hid h1
    have hKlt := (Array.getElem?_eq_some_iff.1 hK).1
    have q1 := h2.c1
    have q2 := h2.c2
    have q3 := h2.f1
    have q4 := h2.f2
    clear h2 hK h1
    have HE : Hid (((exts nwB Ls Ls.length []).headD [] = []) ∧ decide (exts nwB Ls Ls.length [] ≠ []) = false) := Lib.hid (by rw [H1.out]; exact ⟨rfl, rfl⟩)
    gi_wp2
    have hF : Rs2 w (w.heap.size + 1) (.slice none 0 0) (.bool false) (((X.setCell ⟨w.heap.size + 1, 0, none⟩ (.slice none 0 0)).setCell ⟨w.heap.size + 1 + 1, 0, none⟩ (.bool false)).putObj W.heap.size (.deferred none)) :=
      (R2.out.put (by omega) _ _).but (But.putObj (S := fun k => k = W.heap.size) _ rfl) (by omega) (by omega) (fun k hk => by omega)
    refine ⟨by simp, .inl ⟨_, _, rfl, run_takeDeferred (ds := []) (((Below.heap_setCell _ _ _ _ (by show _ ≠ w.heap.size + 1 + 1; omega)).trans (Below.heap_setCell _ _ _ _ (by show _ ≠ w.heap.size + 1; omega))).trans HKK.out), ?_⟩⟩
    obtain ⟨f1, f2, -, -, f5⟩ := hF
    refine ⟨.tuple #[.slice none 0 0, .bool false], by simp [results, Try.results61, go_sem, f1, f2], ?_⟩
    rw [HE.out.1, HE.out.2]
    exact ⟨_, rfl, SI.nil _ (Nat.le_refl _) _ _, f5⟩
  case stop =>
    rintro d q X q1 q2 ⟨rfl, C, u, rfl, h1, h2⟩ hK
    obtain ⟨ua, uc, rfl⟩ := SI.len h1
    have R2 := Lib.hid h2
    have HKK := Lib.hid hK
    have HU := Lib.hid h1
    have q3 := h2.c1
    have q4 := h2.c2
    have HE : Hid (((exts nwB Ls Ls.length []).headD [] = C) ∧ decide (exts nwB Ls Ls.length [] ≠ []) = true) := Lib.hid (by
      obtain ⟨t, ht⟩ := q1
      rw [← ht]
      exact ⟨rfl, by simp⟩)
    clear h2 hK h1 q1 q2
    gi_wp2
    have hF : Rs2 w (w.heap.size + 1) (.slice ua C.length uc) (.bool true) (X.putObj W.heap.size (.deferred none)) :=
      R2.out.but (But.putObj (S := fun k => k = W.heap.size) _ rfl) (by omega) (by omega) (fun k hk => by omega)
    have hS : II (w.heap.size + 6) (X.putObj W.heap.size (.deferred none)).heap.size (X.putObj W.heap.size (.deferred none)) (.slice ua C.length uc) C := by
      have h := SI.kept HU.out (But.putObj (S := fun k => k = W.heap.size) (w := X) (.deferred none) rfl).turned (Or.inr (by omega))
      exact SI.wide h (Nat.le_refl _) (by simp) (Nat.le_refl _)
    refine ⟨by simp, .inl ⟨_, _, rfl, run_takeDeferred (ds := []) HKK.out, ?_⟩⟩
    obtain ⟨f1, f2, -, -, f5⟩ := hF
    refine ⟨.tuple #[.slice ua C.length uc, .bool true], by simp [results, Try.results61, go_sem, f1, f2], ?_⟩
    rw [HE.out.1, HE.out.2]
    exact ⟨_, rfl, SI.wide hS (by omega) (Nat.le_refl _) (Nat.le_refl _), f5⟩
end Go.Proofs.Ytiobbclciboggaa
