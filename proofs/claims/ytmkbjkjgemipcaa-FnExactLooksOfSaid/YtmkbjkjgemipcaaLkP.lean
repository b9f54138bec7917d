/- What one looks at in a tree: the program, whole. -/
import Derived.Test.YtmkbjkjgemipcaaLkI
import Derived.Laws.EntriesVeiled
namespace Go.Proofs.Ytmkbjkjgemipcaa
open Go.RowKit Go.ChangeShapes Go.WideShapes

structure Four (W X : World) (a b c d : Value) : Prop where
  below : Below W.heap.size W X
  c0 : X.cell? ⟨W.heap.size, 0, none⟩ = some a
  c1 : X.cell? ⟨W.heap.size + 1, 0, none⟩ = some b
  c2 : X.cell? ⟨W.heap.size + 1 + 1, 0, none⟩ = some c
  c3 : X.cell? ⟨W.heap.size + 1 + 1 + 1, 0, none⟩ = some d
  f2 : X.frozen? ⟨W.heap.size + 1 + 1, 0, none⟩ = false
  f3 : X.frozen? ⟨W.heap.size + 1 + 1 + 1, 0, none⟩ = false
theorem Four.put {W X : World} {a b c d : Value} (h : Four W X a b c d) (e : Value) : Four W (X.setCell ⟨W.heap.size + 1 + 1 + 1, 0, none⟩ e) a b c e := by
  refine ⟨h.below.setCell (by show _ ≤ W.heap.size + 1 + 1 + 1; omega) _, ?_, ?_, ?_, World.cell?_setCell_same _ _ _ h.c3, by rw [World.frozen?_setCell]; exact h.f2, by rw [World.frozen?_setCell]; exact h.f3⟩
  · rw [World.cell?_setCell_other _ _ _ _ (by intro q; injection q with q1 _ _; omega)]; exact h.c0
  · rw [World.cell?_setCell_other _ _ _ _ (by intro q; injection q with q1 _ _; omega)]; exact h.c1
  · rw [World.cell?_setCell_other _ _ _ _ (by intro q; injection q with q1 _ _; omega)]; exact h.c2
theorem four (W : World) (a b c d : Value) (t1 t2 t3 t4 : TypeId) : Four W ((((W.alloc (.cells #[a] t1)).alloc (.cells #[b] t2)).alloc (.cells #[c] t3)).alloc (.cells #[d] t4)) a b c d := by
  have s1 : (W.alloc (.cells #[a] t1)).heap.size = W.heap.size + 1 := by simp
  have s2 : ((W.alloc (.cells #[a] t1)).alloc (.cells #[b] t2)).heap.size = W.heap.size + 1 + 1 := by simp
  have s3 : (((W.alloc (.cells #[a] t1)).alloc (.cells #[b] t2)).alloc (.cells #[c] t3)).heap.size = W.heap.size + 1 + 1 + 1 := by simp
  have b2 := below_alloc (W.alloc (.cells #[a] t1)) (.cells #[b] t2)
  have b3 := below_alloc ((W.alloc (.cells #[a] t1)).alloc (.cells #[b] t2)) (.cells #[c] t3)
  have b4 := below_alloc (((W.alloc (.cells #[a] t1)).alloc (.cells #[b] t2)).alloc (.cells #[c] t3)) (.cells #[d] t4)
  have k1 := World.cell?_alloc_new W #[a] t1 0
  have k2 := World.cell?_alloc_new (W.alloc (.cells #[a] t1)) #[b] t2 0
  have k3 := World.cell?_alloc_new ((W.alloc (.cells #[a] t1)).alloc (.cells #[b] t2)) #[c] t3 0
  have k4 := World.cell?_alloc_new (((W.alloc (.cells #[a] t1)).alloc (.cells #[b] t2)).alloc (.cells #[c] t3)) #[d] t4 0
  have f3 := World.frozen?_alloc_new ((W.alloc (.cells #[a] t1)).alloc (.cells #[b] t2)) #[c] t3 0
  rw [s1] at k2
  rw [s2] at k3 f3
  have f4 := World.frozen?_alloc_new (((W.alloc (.cells #[a] t1)).alloc (.cells #[b] t2)).alloc (.cells #[c] t3)) #[d] t4 0
  rw [s3] at k4 f4
  refine ⟨((below_alloc W _).trans (b2.mono (by simp))).trans ((b3.trans (b4.mono (by simp))).mono (by simp; omega)), ?_, ?_, ?_, k4, ?_, f4⟩
  · exact keep_cell (keep_cell (keep_cell k1 b2 (by simp)) b3 (by simp; omega)) b4 (by simp; omega)
  · exact keep_cell (keep_cell k2 b3 (by simp)) b4 (by simp)
  · exact keep_cell k3 b4 (by simp)
  · rw [b4.frozen (p := ⟨W.heap.size + 1 + 1, 0, none⟩) (by show _ < _; simp)]; exact f3
set_option maxRecDepth 100000 in
set_option maxHeartbeats 8000000 in
theorem implLk_yes (v : Value) (T : Tr) (w : World) (hv : TrV w v T) (o : OKTr T) (h : treeB T.P T.V = true) :
    Calls Try.prog 35 #[v] w (SaysIIB (lkI T.P T.V) (lkN T.P T.V) true w) := by
  obtain ⟨P, V⟩ := T
  have O := Lib.hid o
  have H := Lib.hid h
  have HT := Lib.hid (treeB_ok h)
  have n1 := HT.out.l1
  have n2 := HT.out.l2
  have lv := HT.out.lv
  have HI := Lib.hid (lkI_yes h)
  have HN := Lib.hid (lkN_yes h)
  simp only at n1 n2 lv HI HN ⊢
  obtain ⟨s1, s2, rfl, g1, g2⟩ := hv
  simp only at g1 g2
  have G1 := Lib.hid g1
  have G2 := Lib.hid g2
  obtain ⟨b1, o1, c1, b2, o2, c2, rfl, rfl, l1, l2, k1, k2⟩ := tr_num g1 g2 (by omega) (by omega)
  have K2 := Lib.hid k2
  have HB := Lib.hid (below_alloc w (.cells #[.slice (some ⟨b1, o1, none⟩) P.length (P.length + c1), .slice (some ⟨b2, o2, none⟩) V.length (V.length + c2)] 32))
  have X0 := Lib.hid (Box2.mk' w (.slice (some ⟨b1, o1, none⟩) P.length (P.length + c1)) (.slice (some ⟨b2, o2, none⟩) V.length (V.length + c2)) 32)
  have HV : Hid (∀ X, Below w.heap.size w X → TrV X (.agg #[.slice (some ⟨b1, o1, none⟩) P.length (P.length + c1), .slice (some ⟨b2, o2, none⟩) V.length (V.length + c2)]) ⟨P, V⟩) := Lib.hid fun X hb => ⟨_, _, rfl, G1.out.below hb (Nat.le_refl _), G2.out.below hb (Nat.le_refl _)⟩
  rw [HI.out, HN.out]
  clear g1 g2 h o k1 k2 lv
  go_enter Try.func35, Try.ntmps35
  go_wp2_with fail
  go_at_call 22; refine (implValidTree_is true _ ⟨P, V⟩ _ (HV.out _ HB.out) O.out H.out).mono ?_; rintro e w1 ⟨rfl, b1'⟩
  have B1 := Lib.hid (HB.out.trans (b1'.mono HB.out.size))
  have X1 := Lib.hid (X0.out.keep b1' X0.out.lt)
  have hz1 : w.heap.size < w1.heap.size := X1.out.lt
  clear b1'
  obtain ⟨d0, d1⟩ := X1.out
  go_wp2_with fail
  go_at_call 72; refine (childrenIn_any _ ⟨P, V⟩ _ (HV.out _ B1.out) HT.out).mono ?_; rintro e w2 ⟨B, E, lo, U, rfl, hK⟩
  have HK := Lib.hid hK
  have B2 := Lib.hid (B1.out.trans (hK.grid.below.mono B1.out.size))
  have X2 := Lib.hid (X1.out.keep hK.grid.below X1.out.lt)
  have hz2 := hK.grid.below.size
  have hBl := hK.grid.blo
  have hEl := hK.elo
  have hlo := hK.grid.lt
  clear hK d0 d1
  simp only
  obtain ⟨d0, d1⟩ := X2.out
  go_wp2_with fail
  generalize hX : World.alloc (World.alloc (World.alloc (World.alloc w2 _) _) _) _ = X
  have F4 : Four w2 X _ _ _ _ := hX ▸ four w2 _ _ _ _ _ _ _ _
  have HF4 := Lib.hid F4
  have HXB := Lib.hid (B2.out.trans (HF4.out.below.mono B2.out.size))
  have HU : Hid (LkU X (w2.heap.size + 1 + 1) w2.heap.size w.heap.size (w2.heap.size + 1 + 1 + 1) (w2.heap.size + 1) B E lo w2.heap.size b2 o2 c2 P V) := Lib.hid ⟨fun a ha => ⟨U a, keep_cell (HK.out.grid.cell a ha) HF4.out.below (by omega), (Grows.si (HK.out.grid.row a ha)).below HF4.out.below (Nat.le_refl _)⟩, fun a ha => keep_cell (HK.out.ev a ha) HF4.out.below (by omega), HF4.out.c0, keep_cell X2.out.c1 HF4.out.below (by omega), HF4.out.c3, HF4.out.c1, fun i hi => by rw [HXB.out.cell (p := ⟨b2, o2 + i, none⟩) l2]; exact K2.out i hi, by omega, by omega, by omega, by omega, by omega, by omega, by omega, by omega⟩
  have HLX : Hid (LkAt X (w2.heap.size + 1 + 1) 0 X) := Lib.hid ⟨Turned.refl _ _ _, HF4.out.c2, HF4.out.f2⟩
  have HCALL := Lib.hid (look_any P V (w2.heap.size + 1 + 1) w2.heap.size w.heap.size (w2.heap.size + 1 + 1 + 1) (w2.heap.size + 1) B E lo w2.heap.size b2 o2 c2 HT.out P.length 0 (-2000000) 2000000 0 X (by omega) (by omega) HU.out HLX.out)
  rw [show ((0 : Nat) : Int) = 0 from rfl] at HCALL
  obtain ⟨r1, hr1⟩ : ∃ r1, (lkF P V P.length 0 (-2000000) 2000000 0).1 = r1 := ⟨_, rfl⟩
  obtain ⟨r2, hr2⟩ : ∃ r2, (lkF P V P.length 0 (-2000000) 2000000 0).2 = r2 := ⟨_, rfl⟩
  rw [hr1, hr2] at HCALL
  have HR1 := Lib.hid hr1
  have HR2 := Lib.hid hr2
  clear hX F4 hr1 hr2
  go_at_call 76; refine HCALL.out.mono ?_; rintro e w3 ⟨rfl, l3⟩
  have x0 := l3.cell
  have HF := Lib.hid (HXB.out.trans (l3.turned.below (by have := cell_block HLX.out.cell; omega) |>.mono (by omega)))
  clear l3
  go_wp2_with fail
  go_quiet (fail)
  go_wp2_with fail
  refine bodyPost_ret (v := .tuple #[.int .i64 r1, .int .i64 r2, .bool true]) (by simp [results, Try.results35, go_sem]) rfl ?_
  rw [HR1.out, HR2.out]
  exact ⟨rfl, below_drewN HF.out _⟩
theorem implLooksOf_any (v : Value) (T : Tr) (w : World) (hv : TrV w v T) (o : OKTr T) :
    Calls Try.prog 35 #[v] w (SaysIIB (lkI T.P T.V) (lkN T.P T.V) (treeB T.P T.V) w) := by
  cases h : treeB T.P T.V with
  | true => exact implLk_yes v T w hv o h
  | false =>
    rw [lkI_no h, lkN_no h]
    have H := Lib.hid h
    obtain ⟨s1, s2, rfl, g1, g2⟩ := hv
    have HB := Lib.hid (below_alloc w (.cells #[s1, s2] 32))
    have HV : Hid (TrV _ (.agg #[s1, s2]) T) := Lib.hid ⟨_, _, rfl, g1.below HB.out (Nat.le_refl _), g2.below HB.out (Nat.le_refl _)⟩
    clear g1 g2 h
    go_enter Try.func35, Try.ntmps35
    go_wp2_with fail
    go_at_call 22; refine (implValidTree_is false _ T _ HV.out o H.out).mono ?_; rintro e w1 ⟨rfl, b1⟩
    have B1 := Lib.hid (HB.out.trans (b1.mono HB.out.size))
    clear b1
    go_wp2_with fail
    refine bodyPost_ret (v := .tuple #[.int .i64 0, .int .i64 0, .bool false]) (by simp [results, Try.results35, go_sem]) rfl ?_
    exact ⟨rfl, B1.out⟩
end Go.Proofs.Ytmkbjkjgemipcaa
