/- The best children of all indices of a tree: the program. -/
import Derived.Test.YtmkbjkjgemipcaaBtI
import Derived.Test.YtmkbjkjgemipcaaLkI
import Derived.Deep.OwnRows
import Derived.StillTailTactics
import Derived.Deep.RegionWith
import Derived.Deep.RegionHeld3
import Derived.Deep.RegionLawGrows
import Derived.BigRegion
namespace Go.Proofs.Ytmkbjkjgemipcaa
open Go.RowKit Go.ChangeShapes Go.WideShapes

def bT (P V : List Int) (a : Nat) : Int := if (chL P a).length = 0 then -1 else (bcT P V a : Nat)
theorem bs_fin {w Y wz : World} {s1 h2 B E p2 p5 Wb wo wc C : Nat} {P : List Int} {fw fb : Nat → Int} (hY : Below w.heap.size w Y) (kr : KidR Y s1 h2 B E P) (c5 : Y.cell? ⟨p5, 0, none⟩ = some (.slice (some ⟨E, 0, none⟩) P.length P.length)) (h2y : p2 < Y.heap.size)
    (hp2 : w.heap.size ≤ p2) (hp3 : p2 < s1) (hp5 : h2 ≤ p5) (t : Turned p2 (p2 + 1) Y wz) (c2 : wz.cell? ⟨p2, 0, none⟩ = some (.slice (some ⟨Wb, wo, none⟩) P.length wc)) (f2 : wz.frozen? ⟨p2, 0, none⟩ = false) (ws : ∀ a, a < P.length → wz.cell? ⟨Wb, wo + a, none⟩ = some (.int .i64 (fw a))) (wf : ∀ i, wz.frozen? ⟨Wb, i, none⟩ = false) (bs : ∀ a, a < P.length → wz.cell? ⟨C, a, none⟩ = some (.int .i64 (fb a))) (bf : ∀ i, wz.frozen? ⟨C, i, none⟩ = false)
    (ne : Wb ≠ C) (o1 : Y.heap.size ≤ Wb) (o2 : Y.heap.size ≤ C) (l1 : Wb < wz.heap.size) (l2 : C < wz.heap.size) :
    BsAt w s1 h2 B E p2 p5 Wb wo wc C P fw fb wz := by
  have h5 := cell_block c5
  have hx := kr.hx
  have hs := t.size
  have hw := hY.size
  have k1 := kr.b1
  have k2 := kr.b2
  exact ⟨hY.trans ((t.below (by omega)).mono hp2), kr.kept hs (fun q hq1 hq => t.block q (by omega) (by omega)), keep_cell' c5 t (by omega), c2, f2, ws, wf, bs, bf, ne, by omega, by omega, by omega, by omega, by omega, by omega, by omega, by omega, l1, l2⟩
theorem BsAt.again {w wr : World} {s1 h2 B E p2 p5 Wb wo wc C : Nat} {P : List Int} {fw fb : Nat → Int} (h : BsAt w s1 h2 B E p2 p5 Wb wo wc C P fw fb wr) (h1 : w.heap.size ≤ p2) (h3 : p2 < s1) (h5 : p5 ≠ p2) : BsAt w s1 h2 B E p2 p5 Wb wo wc C P fw fb (wr.setCell ⟨p2, 0, none⟩ (.slice (some ⟨Wb, wo, none⟩) P.length wc)) := by
  have far : ∀ {q o : Nat}, q ≠ p2 → (wr.setCell ⟨p2, 0, none⟩ (.slice (some ⟨Wb, wo, none⟩) P.length wc)).cell? ⟨q, o, none⟩ = wr.cell? ⟨q, o, none⟩ := fun hq => World.cell?_setCell_other _ _ _ _ (by intro e; injection e with e1 _ _; exact hq e1.symm)
  exact ⟨h.below.setCell h1 _, h.kr.kept (by simp) (fun q hq _ => Below.heap_setCell _ _ _ _ (by show q ≠ p2; omega)), by rw [far h5]; exact h.p5c, World.cell?_setCell_same _ _ _ h.p2c, by rw [World.frozen?_setCell]; exact h.p2f, fun a ha => by rw [far h.q1.symm]; exact h.ws a ha, fun i => by rw [World.frozen?_setCell]; exact h.wf i, fun a ha => by rw [far h.q2.symm]; exact h.bs a ha, fun i => by rw [World.frozen?_setCell]; exact h.bf i, h.ne, h.o1, h.o2, h.o3, h.o4, h.q1, h.q2, h.q3, h.q4, by simpa using h.l1, by simpa using h.l2⟩
theorem set_far {X : World} {q o p : Nat} {v x : Value} (h : X.cell? ⟨q, o, none⟩ = some x) (hq : q ≠ p) : (X.setCell ⟨p, 0, none⟩ v).cell? ⟨q, o, none⟩ = some x := by
  rw [World.cell?_setCell_other _ _ _ _ (by intro e; injection e with e1 _ _; exact hq e1.symm)]; exact h
theorem turned_put {Y X : World} {p : Nat} {v : Value} (b : Below Y.heap.size Y X) : Turned p (p + 1) Y (X.setCell ⟨p, 0, none⟩ v) := Turned.setCell (p := ⟨p, 0, none⟩) (Turned.of_below b (Nat.le_refl _)) (Nat.le_refl p) (Nat.lt_succ_self p) v
theorem alloc_after {X : World} {q : Addr} {v z : Value} {n i : Nat} {T : TypeId} (hi : i < n) : ((X.setCell q v).alloc (.cells (madeCells #[z] n) T)).cell? ⟨X.heap.size, i, none⟩ = some z := by
  have h := alloc_cell (W := X.setCell q v) (z := z) (T := T) hi
  rwa [show (X.setCell q v).heap.size = X.heap.size by simp] at h
theorem alloc_at1 {X : World} {q : Addr} {v x : Value} {T : TypeId} : ((X.setCell q v).alloc (.cells #[x] T)).cell? ⟨X.heap.size, 0, none⟩ = some x := by
  have h := World.cell?_alloc_new (X.setCell q v) #[x] T 0
  rwa [show (X.setCell q v).heap.size = X.heap.size by simp] at h
theorem alloc_at2 {X : World} {q q2 : Addr} {v v2 x : Value} {T : TypeId} : (((X.setCell q v).setCell q2 v2).alloc (.cells #[x] T)).cell? ⟨X.heap.size, 0, none⟩ = some x ∧ (((X.setCell q v).setCell q2 v2).alloc (.cells #[x] T)).frozen? ⟨X.heap.size, 0, none⟩ = false := by
  have h := World.cell?_alloc_new ((X.setCell q v).setCell q2 v2) #[x] T 0
  have h2 := World.frozen?_alloc_new ((X.setCell q v).setCell q2 v2) #[x] T 0
  rw [show ((X.setCell q v).setCell q2 v2).heap.size = X.heap.size by simp] at h h2
  exact ⟨h, h2⟩
theorem alloc_afterF {X : World} {q : Addr} {v : Value} {cs : Array Value} {T : TypeId} (i : Nat) : ((X.setCell q v).alloc (.cells cs T)).frozen? ⟨X.heap.size, i, none⟩ = false := by
  have h := World.frozen?_alloc_new (X.setCell q v) cs T i
  rwa [show (X.setCell q v).heap.size = X.heap.size by simp] at h
set_option maxRecDepth 100000 in
set_option maxHeartbeats 16000000 in
theorem bestIn_any (v : Value) (T : Tr) (w : World) (hv : TrV w v T) (o : OKTr T) (h : TreeOk T.P T.V) :
    Calls Try.prog 74 #[v] w (fun e w' => ∃ s1 h2 B E p2 p5 Wb wo wc C, e = .returned (.tuple #[.slice (some ⟨Wb, wo, none⟩) T.P.length wc, .slice (some ⟨C, 0, none⟩) T.P.length T.P.length]) ∧ BsAt w s1 h2 B E p2 p5 Wb wo wc C T.P (wT T.P T.V) (bT T.P T.V) w') := by
  obtain ⟨P, V⟩ := T
  obtain ⟨s1, s2, rfl, g1, g2⟩ := hv
  have ov := o.okv.size
  have OK := Lib.hid h
  simp only at g1 g2 h ov ⊢
  have n1 := h.l1
  have n2 := h.l2
  have lv := h.lv
  have G1 := Lib.hid g1
  have G2 := Lib.hid g2
  obtain ⟨b1, o1, c1, b2, o2, c2, rfl, rfl, l1, l2, k1, k2⟩ := tr_num g1 g2 (by omega) (by omega)
  have K2 := Lib.hid k2
  have hmk := run_make_row' (P := Try.prog) 27 2 (.int .i64 0) 8 Try.underlying27 Try.infoI rfl .i64 .i64 V.length (by omega) (by omega)
  have HV : Hid (∀ X, Below w.heap.size w X → TrV X (.agg #[.slice (some ⟨b1, o1, none⟩) P.length (P.length + c1), .slice (some ⟨b2, o2, none⟩) V.length (V.length + c2)]) ⟨P, V⟩) := Lib.hid fun X hb => ⟨_, _, rfl, G1.out.below hb (Nat.le_refl _), G2.out.below hb (Nat.le_refl _)⟩
  have BX := Lib.hid (Box2.mk' w (.slice (some ⟨b1, o1, none⟩) P.length (P.length + c1)) (.slice (some ⟨b2, o2, none⟩) V.length (V.length + c2)) 32)
  obtain ⟨W2, hW2⟩ : ∃ W2, W2 = (w.alloc (.cells #[.slice (some ⟨b1, o1, none⟩) P.length (P.length + c1), .slice (some ⟨b2, o2, none⟩) V.length (V.length + c2)] 32)).alloc (.cells #[.slice none 0 0] 27) := ⟨_, rfl⟩
  have s01 : (w.alloc (.cells #[.slice (some ⟨b1, o1, none⟩) P.length (P.length + c1), .slice (some ⟨b2, o2, none⟩) V.length (V.length + c2)] 32)).heap.size = w.heap.size + 1 := by simp
  have hzW2 : W2.heap.size = w.heap.size + 1 + 1 := by rw [hW2]; simp
  have HB2 : Hid (Below w.heap.size w W2) := Lib.hid (by rw [hW2]; exact (below_alloc w _).alloc (by simp) _)
  have BX2 : Hid (Box2 W2 w.heap.size (.slice (some ⟨b1, o1, none⟩) P.length (P.length + c1)) (.slice (some ⟨b2, o2, none⟩) V.length (V.length + c2))) := Lib.hid (by rw [hW2]; exact BX.out.keep (below_alloc _ _) BX.out.lt)
  have PX2 : Hid (W2.cell? ⟨w.heap.size + 1, 0, none⟩ = some (.slice none 0 0)) := Lib.hid (by
    have := World.cell?_alloc_new (w.alloc (.cells #[.slice (some ⟨b1, o1, none⟩) P.length (P.length + c1), .slice (some ⟨b2, o2, none⟩) V.length (V.length + c2)] 32)) #[.slice none 0 0] 27 0
    rw [s01] at this; rw [hW2]; exact this)
  have PF2 : Hid (W2.frozen? ⟨w.heap.size + 1, 0, none⟩ = false) := Lib.hid (by
    have := World.frozen?_alloc_new (w.alloc (.cells #[.slice (some ⟨b1, o1, none⟩) P.length (P.length + c1), .slice (some ⟨b2, o2, none⟩) V.length (V.length + c2)] 32)) #[.slice none 0 0] 27 0
    rw [s01] at this; rw [hW2]; exact this)
  have HWW := Lib.hid hW2
  have HPV : Hid (V.length = P.length) := Lib.hid lv
  have hv1 : 0 < V.length := by omega
  clear g1 g2 h o k1 k2 hW2 s01 lv
  go_enter Try.func74, Try.ntmps74
  go_wp2_with fail
  rw [← HWW.out]
  go_at_call 72; refine (childrenIn_any _ ⟨P, V⟩ _ (HV.out _ HB2.out) OK.out).mono ?_; rintro e w2 ⟨B, E, lo, U, rfl, hK⟩
  have hz2 := hK.grid.below.size
  have hge := hK.grid.ge
  have hblo := hK.grid.blo
  have hlt := hK.grid.lt
  have hege := hK.ege
  have helo := hK.elo
  have KR2 : KidR w2 W2.heap.size w2.heap.size B E P := ⟨fun a ha => ⟨U a, hK.grid.cell a ha, SI.wide (Grows.si (hK.grid.row a ha)) (by omega) (Nat.le_refl _) (Nat.le_refl _)⟩, hK.ev, hge, by omega, hege, by omega, Nat.le_refl _⟩
  have HB3 := Lib.hid (HB2.out.trans (hK.grid.below.mono HB2.out.size))
  obtain ⟨Y, hY⟩ : ∃ Y, Y = w2.alloc (.cells #[.slice (some ⟨E, 0, none⟩) P.length P.length] 91) := ⟨_, rfl⟩
  have hYb : Below w2.heap.size w2 Y := by rw [hY]; exact below_alloc _ _
  have hzY : Y.heap.size = w2.heap.size + 1 := by rw [hY]; simp
  have HYB := Lib.hid (HB3.out.trans (hYb.mono HB3.out.size))
  have KRY := Lib.hid (KR2.kept hYb.size (fun q _ hq => hYb.block q hq))
  have C5 : Hid (Y.cell? ⟨w2.heap.size, 0, none⟩ = some (.slice (some ⟨E, 0, none⟩) P.length P.length)) := Lib.hid (by rw [hY]; exact World.cell?_alloc_new w2 #[.slice (some ⟨E, 0, none⟩) P.length P.length] 91 0)
  have hkb := hK.grid.below.trans (hYb.mono hz2)
  have BXY := BX2.out.keep hkb BX2.out.lt
  have CP2 := Lib.hid (keep_cell PX2.out hkb (by omega))
  have FP2 : Hid (Y.frozen? ⟨w.heap.size + 1, 0, none⟩ = false) := Lib.hid (by rw [hkb.frozen (p := ⟨w.heap.size + 1, 0, none⟩) (by show w.heap.size + 1 < _; omega)]; exact PF2.out)
  have HVY : Hid (∀ X, Below Y.heap.size Y X → IL X (.slice (some ⟨b2, o2, none⟩) V.length (V.length + c2)) V) := Lib.hid fun X hb => G2.out.below (HYB.out.trans (hb.mono HYB.out.size)) (Nat.le_refl _)
  obtain ⟨d0, d1⟩ := BXY
  have cp2 := CP2.out
  have fp2 := FP2.out
  have HYY := Lib.hid hY
  have hwY : w.heap.size < Y.heap.size := by omega
  have hpY : w.heap.size + 1 < Y.heap.size := by omega
  clear hK KR2 hYb hkb hY
  simp only
  have HS : Hid (∀ X, Below Y.heap.size Y X → X.cell? ⟨w.heap.size, 1, none⟩ = some (.slice (some ⟨b2, o2, none⟩) V.length (V.length + c2))) := Lib.hid fun X b => keep_cell d1 b hwY
  have HSS : Hid (∀ (X : World) (nv : Value), Below Y.heap.size Y X → (X.setCell ⟨w.heap.size + 1, 0, none⟩ nv).cell? ⟨w.heap.size, 1, none⟩ = some (.slice (some ⟨b2, o2, none⟩) V.length (V.length + c2))) := Lib.hid fun X nv b => by rw [World.cell?_setCell_other _ _ _ _ (by intro q; injection q with q1 _ _; omega)]; exact HS.out X b
  have HSA : Hid (∀ (X : World) (nv : Value) (ob : Obj), Below Y.heap.size Y X → ((X.setCell ⟨w.heap.size + 1, 0, none⟩ nv).alloc ob).cell? ⟨w.heap.size, 1, none⟩ = some (.slice (some ⟨b2, o2, none⟩) V.length (V.length + c2))) := Lib.hid fun X nv ob b => keep_cell (HSS.out X nv b) (below_alloc _ _) (by have := b.size; simp; omega)
  have YD := Lib.hid (show Below Y.heap.size Y Y.drew from below_drewN (Below.refl Y.heap.size Y) 1)
  have YA := Lib.hid (show Below Y.heap.size Y (Y.alloc (.cells (madeCells #[.int .i64 0] V.length) 2)).drew from below_drewN (below_alloc Y _) 1)
  have YA2 := Lib.hid (show Below Y.heap.size Y (Y.alloc (.cells (madeCells #[.int .i64 0] V.length) 2)) from below_alloc Y _)
  clear hzY
  go_upto_region 2 with fail
  rw [← HYY.out]
  go_cut [3] (fun x3 wx => Hid (∃ Wb wo wc C, x3 = .slice (some ⟨C, 0, none⟩) V.length V.length ∧ BsAt w W2.heap.size w2.heap.size B E (w.heap.size + 1) w2.heap.size Wb wo wc C P (fun a => V.getD a 0) (fun _ => 0) wx))
  case first =>
    go_region_held3 (fun w' => w'.cell? ⟨w.heap.size, 1, none⟩ = some (.slice (some ⟨b2, o2, none⟩) V.length (V.length + c2))) (first | exact HS.out _ YD.out | exact HS.out _ YA.out | exact HS.out _ YA2.out | exact HS.out _ SB.out | exact HS.out _ (SB.out.alloc SB.out.size _) | exact HSS.out _ _ SB.out | exact HSS.out _ _ (SB.out.alloc SB.out.size _) | exact HSA.out _ _ _ SB.out) (first
      | (go_at_call 106; (with_reducible refine (cloneI_any _ V _ (HVY.out Y.drew YD.out) ov).mono ?_); rintro e w3 ⟨nv, rfl, i3, b3⟩; obtain ⟨Wb, wo, wc, rfl, q1, q2, q3, q4⟩ := made_num i3 hv1; have SB : Hid (Below Y.heap.size Y w3) := Lib.hid (YD.out.trans (b3.mono (Nat.le_refl Y.heap.size))); have Q3 := Lib.hid q3; have Q4 := Lib.hid q4; have hb3 := b3.size; have z1 := keep_cell cp2 SB.out hpY; have z2 : w3.frozen? ⟨w.heap.size + 1, 0, none⟩ = false := (by rw [SB.out.frozen (p := ⟨w.heap.size + 1, 0, none⟩) hpY]; exact fp2); have z3 : w.heap.size + 1 < w3.heap.size := Nat.lt_of_lt_of_le hpY SB.out.size; have NQ1 := Lib.hid q1; have B3 := Lib.hid b3; clear i3 b3 q3 q4)
      | (go_at_call 106; (with_reducible refine (cloneI_any _ V _ (HVY.out (Y.alloc (.cells (madeCells #[.int .i64 0] V.length) 2)).drew YA.out) ov).mono ?_); rintro e w3 ⟨nv, rfl, i3, b3⟩; obtain ⟨Wb, wo, wc, rfl, q1, q2, q3, q4⟩ := made_num i3 hv1; have SB : Hid (Below Y.heap.size Y w3) := Lib.hid (YA.out.trans (b3.mono YA.out.size)); have Q3 := Lib.hid q3; have Q4 := Lib.hid q4; have hb3 := b3.size; have z1 := keep_cell cp2 SB.out hpY; have z2 : w3.frozen? ⟨w.heap.size + 1, 0, none⟩ = false := (by rw [SB.out.frozen (p := ⟨w.heap.size + 1, 0, none⟩) hpY]; exact fp2); have z3 : w.heap.size + 1 < w3.heap.size := Nat.lt_of_lt_of_le hpY SB.out.size; have NQ1 := Lib.hid q1; have B3 := Lib.hid b3; clear i3 b3 q3 q4))
    all_goals
      go_wp2_with fail
      go_meet
    all_goals first
      | exact Lib.hid ⟨Wb, wo, V.length + wc, w3.heap.size, rfl, bs_fin HYB.out KRY.out C5.out hpY (by omega) (by omega) (Nat.le_refl _) ((turned_put SB.out).trans (Turned.of_below (below_alloc _ _) (Nat.le_refl _))) (by rw [← HPV.out]; exact keep_cell (World.cell?_setCell_same _ _ _ z1) (below_alloc _ _) (by simp; omega)) (by rw [(below_alloc _ _).frozen (p := ⟨w.heap.size + 1, 0, none⟩) (by show _ < _; simp; omega), World.frozen?_setCell]; exact z2)
        (fun a ha => keep_cell (set_far (Q4.out a (by rw [HPV.out]; exact ha)) (by have := SB.out.size; have := NQ1.out; simp at this; omega)) (below_alloc _ _) (by simp; omega)) (fun q => by rw [(below_alloc _ _).frozen (p := ⟨Wb, q, none⟩) (by show _ < _; simp; omega), World.frozen?_setCell]; exact Q3.out q) (fun a ha => alloc_after (show a < V.length from by rw [HPV.out]; exact ha)) (fun q => alloc_afterF q) (by omega) (by have := NQ1.out; simpa using this) SB.out.size (by simp; omega) (by simp)⟩
      | exact Lib.hid ⟨Wb, wo, V.length + wc, w3.heap.size, rfl, bs_fin HYB.out KRY.out C5.out hpY (by omega) (by omega) (Nat.le_refl _) (turned_put (SB.out.alloc SB.out.size _)) (by rw [← HPV.out]; exact World.cell?_setCell_same _ _ _ (keep_cell z1 (below_alloc w3 _) z3)) (by rw [World.frozen?_setCell, (below_alloc w3 _).frozen (p := ⟨w.heap.size + 1, 0, none⟩) z3]; exact z2)
        (fun a ha => set_far (keep_cell (Q4.out a (by rw [HPV.out]; exact ha)) (below_alloc w3 _) q2) (by have := SB.out.size; have := NQ1.out; simp at this; omega)) (fun q => by rw [World.frozen?_setCell, (below_alloc w3 _).frozen (p := ⟨Wb, q, none⟩) q2]; exact Q3.out q) (fun a ha => set_far (alloc_cell (show a < V.length from by rw [HPV.out]; exact ha)) (by omega)) (fun q => by rw [World.frozen?_setCell]; exact World.frozen?_alloc_new _ _ _ _) (by omega) (by have := NQ1.out; simpa using this) SB.out.size (by simp; omega) (by simp)⟩
      | exact Lib.hid ⟨Wb, wo, V.length + wc, Y.heap.size, rfl, bs_fin HYB.out KRY.out C5.out hpY (by omega) (by omega) (Nat.le_refl _) (turned_put SB.out) (by rw [← HPV.out]; exact World.cell?_setCell_same _ _ _ z1) (by rw [World.frozen?_setCell]; exact z2)
        (fun a ha => set_far (Q4.out a (by rw [HPV.out]; exact ha)) (by have := NQ1.out; simp at this; omega)) (fun q => by rw [World.frozen?_setCell]; exact Q3.out q) (fun a ha => set_far (keep_cell (alloc_cell (W := Y) (show a < V.length from by rw [HPV.out]; exact ha)) (show Below (Y.alloc (.cells (madeCells #[.int .i64 0] V.length) 2)).heap.size (Y.alloc (.cells (madeCells #[.int .i64 0] V.length) 2)) w3 from Below.undrew (n := 1) B3.out) (show Y.heap.size < (Y.alloc (.cells (madeCells #[.int .i64 0] V.length) 2)).heap.size from by simp)) (by omega)) (fun q => by rw [World.frozen?_setCell, (show Below (Y.alloc (.cells (madeCells #[.int .i64 0] V.length) 2)).heap.size (Y.alloc (.cells (madeCells #[.int .i64 0] V.length) 2)) w3 from Below.undrew (n := 1) B3.out).frozen (p := ⟨Y.heap.size, q, none⟩) (show Y.heap.size < (Y.alloc (.cells (madeCells #[.int .i64 0] V.length) 2)).heap.size from by simp)]; exact World.frozen?_alloc_new Y _ _ _) (by have := NQ1.out; simp at this; omega) (by have := NQ1.out; simp at this; omega) (Nat.le_refl _) (by simp; omega) (by have := B3.out.size; simp at this; simp; omega)⟩
  case rest =>
    obtain ⟨Wb, wo, wx, C, rfl, hS⟩ := hcut.out
    have ST := Lib.hid hS
    have z2 := hS.p2c
    clear hcut d0 d1 cp2 fp2 hmk
    rw [HPV.out]
    have BST : Hid (BsAt w W2.heap.size w2.heap.size B E (w.heap.size + 1) w2.heap.size Wb wo wx C P (fun q => if q < P.length then V.getD q 0 else wT P V q) (fun q => if q < P.length then 0 else bT P V q) wc) := Lib.hid (hS.to (fun q hq => by rw [if_pos hq]) (fun q hq => by rw [if_pos hq]))
    have hcz : wc.heap.size < (wc.alloc (.cells #[.int .i64 ((P.length : Int) - 1)] 3)).heap.size := by simp
    have B0 := Lib.hid (BST.out.keep (below_alloc wc (.cells #[.int .i64 ((P.length : Int) - 1)] 3)))
    have CI0 := Lib.hid (World.cell?_alloc_new wc #[.int .i64 ((P.length : Int) - 1)] 3 0)
    have FI0 := Lib.hid (World.frozen?_alloc_new wc #[.int .i64 ((P.length : Int) - 1)] 3 0)
    have hl1 := hS.l1
    have hl2 := hS.l2
    have wn : IntKind.i64.wrap ((P.length : Int) - 1) = (P.length : Int) - 1 := IntWalk.i64_in _ (by omega)
    clear hS
    go_wp2_with fail
    clear z2
    go_loopg [6] P.length (fun gk s6 wr => ∃ (m pi : Nat), m ≤ P.length ∧ gk = m ∧ s6 = .pointer (some ⟨pi, 0, none⟩) ∧ wr.cell? ⟨pi, 0, none⟩ = some (.int .i64 ((m : Int) - 1)) ∧ wr.frozen? ⟨pi, 0, none⟩ = false ∧ pi ≠ Wb ∧ pi ≠ C ∧ BsAt w W2.heap.size w2.heap.size B E (w.heap.size + 1) w2.heap.size Wb wo wx C P (fun q => if q < m then V.getD q 0 else wT P V q) (fun q => if q < m then 0 else bT P V q) wr)
    case atStart => exact ⟨P.length, wc.heap.size, Nat.le_refl _, rfl, rfl, CI0.out, FI0.out, by omega, by omega, B0.out⟩
    case round =>
      obtain ⟨m, pi, hm, hgm, rfl, hci, hfi, hpw, hpc, hS⟩ := hrel
      have HS := Lib.hid hS
      have hpl := cell_block hci
      cases m with
      | zero =>
        have HR := Lib.hid (hS.to (fw' := wT P V) (fb' := bT P V) (fun q _ => by rw [if_neg (by omega)]) (fun q _ => by rw [if_neg (by omega)]))
        have z2 := hS.p2c
        have z2f := hS.p2f
        have hci2 : wr.cell? ⟨pi, 0, none⟩ = some (.int .i64 (-1)) := hci
        clear hS hci
        go_wp2_with fail
        refine bodyPost_ret (v := .tuple #[.slice (some ⟨Wb, wo, none⟩) P.length wx, .slice (some ⟨C, 0, none⟩) P.length P.length]) (by simp [results, Try.results74, z2, go_sem]) rfl ?_
        exact ⟨_, _, B, E, _, _, Wb, wo, wx, C, rfl, HR.out.again (by omega) (by omega) (by omega)⟩
      | succ a =>
        rw [show ((a + 1 : Nat) : Int) - 1 = (a : Int) from by omega] at hci
        have ha : a < P.length := by omega
        have hai : (a : Int) < (P.length : Int) := by omega
        have ha0 : (0 : Int) ≤ (a : Int) := by omega
        have wa : IntKind.i64.wrap ((a : Int) - 1) = (a : Int) - 1 := IntWalk.i64_in _ (by omega)
        obtain ⟨u, hu, hsu⟩ := hS.kr.kid a ha
        have e5 := hS.p5c
        have e2 := hS.p2c
        have eb := hS.bs a ha
        have fb := hS.bf a
        have hll1 := hS.l1
        have hll2 := hS.l2
        have hCW := hS.ne
        by_cases hl0 : (chL P a).length = 0
        · obtain ⟨ux, uk, rfl⟩ := hsu.len
          rw [hl0] at hu
          have hbt : bT P V a = -1 := by unfold bT; rw [if_pos hl0]
          have hwt := wT_end (P := P) (V := V) ha hl0
          have K1 := Lib.hid ((hS.best ha (-1)).to (fw' := fun q => if q < a then V.getD q 0 else wT P V q) (fb' := fun q => if q < a then 0 else bT P V q) (fun q hq => by
            by_cases e : q = a
            · subst e; rw [if_pos (by omega), if_neg (by omega), hwt]
            · by_cases e2 : q < a
              · rw [if_pos (by omega), if_pos e2]
              · rw [if_neg (by omega), if_neg e2]) (fun q hq => by
            by_cases e : q = a
            · subst e; rw [if_pos rfl, if_neg (by omega), hbt]
            · rw [if_neg e]
              by_cases e2 : q < a
              · rw [if_pos (by omega), if_pos e2]
              · rw [if_neg (by omega), if_neg e2]))
          generalize (if a < a + 1 then (0 : Int) else bT P V a) = ob at eb
          clear hS hsu hl0 hbt hwt
          go_wp2_with fail
          go_at_call 107; refine (firstNone_any ux uk _ _ _).mono ?_; rintro e w5 ⟨rfl, rfl⟩
          go_wp2_with fail
          go_roundg (gk - 1)
          case measure => omega
          case rel => exact ⟨a, wr.heap.size, by omega, by omega, rfl, alloc_at1, alloc_afterF 0, by omega, by omega, K1.out.keep (below_alloc _ _)⟩
        · have hbt : bT P V a = (bcT P V a : Nat) := by unfold bT; rw [if_neg hl0]
          have hwt := wT_in (P := P) (V := V) OK.out.p ha hl0
          obtain ⟨hd1, hd2⟩ := bcW_in OK.out.p (w := wT P V) (a := a) hl0
          have HFC := Lib.hid (firstBest_any P V OK.out E Wb wo wx w2.heap.size pi (w.heap.size + 1) a (fun q => if q < a + 1 then V.getD q 0 else wT P V q) u wr ha hsu.vl e5 hci e2 (hS.kr.ev a ha) hS.ws (fun c h1 h2 => if_neg (by omega)) hl0)
          obtain ⟨d, hd⟩ : ∃ d, bcT P V a = d := ⟨_, rfl⟩
          have hde : bcW P (wT P V) a = d := hd
          rw [hd] at HFC hbt hwt
          rw [hde] at hd1 hd2
          have ed := hS.ws d hd2
          have ea := hS.ws a ha
          have fa := hS.wf (wo + a)
          have hdi : (d : Int) < (P.length : Int) := by omega
          rw [if_neg (show ¬ d < a + 1 by omega)] at ed
          obtain ⟨x, hx⟩ : ∃ x, wT P V d = x := ⟨_, rfl⟩
          rw [hx] at ed hwt
          have hpi : pi < wr.heap.size := hpl
          have K1 := Lib.hid (fun m5 => (((hS.keep (below_drewN (Below.refl wr.heap.size wr) m5)).worth ha x).best ha (d : Int)).to (fw' := fun q => if q < a then V.getD q 0 else wT P V q) (fb' := fun q => if q < a then 0 else bT P V q) (fun q hq => by
            by_cases e : q = a
            · subst e; rw [if_pos rfl, if_neg (by omega), hwt]
            · rw [if_neg e]
              by_cases e2 : q < a
              · rw [if_pos (by omega), if_pos e2]
              · rw [if_neg (by omega), if_neg e2]) (fun q hq => by
            by_cases e : q = a
            · subst e; rw [if_pos rfl, if_neg (by omega), hbt]
            · rw [if_neg e]
              by_cases e2 : q < a
              · rw [if_pos (by omega), if_pos e2]
              · rw [if_neg (by omega), if_neg e2]))
          have hq1 := hS.q1
          have hq2 := hS.q2
          generalize (if a < a + 1 then (0 : Int) else bT P V a) = ob at eb
          generalize (if a < a + 1 then V.getD a 0 else wT P V a) = oa at ea
          have hWC : C ≠ Wb := fun e => hCW e.symm
          have hpw2 : Wb ≠ pi := fun e => hpw e.symm
          have hpc2 : C ≠ pi := fun e => hpc e.symm
          have hq12 : Wb ≠ w.heap.size + 1 := fun e => hq1 e.symm
          clear hS hsu hl0 hbt hwt hd hde hx
          go_wp2_with fail
          go_at_call 107; refine HFC.out.mono ?_; rintro e w5 ⟨rfl, m5, rfl⟩
          obtain ⟨w5, hw5⟩ : ∃ w5, w5 = wr.drewN m5 := ⟨_, rfl⟩
          have K2 := Lib.hid (K1.out m5)
          rw [← hw5] at K2
          have k5 : w5.cell? ⟨w2.heap.size, 0, none⟩ = some (.slice (some ⟨E, 0, none⟩) P.length P.length) := by rw [hw5]; exact e5
          have k2 : w5.cell? ⟨w.heap.size + 1, 0, none⟩ = some (.slice (some ⟨Wb, wo, none⟩) P.length wx) := by rw [hw5]; exact e2
          have kd : w5.cell? ⟨Wb, wo + d, none⟩ = some (.int .i64 x) := by rw [hw5]; exact ed
          have ka : w5.cell? ⟨Wb, wo + a, none⟩ = some (.int .i64 oa) := by rw [hw5]; exact ea
          have kb : w5.cell? ⟨C, a, none⟩ = some (.int .i64 ob) := by rw [hw5]; exact eb
          have kf : w5.frozen? ⟨C, a, none⟩ = false := by rw [hw5]; exact fb
          have kg : w5.frozen? ⟨Wb, wo + a, none⟩ = false := by rw [hw5]; exact fa
          have kc : w5.cell? ⟨pi, 0, none⟩ = some (.int .i64 (a : Int)) := by rw [hw5]; exact hci
          have ks : w5.heap.size = wr.heap.size := by rw [hw5]; simp
          have KS := Lib.hid ks
          rw [← hw5]
          clear K1 e5 e2 ed ea eb fb fa hci hw5 ks hu
          go_wp2_with fail
          have HS5 : Hid (∀ v, (w5.setCell ⟨Wb, wo + a, none⟩ v).cell? ⟨w.heap.size + 1, 0, none⟩ = some (.slice (some ⟨Wb, wo, none⟩) P.length wx) ∧ (w5.setCell ⟨Wb, wo + a, none⟩ v).cell? ⟨pi, 0, none⟩ = some (.int .i64 (a : Int)) ∧ (w5.setCell ⟨Wb, wo + a, none⟩ v).cell? ⟨Wb, wo + d, none⟩ = some (.int .i64 x)) := Lib.hid fun v =>
            ⟨by rw [World.cell?_setCell_other _ _ _ _ (by intro q; injection q with q1 _ _; omega)]; exact k2, by rw [World.cell?_setCell_other _ _ _ _ (by intro q; injection q with q1 _ _; omega)]; exact kc, by rw [World.cell?_setCell_other _ _ _ _ (by intro q; injection q with _ q2 _; omega)]; exact kd⟩
          have HS6 : Hid (∀ v v2, ((w5.setCell ⟨Wb, wo + a, none⟩ v).setCell ⟨C, a, none⟩ v2).cell? ⟨w.heap.size + 1, 0, none⟩ = some (.slice (some ⟨Wb, wo, none⟩) P.length wx) ∧ ((w5.setCell ⟨Wb, wo + a, none⟩ v).setCell ⟨C, a, none⟩ v2).cell? ⟨pi, 0, none⟩ = some (.int .i64 (a : Int)) ∧ ((w5.setCell ⟨Wb, wo + a, none⟩ v).setCell ⟨C, a, none⟩ v2).cell? ⟨Wb, wo + d, none⟩ = some (.int .i64 x)) := Lib.hid fun v v2 =>
            ⟨by rw [World.cell?_setCell_other _ _ _ _ (by intro q; injection q with q1 _ _; omega)]; exact (HS5.out v).1, by rw [World.cell?_setCell_other _ _ _ _ (by intro q; injection q with q1 _ _; omega)]; exact (HS5.out v).2.1, by rw [World.cell?_setCell_other _ _ _ _ (by intro q; injection q with q1 _ _; omega)]; exact (HS5.out v).2.2⟩
          go_region_held3 (fun w' => w'.cell? ⟨w.heap.size + 1, 0, none⟩ = some (.slice (some ⟨Wb, wo, none⟩) P.length wx) ∧ w'.cell? ⟨pi, 0, none⟩ = some (.int .i64 (a : Int)) ∧ w'.cell? ⟨Wb, wo + d, none⟩ = some (.int .i64 x)) (first | exact ⟨k2, kc, kd⟩ | exact HS5.out _ | exact HS6.out _ _) (first | fail)
          all_goals
            go_wp2_with fail
            go_roundg (gk - 1)
            case measure => omega
            case rel => exact ⟨a, w5.heap.size, by omega, by omega, rfl, alloc_at2.1, alloc_at2.2, by have := KS.out; omega, by have := KS.out; omega, (K2.out.keep (below_alloc _ _)).keep (below_drewN (Below.refl _ _) 1)⟩
end Go.Proofs.Ytmkbjkjgemipcaa
