/- Valid cases: the model. -/
import Derived.Test.YtmkbjkjgemipcaaCs
import Derived.Test.YtmkbjkjgemipcaaCsF
import Derived.Test.YtmkbjkjgemipcaaNm7
namespace Go.Proofs.Ytmkbjkjgemipcaa
open Go.RowKit Go.ChangeShapes Go.WideShapes

def caseB (C : Cs) : Bool := nameB C.name && (formB C.form && (decide (C.proof.length ≤ 128) && allCl C.form.letters C.proof))
theorem caseB_1 {C : Cs} (h : nameB C.name = false) : caseB C = false := by unfold caseB; rw [h, Bool.false_and]
theorem caseB_2 {C : Cs} (h : formB C.form = false) : caseB C = false := by unfold caseB; rw [h, Bool.false_and, Bool.and_false]
theorem caseB_3 {C : Cs} (h : ¬ C.proof.length ≤ 128) : caseB C = false := by unfold caseB; rw [decide_eq_false h, Bool.false_and, Bool.and_false, Bool.and_false]
theorem caseB_4 {C : Cs} (h1 : nameB C.name = true) (h2 : formB C.form = true) (h3 : C.proof.length ≤ 128) : caseB C = allCl C.form.letters C.proof := by
  unfold caseB; rw [h1, h2, decide_eq_true h3, Bool.true_and, Bool.true_and, Bool.true_and]
theorem OKC.form {C : Cs} (o : OKC C) : OKFm C.form := ⟨Nat.le_trans (szC_form C) o.size, o.fit.2.1⟩
theorem OKC.proof {C : Cs} (o : OKC C) : OKL C.proof := ⟨Nat.le_trans (szC_proof C) o.size, o.fit.2.2⟩
/-- The case that lies in a box. -/
structure CsAt (w : World) (g : Nat) (C : Cs) (s1 s2 : Value) : Prop where
  c0 : w.cell? ⟨g, 0, none⟩ = some (.string C.name)
  c1 : w.cell? ⟨g, 1, none⟩ = some (.int .i64 C.form.letters)
  c2 : w.cell? ⟨g, 2, none⟩ = some s1
  c3 : w.cell? ⟨g, 3, none⟩ = some s2
theorem CsAt.keep {B : Nat} {w w' : World} {g : Nat} {C : Cs} {s1 s2 : Value} (h : CsAt w g C s1 s2) (hb : Below B w w') (hg : g < B) : CsAt w' g C s1 s2 := ⟨keep_cell h.c0 hb hg, keep_cell h.c1 hb hg, keep_cell h.c2 hb hg, keep_cell h.c3 hb hg⟩
theorem CsAt.lt {w : World} {g : Nat} {C : Cs} {s1 s2 : Value} (h : CsAt w g C s1 s2) : g < w.heap.size := cell_block h.c0
theorem CsAt.mk' (w : World) (C : Cs) (s1 s2 : Value) (T : TypeId) : CsAt (w.alloc (.cells #[.string C.name, .int .i64 C.form.letters, s1, s2] T)) w.heap.size C s1 s2 := ⟨World.cell?_alloc_new _ _ _ _, World.cell?_alloc_new _ _ _ _, World.cell?_alloc_new _ _ _ _, World.cell?_alloc_new _ _ _ _⟩
theorem CsAt.form {w : World} {g : Nat} {C : Cs} {s1 s2 : Value} (h : CsAt w g C s1 s2) (h1 : LV w s1 C.form.cs) : FmAt1 w g C.form := ⟨s1, ⟨h.c1, h.c2⟩, h1⟩
set_option maxRecDepth 100000 in
set_option maxHeartbeats 4000000 in
theorem l07Case_any (g : Nat) (C : Cs) (s1 s2 : Value) (w : World) (hg : CsAt w g C s1 s2) (hs1 : LV w s1 C.form.cs) (hs2 : LV w s2 C.proof) (o : OKC C) :
    Calls Try.prog 86 #[.pointer (some ⟨g, 0, none⟩)] w (Says (caseB C) w) := by
  have OF := Lib.hid o.form
  have OP := Lib.hid o.proof
  have hnm := o.fit.1
  have HBX := Lib.hid hg
  have hgl := hg.lt
  have HF := Lib.hid (hg.form hs1)
  clear o
  cases h1 : nameB C.name with
  | false =>
    have HN := Lib.hid (caseB_1 h1)
    have H1 := Lib.hid h1
    obtain ⟨c0, c1, c2, c3⟩ := hg
    clear h1 hs1 hs2
    go_enter Try.func86, Try.ntmps86
    go_wp2_with fail
    go_at_call 114; refine (l07Name_any C.name hnm _).mono ?_; rintro e w' ⟨rfl, rfl⟩
    rw [H1.out]
    go_wp2_with fail
    go_ret
    exact says HN.out.symm (Below.refl _ _)
  | true =>
    have H1 := Lib.hid h1
    cases h2 : formB C.form with
    | false =>
      have HN := Lib.hid (caseB_2 (C := C) h2)
      have H2 := Lib.hid h2
      obtain ⟨c0, c1, c2, c3⟩ := hg
      clear h1 h2 hs1 hs2
      go_enter Try.func86, Try.ntmps86
      go_wp2_with fail
      go_at_call 114; refine (l07Name_any C.name hnm _).mono ?_; rintro e w' ⟨rfl, rfl⟩
      rw [H1.out]
      go_wp2_with fail
      go_at_call 115; refine (l05Is_at g C.form _ HF.out OF.out).mono ?_; rintro e w1 ⟨rfl, b1⟩
      rw [H2.out]
      have B1 := Lib.hid b1
      clear b1
      go_wp2_with fail
      go_ret
      exact says HN.out.symm B1.out
    | true =>
      have H2 := Lib.hid h2
      by_cases h3 : C.proof.length ≤ 128
      · have HN := Lib.hid (caseB_4 h1 h2 h3)
        have h3i : ¬ (128 : Int) < (C.proof.length : Int) := by omega
        rcases hs2 with ⟨hz, ao, cap, rfl⟩ | ⟨b, off, cap, U, rfl, hpos, hbl, hcell⟩
        · obtain ⟨c0, c1, c2, c3⟩ := hg
          have HZ : Hid (true = caseB C) := Lib.hid (by rw [HN.out, hz]; rfl)
          clear h1 h2 hz HN h3 h3i hs1
          go_enter Try.func86, Try.ntmps86
          go_wp2_with fail
          go_at_call 114; refine (l07Name_any C.name hnm _).mono ?_; rintro e w' ⟨rfl, rfl⟩
          rw [H1.out]
          go_wp2_with fail
          go_at_call 115; refine (l05Is_at g C.form _ HF.out OF.out).mono ?_; rintro e w1 ⟨rfl, b1⟩
          rw [H2.out]
          have B1 := Lib.hid b1
          obtain ⟨c0', c1', c2', c3'⟩ := HBX.out.keep b1 hgl
          clear b1
          go_wp2_with fail
          refine wp_loop_rounds 1 ?_
          rw [rounds_succ]
          go_wp2
          go_ret
          exact says HZ.out (by first | exact B1.out | exact below_drewN B1.out _)
        have HC := Lib.hid hcell
        obtain ⟨c0, c1, c2, c3⟩ := hg
        clear h1 h2 hcell hs1
        go_enter Try.func86, Try.ntmps86
        go_wp2_with fail
        go_at_call 114; refine (l07Name_any C.name hnm _).mono ?_; rintro e w' ⟨rfl, rfl⟩
        rw [H1.out]
        go_wp2_with fail
        go_at_call 115; refine (l05Is_at g C.form _ HF.out OF.out).mono ?_; rintro e w1 ⟨rfl, b1⟩
        rw [H2.out]
        have B1 := Lib.hid b1
        obtain ⟨c0', c1', c2', c3'⟩ := HBX.out.keep b1 hgl
        clear b1
        go_wp2_with fail
        go_loopg [30] C.proof.length (fun gk i wr => ∃ k : Nat, k ≤ C.proof.length ∧ gk + k = C.proof.length ∧ i = .int .i64 k ∧ (∀ j, j < k → clB C.form.letters (C.proof.getD j []) = true) ∧ Below w.heap.size w wr)
        case atStart => exact ⟨0, Nat.zero_le _, by omega, rfl, fun j hj => by omega, by first | exact B1.out | exact below_drewN B1.out _⟩
        case round =>
          obtain ⟨k, hk, hgk, rfl, hall, hwr⟩ := hrel
          have HL := Lib.hid hall
          have HW := Lib.hid hwr
          clear hall c0 c1 c2 c3 c0' c1' c2' c3'
          by_cases hlt : k < C.proof.length
          · obtain ⟨c0, c1, c2, c3⟩ := HBX.out.keep hwr hgl
            have d0 : wr.cell? ⟨b, off + k, none⟩ = some (U k) := by rw [hwr.cell (p := ⟨b, off + k, none⟩) hbl]; exact (HC.out k hlt).1
            have HI := Lib.hid ((HC.out k hlt).2.below hwr (Nat.le_refl _))
            generalize U k = u at d0 HI
            have HD := Lib.hid d0
            have HC1 := Lib.hid c1
            have HC3 := Lib.hid c3
            have hgl2 : g < wr.heap.size := cell_block c1
            have hbl2 : b < wr.heap.size := cell_block d0
            clear hwr c0 c2
            cases q : clB C.form.letters (C.proof.getD k []) with
            | false =>
              have HQ := Lib.hid q
              clear q
              go_wp2_with fail
              go_region_held3 (fun w' => w'.cell? ⟨g, 1, none⟩ = some (.int .i64 C.form.letters) ∧ w'.cell? ⟨g, 3, none⟩ = some (.slice (some ⟨b, off, none⟩) C.proof.length (C.proof.length + cap)) ∧ w'.cell? ⟨b, off + k, none⟩ = some u) (first | exact ⟨c1, c3, d0⟩ | exact S2.out) (first
                | (go_at_call 116; refine (l05Clause_any C.form.letters u (C.proof.getD k []) _ (VL.drewN HI.out _) (OP.out.short k)).mono ?_; rintro e w3 ⟨rfl, b3⟩; have bz := (below_drewN (Below.refl wr.heap.size wr) 1).trans b3; have H3 := Lib.hid (HW.out.trans (bz.mono HW.out.size)); have S2 : Hid (_ ∧ _ ∧ _) := Lib.hid ⟨keep_cell HC1.out bz hgl2, keep_cell HC3.out bz hgl2, keep_cell HD.out bz hbl2⟩; clear b3 bz; rw [HQ.out]))
              all_goals
                go_wp2_with fail
                go_ret
                exact says (by rw [HN.out, allCl_no hlt HQ.out]) H3.out
            | true =>
              have HQ := Lib.hid q
              clear q
              go_wp2_with fail
              go_region_held3 (fun w' => w'.cell? ⟨g, 1, none⟩ = some (.int .i64 C.form.letters) ∧ w'.cell? ⟨g, 3, none⟩ = some (.slice (some ⟨b, off, none⟩) C.proof.length (C.proof.length + cap)) ∧ w'.cell? ⟨b, off + k, none⟩ = some u) (first | exact ⟨c1, c3, d0⟩ | exact S2.out) (first
                | (go_at_call 116; refine (l05Clause_any C.form.letters u (C.proof.getD k []) _ (VL.drewN HI.out _) (OP.out.short k)).mono ?_; rintro e w3 ⟨rfl, b3⟩; have bz := (below_drewN (Below.refl wr.heap.size wr) 1).trans b3; have H3 := Lib.hid (HW.out.trans (bz.mono HW.out.size)); have S2 : Hid (_ ∧ _ ∧ _) := Lib.hid ⟨keep_cell HC1.out bz hgl2, keep_cell HC3.out bz hgl2, keep_cell HD.out bz hbl2⟩; clear b3 bz; rw [HQ.out]))
              all_goals
                go_wp2_with fail
                go_roundg (gk - 1)
                case measure => omega
                case rel => exact ⟨k + 1, by omega, by omega, by go_num, fun j hj => by
                  by_cases e : j = k
                  · subst e; exact HQ.out
                  · exact HL.out j (by omega), H3.out⟩
          · have HE : Hid (true = caseB C) := Lib.hid (by rw [HN.out, allCl_yes fun j hj => HL.out j (by omega)])
            clear hwr
            go_wp2_with fail
            go_ret
            exact says HE.out HW.out
      · have HN := Lib.hid (caseB_3 h3)
        have h3i : (128 : Int) < (C.proof.length : Int) := by omega
        obtain ⟨ao, cap, rfl⟩ := hs2.long
        obtain ⟨c0, c1, c2, c3⟩ := hg
        clear h1 h2 hs1 hs2
        go_enter Try.func86, Try.ntmps86
        go_wp2_with fail
        go_at_call 114; refine (l07Name_any C.name hnm _).mono ?_; rintro e w' ⟨rfl, rfl⟩
        rw [H1.out]
        go_wp2_with fail
        go_at_call 115; refine (l05Is_at g C.form _ HF.out OF.out).mono ?_; rintro e w1 ⟨rfl, b1⟩
        rw [H2.out]
        have B1 := Lib.hid b1
        obtain ⟨c0', c1', c2', c3'⟩ := HBX.out.keep b1 hgl
        clear b1
        go_wp2_with fail
        go_ret
        exact says HN.out.symm (by first | exact B1.out | exact below_drewN B1.out _)
theorem specValidCase_any (v : Value) (C : Cs) (w : World) (hv : CsV w v C) (o : OKC C) :
    Calls Try.prog 46 #[v] w (Says (caseB C) w) := by
  obtain ⟨s1, s2, rfl, g1, g2⟩ := hv
  have HB := Lib.hid (below_alloc w)
  have X0 := Lib.hid (CsAt.mk' w C s1 s2 67)
  have G1 := Lib.hid (fun o => g1.below (HB.out o) (Nat.le_refl _))
  have G2 := Lib.hid (fun o => g2.below (HB.out o) (Nat.le_refl _))
  clear g1 g2
  go_enter Try.func46, Try.ntmps46
  go_wp2_with fail
  go_at_call 86; refine (l07Case_any w.heap.size C s1 s2 _ X0.out (G1.out _) (G2.out _) o).mono ?_; rintro e w1 ⟨rfl, b1⟩
  have H1 := Lib.hid ((HB.out _).trans (b1.mono (by simp)))
  clear b1
  go_wp2_with fail
  go_ret
  exact says rfl H1.out
end Go.Proofs.Ytmkbjkjgemipcaa
