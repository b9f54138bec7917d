/- Valid forms: both sides. -/
import Derived.Test.YtnakpfbeeekmiaaClS
import Derived.Test.YtnakpfbeeekmiaaFm
import Derived.Test.YtnakpfbeeekmiaaFnd
namespace Go.Proofs.Ytnakpfbeeekmiaa
open Go.RowKit Go.ChangeShapes Go.WideShapes

def allCl (n : Int) (C : List (List Int)) : Bool := (List.range C.length).all fun i => clB n (C.getD i [])
def formB (F : Fm) : Bool := inB F.letters 1 10 && (decide (F.cs.length ≤ 48) && allCl F.letters F.cs)
theorem allCl_no {n : Int} {C : List (List Int)} {k : Nat} (hk : k < C.length) (h : clB n (C.getD k []) = false) : allCl n C = false := rngNot hk h
theorem allCl_yes {n : Int} {C : List (List Int)} (h : ∀ k, k < C.length → clB n (C.getD k []) = true) : allCl n C = true := rngAll h
theorem formB_1 {F : Fm} (h : inB F.letters 1 10 = false) : formB F = false := by unfold formB; rw [h, Bool.false_and]
theorem formB_2 {F : Fm} (h : ¬ F.cs.length ≤ 48) : formB F = false := by unfold formB; rw [decide_eq_false h, Bool.false_and, Bool.and_false]
theorem formB_3 {F : Fm} (h1 : inB F.letters 1 10 = true) (h2 : F.cs.length ≤ 48) : formB F = allCl F.letters F.cs := by unfold formB; rw [h1, decide_eq_true h2, Bool.true_and, Bool.true_and]
/-- What a valid form is. -/
structure FormOk (F : Fm) : Prop where
  n1 : 1 ≤ F.letters
  n2 : F.letters ≤ 10
  few : F.cs.length ≤ 48
  cl : ∀ i, i < F.cs.length → ClOk F.letters (F.cs.getD i [])
theorem formB_ok {F : Fm} (h : formB F = true) : FormOk F := by
  unfold formB at h
  simp only [Bool.and_eq_true, decide_eq_true_eq] at h
  have h1 := inB_ok h.1
  exact ⟨h1.1, h1.2, h.2.1, fun i hi => clB_ok (rngAt h.2.2 hi)⟩
/-- Does one of the first k lists fail? -/
theorem areCl1_any (n : Int) (B : Nat) (u : Value) (c : List Int) (w : World) (hu : IL w u c) (hB : w.cell? ⟨B, 0, none⟩ = some (.int .i64 n)) (hn : c.length ≤ 1048576) (hx : ∀ i, -9223372036854775808 ≤ c.getD i 0 ∧ c.getD i 0 ≤ 9223372036854775807) :
    Calls Try.prog 96 #[u, .pointer (some ⟨B, 0, none⟩)] w (Says (!clB n c) w) := by
  have HU := Lib.hid hu
  obtain ⟨ao, cap, rfl⟩ := hu.long
  clear hu
  go_enter Try.func96, Try.ntmps96
  go_wp2_with fail
  go_at_call 85; refine (implClause_any n _ c _ HU.out hn hx).mono ?_; rintro e w1 ⟨rfl, b⟩
  have HB := Lib.hid b
  clear b
  go_wp2_with fail
  go_ret
  exact says rfl HB.out
set_option maxHeartbeats 1000000 in
theorem indexCl_any (n : Int) (B : Nat) (v : Value) (C : List (List Int)) (w : World) (hv : LV w v C) (hB : w.cell? ⟨B, 0, none⟩ = some (.int .i64 n)) (o : OKL C) :
    Calls Try.prog 121 #[v, .func (.func 96) #[] #[.pointer (some ⟨B, 0, none⟩)]] w (FoundP (!allCl n C) w) := by
  have hn := o.len
  have OK := Lib.hid o
  rcases hv with ⟨rfl, ao, cap, rfl⟩ | ⟨b, off, cap, U, rfl, hpos, hbl, hcell⟩
  · clear hB
    go_enter Try.func121, Try.ntmps121
    go_wp2_with fail
    refine wp_loop_rounds 1 ?_
    rw [rounds_succ]
    go_wp2
    go_ret
    exact ⟨Or.inr ⟨rfl, rfl⟩, Below.refl _ _⟩
  have HC := Lib.hid hcell
  have HX := Lib.hid hB
  have hBl := cell_block hB
  clear hcell hB
  go_enter Try.func121, Try.ntmps121
  go_wp2_with fail
  go_loopg [8] C.length (fun gk i wr => ∃ k : Nat, k ≤ C.length ∧ gk + k = C.length ∧ i = .int .i64 k ∧ (∀ j, j < k → clB n (C.getD j []) = true) ∧ Below w.heap.size w wr)
  case atStart => exact ⟨0, Nat.zero_le _, by omega, rfl, fun j hj => by omega, Below.refl _ _⟩
  case round =>
    obtain ⟨k, hk, hgk, rfl, hall, hwr⟩ := hrel
    have HL := Lib.hid hall
    have HW := Lib.hid hwr
    clear hall
    by_cases hlt : k < C.length
    · have c0 : wr.cell? ⟨b, off + k, none⟩ = some (U k) := by rw [hwr.cell (p := ⟨b, off + k, none⟩) hbl]; exact (HC.out k hlt).1
      have HI := Lib.hid ((HC.out k hlt).2.below hwr (Nat.le_refl _))
      have HB : Hid (wr.cell? ⟨B, 0, none⟩ = some (.int .i64 n)) := Lib.hid (by rw [hwr.cell (p := ⟨B, 0, none⟩) hBl]; exact HX.out)
      clear hwr
      generalize U k = u at c0 HI
      cases q : clB n (C.getD k []) with
      | false =>
        have HQ := Lib.hid q
        clear q
        go_wp2_with fail
        go_at_call 96; refine (areCl1_any n B u (C.getD k []) _ HI.out HB.out (OK.out.short k) (OK.out.in k)).mono ?_; rintro e w1 ⟨rfl, b1⟩
        rw [HQ.out]
        have H1 := Lib.hid (HW.out.trans (b1.mono HW.out.size))
        clear b1 c0
        go_wp2_with fail
        go_ret
        exact ⟨Or.inl ⟨by rw [allCl_no hlt HQ.out]; rfl, k, rfl⟩, H1.out⟩
      | true =>
        have HQ := Lib.hid q
        clear q
        go_wp2_with fail
        go_at_call 96; refine (areCl1_any n B u (C.getD k []) _ HI.out HB.out (OK.out.short k) (OK.out.in k)).mono ?_; rintro e w1 ⟨rfl, b1⟩
        rw [HQ.out]
        have H1 := Lib.hid (HW.out.trans (b1.mono HW.out.size))
        clear b1 c0
        go_wp2_with fail
        go_roundg (gk - 1)
        case measure => omega
        case rel => exact ⟨k + 1, by omega, by omega, by go_num, fun j hj => by
          by_cases e : j = k
          · subst e; exact HQ.out
          · exact HL.out j (by omega), H1.out⟩
    · obtain rfl : k = C.length := by omega
      clear hwr
      go_wp2_with fail
      go_ret
      exact ⟨Or.inr ⟨by rw [allCl_yes HL.out]; rfl, rfl⟩, HW.out⟩
theorem containsCl_any (n : Int) (B : Nat) (v : Value) (C : List (List Int)) (w : World) (hv : LV w v C) (hB : w.cell? ⟨B, 0, none⟩ = some (.int .i64 n)) (o : OKL C) :
    Calls Try.prog 95 #[v, .func (.func 96) #[] #[.pointer (some ⟨B, 0, none⟩)]] w (Says (!allCl n C) w) := by
  have HV := Lib.hid hv
  have HB := Lib.hid hB
  obtain ⟨ao, cap, rfl⟩ := hv.long
  clear hv hB
  go_enter Try.func95, Try.ntmps95
  go_wp2_with fail
  go_at_call 121; refine (indexCl_any n B _ C _ HV.out HB.out o).mono ?_; rintro e w1 ⟨⟨ht, k, rfl⟩ | ⟨ht, rfl⟩, b1⟩
  · have HT := Lib.hid ht
    have H1 := Lib.hid b1
    have hk0 : (0 : Int) ≤ (k : Int) := by omega
    clear ht b1
    go_wp2_with fail
    go_ret
    exact says (by rw [HT.out]) H1.out
  · have HT := Lib.hid ht
    have H1 := Lib.hid b1
    clear ht b1
    go_wp2_with fail
    go_ret
    exact says HT.out.symm H1.out
theorem areClauses_any (n : Int) (v : Value) (C : List (List Int)) (w : World) (hv : LV w v C) (o : OKL C) :
    Calls Try.prog 57 #[.int .i64 n, v] w (Says (allCl n C) w) := by
  have HV := Lib.hid (fun o => hv.below (below_alloc w o) (Nat.le_refl _))
  obtain ⟨ao, cap, rfl⟩ := hv.long
  clear hv
  go_enter Try.func57, Try.ntmps57
  go_wp2_with fail
  go_at_call 95; refine (containsCl_any n w.heap.size _ C _ (HV.out _) (World.cell?_alloc_new _ _ _ _) o).mono ?_; rintro e w1 ⟨rfl, b1⟩
  have H1 := Lib.hid ((below_alloc w _).trans (b1.mono (by simp)))
  clear b1
  go_wp2_with fail
  go_ret
  exact says (by simp) H1.out
set_option maxHeartbeats 1000000 in
theorem implForm_any (v : Value) (F : Fm) (w : World) (hv : FmV w v F) (o : OKFm F) :
    Calls Try.prog 50 #[v] w (Says (formB F) w) := by
  obtain ⟨s1, rfl, g1⟩ := hv
  have G1 := Lib.hid (fun o => g1.below (below_alloc w o) (Nat.le_refl _))
  have OK := Lib.hid o.okl
  have hb0 := Lib.hid (fun o m => below_drewN (below_alloc w o) m)
  obtain ⟨ao, cap, rfl⟩ := g1.long
  clear g1
  cases h1 : inB F.letters 1 10 with
  | false =>
    have HN := Lib.hid (formB_1 h1)
    have H1 := Lib.hid (show (decide (1 ≤ F.letters) && decide (F.letters ≤ 10)) = false from h1)
    clear h1
    go_enter Try.func50, Try.ntmps50
    go_wp2_with fail
    go_at_call 56; refine (isFrom_is false F.letters 1 10 _ H1.out).mono ?_; rintro e w' ⟨rfl, m, rfl⟩
    go_wp2_with fail
    go_ret
    exact says HN.out.symm (hb0.out _ _)
  | true =>
    have H1 := Lib.hid (show (decide (1 ≤ F.letters) && decide (F.letters ≤ 10)) = true from h1)
    by_cases h2 : F.cs.length ≤ 48
    · have HN := Lib.hid (formB_3 h1 h2)
      have h2i : (F.cs.length : Int) ≤ 48 := by omega
      clear h1
      go_enter Try.func50, Try.ntmps50
      go_wp2_with fail
      go_at_call 56; refine (isFrom_is true F.letters 1 10 _ H1.out).mono ?_; rintro e w' ⟨rfl, m, rfl⟩
      go_wp2_with fail
      go_at_call 57; refine (areClauses_any F.letters _ F.cs _ ((G1.out _).drewN m) OK.out).mono ?_; rintro e w1 ⟨rfl, b1⟩
      have HB := Lib.hid ((hb0.out _ _).trans (b1.mono (hb0.out _ _).size))
      clear b1
      go_wp2_with fail
      go_ret
      exact says HN.out.symm HB.out
    · have HN := Lib.hid (formB_2 h2)
      have h2i : ¬ (F.cs.length : Int) ≤ 48 := by omega
      clear h1
      go_enter Try.func50, Try.ntmps50
      go_wp2_with fail
      go_at_call 56; refine (isFrom_is true F.letters 1 10 _ H1.out).mono ?_; rintro e w' ⟨rfl, m, rfl⟩
      go_wp2_with fail
      go_ret
      exact says HN.out.symm (hb0.out _ _)
/-- The form that lies in a box. -/
structure FmAt (w : World) (g : Nat) (F : Fm) : Prop where
  box : ∃ s, Box2 w g (.int .i64 F.letters) s ∧ LV w s F.cs
theorem FmAt.keep {w w' : World} {g : Nat} {F : Fm} (h : FmAt w g F) (b : Below w.heap.size w w') : FmAt w' g F := by
  obtain ⟨s, h1, h2⟩ := h.box
  exact ⟨s, h1.keep b h1.lt, h2.below b (Nat.le_refl _)⟩
theorem FmAt.drewN {w : World} {g : Nat} {F : Fm} (h : FmAt w g F) (m : Nat) : FmAt (w.drewN m) g F := h.keep (below_drewN (Below.refl _ _) m)
theorem FmAt.mk' {w : World} {v : Value} {F : Fm} (h : ∃ s1, v = .agg #[.int .i64 F.letters, s1] ∧ LV w s1 F.cs) (T : TypeId) : ∃ s1, v = .agg #[.int .i64 F.letters, s1] ∧ FmAt (w.alloc (.cells #[.int .i64 F.letters, s1] T)) w.heap.size F := by
  obtain ⟨s1, e, h1⟩ := h
  exact ⟨s1, e, s1, Box2.mk' _ _ _ _, h1.below (below_alloc w _) (Nat.le_refl _)⟩
set_option maxRecDepth 100000 in
set_option maxHeartbeats 4000000 in
theorem l05Is_any (g : Nat) (F : Fm) (w : World) (hg : FmAt w g F) (o : OKFm F) :
    Calls Try.prog 47 #[.pointer (some ⟨g, 0, none⟩)] w (Says (formB F) w) := by
  obtain ⟨s, hb, hs⟩ := hg.box
  have OK := Lib.hid o.okl
  have HBX := Lib.hid hb
  have hgl := hb.lt
  cases h1 : inB F.letters 1 10 with
  | false =>
    have HN := Lib.hid (formB_1 h1)
    have H1 := Lib.hid h1
    obtain ⟨c0, c1⟩ := hb
    clear h1 hs hg
    go_enter Try.func47, Try.ntmps47
    go_wp2_with fail
    go_at_call 77; refine (l05Letters_is F.letters false _ H1.out).mono ?_; rintro e w' ⟨rfl, m, rfl⟩
    go_wp2_with fail
    go_ret
    exact says HN.out.symm (below_drewN (Below.refl _ _) _)
  | true =>
    have H1 := Lib.hid h1
    by_cases h2 : F.cs.length ≤ 48
    · have HN := Lib.hid (formB_3 h1 h2)
      have h2i : ¬ (48 : Int) < (F.cs.length : Int) := by omega
      rcases hs with ⟨hz, ao, cap, rfl⟩ | ⟨b, off, cap, U, rfl, hpos, hbl, hcell⟩
      · obtain ⟨c0, c1⟩ := hb
        have HZ : Hid (true = formB F) := Lib.hid (by rw [HN.out, hz]; rfl)
        clear h1 hg hz HN h2 h2i
        go_enter Try.func47, Try.ntmps47
        go_wp2_with fail
        go_at_call 77; refine (l05Letters_is F.letters true _ H1.out).mono ?_; rintro e w' ⟨rfl, m, rfl⟩
        go_wp2_with fail
        refine wp_loop_rounds 1 ?_
        rw [rounds_succ]
        go_wp2
        go_ret
        exact says HZ.out (below_drewN (Below.refl _ _) _)
      have HC := Lib.hid hcell
      obtain ⟨c0, c1⟩ := hb
      clear h1 hg hcell
      go_enter Try.func47, Try.ntmps47
      go_wp2_with fail
      go_at_call 77; refine (l05Letters_is F.letters true _ H1.out).mono ?_; rintro e w' ⟨rfl, m, rfl⟩
      go_wp2_with fail
      go_loopg [23] F.cs.length (fun gk i wr => ∃ k : Nat, k ≤ F.cs.length ∧ gk + k = F.cs.length ∧ i = .int .i64 k ∧ (∀ j, j < k → clB F.letters (F.cs.getD j []) = true) ∧ Below w.heap.size w wr)
      case atStart => exact ⟨0, Nat.zero_le _, by omega, rfl, fun j hj => by omega, below_drewN (Below.refl _ _) _⟩
      case round =>
        obtain ⟨k, hk, hgk, rfl, hall, hwr⟩ := hrel
        have HL := Lib.hid hall
        have HW := Lib.hid hwr
        clear hall c0 c1
        by_cases hlt : k < F.cs.length
        · obtain ⟨c0, c1⟩ := HBX.out.keep hwr hgl
          have d0 : wr.cell? ⟨b, off + k, none⟩ = some (U k) := by rw [hwr.cell (p := ⟨b, off + k, none⟩) hbl]; exact (HC.out k hlt).1
          have HI := Lib.hid ((HC.out k hlt).2.below hwr (Nat.le_refl _))
          generalize U k = u at d0 HI
          have HD := Lib.hid d0
          have HC0 := Lib.hid c0
          have HC1 := Lib.hid c1
          have hgl2 : g < wr.heap.size := cell_block c0
          have hbl2 : b < wr.heap.size := cell_block d0
          clear hwr
          cases q : clB F.letters (F.cs.getD k []) with
          | false =>
            have HQ := Lib.hid q
            clear q
            go_wp2_with fail
            go_region_held3 (fun w' => w'.cell? ⟨g, 0, none⟩ = some (.int .i64 F.letters) ∧ w'.cell? ⟨g, 1, none⟩ = some (.slice (some ⟨b, off, none⟩) F.cs.length (F.cs.length + cap)) ∧ w'.cell? ⟨b, off + k, none⟩ = some u) (first | exact ⟨c0, c1, d0⟩ | exact S2.out) (first
              | (go_at_call 54; refine (l05Clause_any F.letters u (F.cs.getD k []) _ (VL.drewN HI.out _) (OK.out.short k)).mono ?_; rintro e w3 ⟨rfl, b3⟩; have bz := (below_drewN (Below.refl wr.heap.size wr) 1).trans b3; have H3 := Lib.hid (HW.out.trans (bz.mono HW.out.size)); have S2 : Hid (_ ∧ _ ∧ _) := Lib.hid ⟨keep_cell HC0.out bz hgl2, keep_cell HC1.out bz hgl2, keep_cell HD.out bz hbl2⟩; clear b3 bz; rw [HQ.out]))
            all_goals
              go_wp2_with fail
              go_ret
              exact says (by rw [HN.out, allCl_no hlt HQ.out]) H3.out
          | true =>
            have HQ := Lib.hid q
            clear q
            go_wp2_with fail
            go_region_held3 (fun w' => w'.cell? ⟨g, 0, none⟩ = some (.int .i64 F.letters) ∧ w'.cell? ⟨g, 1, none⟩ = some (.slice (some ⟨b, off, none⟩) F.cs.length (F.cs.length + cap)) ∧ w'.cell? ⟨b, off + k, none⟩ = some u) (first | exact ⟨c0, c1, d0⟩ | exact S2.out) (first
              | (go_at_call 54; refine (l05Clause_any F.letters u (F.cs.getD k []) _ (VL.drewN HI.out _) (OK.out.short k)).mono ?_; rintro e w3 ⟨rfl, b3⟩; have bz := (below_drewN (Below.refl wr.heap.size wr) 1).trans b3; have H3 := Lib.hid (HW.out.trans (bz.mono HW.out.size)); have S2 : Hid (_ ∧ _ ∧ _) := Lib.hid ⟨keep_cell HC0.out bz hgl2, keep_cell HC1.out bz hgl2, keep_cell HD.out bz hbl2⟩; clear b3 bz; rw [HQ.out]))
            all_goals
              go_wp2_with fail
              go_roundg (gk - 1)
              case measure => omega
              case rel => exact ⟨k + 1, by omega, by omega, by go_num, fun j hj => by
                by_cases e : j = k
                · subst e; exact HQ.out
                · exact HL.out j (by omega), H3.out⟩
        · have HE : Hid (true = formB F) := Lib.hid (by rw [HN.out, allCl_yes fun j hj => HL.out j (by omega)])
          clear hwr
          go_wp2_with fail
          go_ret
          exact says HE.out HW.out
    · have HN := Lib.hid (formB_2 h2)
      have h2i : (48 : Int) < (F.cs.length : Int) := by omega
      obtain ⟨ao, cap, rfl⟩ := hs.long
      obtain ⟨c0, c1⟩ := hb
      clear h1 hg hs
      go_enter Try.func47, Try.ntmps47
      go_wp2_with fail
      go_at_call 77; refine (l05Letters_is F.letters true _ H1.out).mono ?_; rintro e w' ⟨rfl, m, rfl⟩
      go_wp2_with fail
      go_ret
      exact says HN.out.symm (below_drewN (Below.refl _ _) _)
end Go.Proofs.Ytnakpfbeeekmiaa
