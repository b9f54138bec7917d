/- A form inside a case is valid: the model. -/
import Derived.Test.YtmkbjkjgemipcaaVf
namespace Go.Proofs.Ytmkbjkjgemipcaa
open Go.RowKit Go.ChangeShapes Go.WideShapes

structure BoxF (w : World) (g : Nat) (a b : Value) : Prop where
  c0 : w.cell? ⟨g, 1, none⟩ = some a
  c1 : w.cell? ⟨g, 2, none⟩ = some b
theorem BoxF.keep {B : Nat} {w w' : World} {g : Nat} {a b : Value} (h : BoxF w g a b) (hb : Below B w w') (hg : g < B) : BoxF w' g a b := ⟨keep_cell h.c0 hb hg, keep_cell h.c1 hb hg⟩
theorem BoxF.lt {w : World} {g : Nat} {a b : Value} (h : BoxF w g a b) : g < w.heap.size := cell_block h.c0
/-- The form that lies in a box, behind its first cell. -/
structure FmAt1 (w : World) (g : Nat) (F : Fm) : Prop where
  box : ∃ s, BoxF w g (.int .i64 F.letters) s ∧ LV w s F.cs
set_option maxRecDepth 100000 in
set_option maxHeartbeats 4000000 in
theorem l05Is_at (g : Nat) (F : Fm) (w : World) (hg : FmAt1 w g F) (o : OKFm F) :
    Calls Try.prog 115 #[.pointer (some ⟨g, 1, none⟩)] w (Says (formB F) w) := by
  obtain ⟨s, hb, hs⟩ := hg.box
  have OK := Lib.hid o.okl
  have HBX := Lib.hid hb
  have hgl := hb.lt
  cases h1 : inB F.letters 1 10 with
  | false =>
    have HN := Lib.hid (formB_1 h1)
    have H1 := Lib.hid h1
    obtain ⟨c0, c1⟩ := hb
    clear h1 hs hg
    go_enter Try.func115, Try.ntmps115
    go_wp2_with fail
    go_at_call 133; refine (l05Letters_is F.letters false _ H1.out).mono ?_; rintro e w' ⟨rfl, m, rfl⟩
    go_wp2_with fail
    go_ret
    exact says HN.out.symm (below_drewN (Below.refl _ _) _)
  | true =>
    have H1 := Lib.hid h1
    by_cases h2 : F.cs.length ≤ 48
    · have HN := Lib.hid (formB_3 h1 h2)
      have h2i : ¬ (48 : Int) < (F.cs.length : Int) := by omega
      rcases hs with ⟨hz, ao, cap, rfl⟩ | ⟨b, off, cap, U, rfl, hpos, hbl, hcell⟩
      · obtain ⟨c0, c1⟩ := hb
        have HZ : Hid (true = formB F) := Lib.hid (by rw [HN.out, hz]; rfl)
        clear h1 hg hz HN h2 h2i
        go_enter Try.func115, Try.ntmps115
        go_wp2_with fail
        go_at_call 133; refine (l05Letters_is F.letters true _ H1.out).mono ?_; rintro e w' ⟨rfl, m, rfl⟩
        go_wp2_with fail
        refine wp_loop_rounds 1 ?_
        rw [rounds_succ]
        go_wp2
        go_ret
        exact says HZ.out (below_drewN (Below.refl _ _) _)
      have HC := Lib.hid hcell
      obtain ⟨c0, c1⟩ := hb
      clear h1 hg hcell
      go_enter Try.func115, Try.ntmps115
      go_wp2_with fail
      go_at_call 133; refine (l05Letters_is F.letters true _ H1.out).mono ?_; rintro e w' ⟨rfl, m, rfl⟩
      go_wp2_with fail
      go_loopg [23] F.cs.length (fun gk i wr => ∃ k : Nat, k ≤ F.cs.length ∧ gk + k = F.cs.length ∧ i = .int .i64 k ∧ (∀ j, j < k → clB F.letters (F.cs.getD j []) = true) ∧ Below w.heap.size w wr)
      case atStart => exact ⟨0, Nat.zero_le _, by omega, rfl, fun j hj => by omega, below_drewN (Below.refl _ _) _⟩
      case round =>
        obtain ⟨k, hk, hgk, rfl, hall, hwr⟩ := hrel
        have HL := Lib.hid hall
        have HW := Lib.hid hwr
        clear hall c0 c1
        by_cases hlt : k < F.cs.length
        · obtain ⟨c0, c1⟩ := HBX.out.keep hwr hgl
          have d0 : wr.cell? ⟨b, off + k, none⟩ = some (U k) := by rw [hwr.cell (p := ⟨b, off + k, none⟩) hbl]; exact (HC.out k hlt).1
          have HI := Lib.hid ((HC.out k hlt).2.below hwr (Nat.le_refl _))
          generalize U k = u at d0 HI
          have HD := Lib.hid d0
          have HC0 := Lib.hid c0
          have HC1 := Lib.hid c1
          have hgl2 : g < wr.heap.size := cell_block c0
          have hbl2 : b < wr.heap.size := cell_block d0
          clear hwr
          cases q : clB F.letters (F.cs.getD k []) with
          | false =>
            have HQ := Lib.hid q
            clear q
            go_wp2_with fail
            go_region_held3 (fun w' => w'.cell? ⟨g, 1, none⟩ = some (.int .i64 F.letters) ∧ w'.cell? ⟨g, 2, none⟩ = some (.slice (some ⟨b, off, none⟩) F.cs.length (F.cs.length + cap)) ∧ w'.cell? ⟨b, off + k, none⟩ = some u) (first | exact ⟨c0, c1, d0⟩ | exact S2.out) (first
              | (go_at_call 116; refine (l05Clause_any F.letters u (F.cs.getD k []) _ (VL.drewN HI.out _) (OK.out.short k)).mono ?_; rintro e w3 ⟨rfl, b3⟩; have bz := (below_drewN (Below.refl wr.heap.size wr) 1).trans b3; have H3 := Lib.hid (HW.out.trans (bz.mono HW.out.size)); have S2 : Hid (_ ∧ _ ∧ _) := Lib.hid ⟨keep_cell HC0.out bz hgl2, keep_cell HC1.out bz hgl2, keep_cell HD.out bz hbl2⟩; clear b3 bz; rw [HQ.out]))
            all_goals
              go_wp2_with fail
              go_ret
              exact says (by rw [HN.out, allCl_no hlt HQ.out]) H3.out
          | true =>
            have HQ := Lib.hid q
            clear q
            go_wp2_with fail
            go_region_held3 (fun w' => w'.cell? ⟨g, 1, none⟩ = some (.int .i64 F.letters) ∧ w'.cell? ⟨g, 2, none⟩ = some (.slice (some ⟨b, off, none⟩) F.cs.length (F.cs.length + cap)) ∧ w'.cell? ⟨b, off + k, none⟩ = some u) (first | exact ⟨c0, c1, d0⟩ | exact S2.out) (first
              | (go_at_call 116; refine (l05Clause_any F.letters u (F.cs.getD k []) _ (VL.drewN HI.out _) (OK.out.short k)).mono ?_; rintro e w3 ⟨rfl, b3⟩; have bz := (below_drewN (Below.refl wr.heap.size wr) 1).trans b3; have H3 := Lib.hid (HW.out.trans (bz.mono HW.out.size)); have S2 : Hid (_ ∧ _ ∧ _) := Lib.hid ⟨keep_cell HC0.out bz hgl2, keep_cell HC1.out bz hgl2, keep_cell HD.out bz hbl2⟩; clear b3 bz; rw [HQ.out]))
            all_goals
              go_wp2_with fail
              go_roundg (gk - 1)
              case measure => omega
              case rel => exact ⟨k + 1, by omega, by omega, by go_num, fun j hj => by
                by_cases e : j = k
                · subst e; exact HQ.out
                · exact HL.out j (by omega), H3.out⟩
        · have HE : Hid (true = formB F) := Lib.hid (by rw [HN.out, allCl_yes fun j hj => HL.out j (by omega)])
          clear hwr
          go_wp2_with fail
          go_ret
          exact says HE.out HW.out
    · have HN := Lib.hid (formB_2 h2)
      have h2i : (48 : Int) < (F.cs.length : Int) := by omega
      obtain ⟨ao, cap, rfl⟩ := hs.long
      obtain ⟨c0, c1⟩ := hb
      clear h1 hg hs
      go_enter Try.func115, Try.ntmps115
      go_wp2_with fail
      go_at_call 133; refine (l05Letters_is F.letters true _ H1.out).mono ?_; rintro e w' ⟨rfl, m, rfl⟩
      go_wp2_with fail
      go_ret
      exact says HN.out.symm (below_drewN (Below.refl _ _) _)
end Go.Proofs.Ytmkbjkjgemipcaa
