/- A plan rounded down: the model. -/
import Derived.Test.YtmkbjkjgemipcaaRpM
namespace Go.Proofs.Ytmkbjkjgemipcaa
open Go.RowKit Go.ChangeShapes Go.WideShapes

/-- A list of integers and a bool. -/
def SaysJB (Z : List Int) (b : Bool) (w : World) (e : Ending) (w' : World) : Prop := ∃ v, e = .returned (.tuple #[v, .bool b]) ∧ II w.heap.size w'.heap.size w' v Z ∧ Below w.heap.size w w'
theorem l02Is_isR (b : Bool) (g : Nat) (s1 s2 s3 : Value) (R : Rw) (w : World) (h : RP w g s1 s2 s3 R) (hn : R.size ≤ 1048576) (hb : okR R = b) :
    Calls Try.prog 78 #[.pointer (some ⟨g, 0, none⟩)] w (Tells b w) := by
  subst hb
  exact l02Is_any g s1 s2 s3 R w h hn
theorem II.no {w w' : World} (_h : w.heap.size ≤ w'.heap.size) : II w.heap.size w'.heap.size w' (.slice none 0 0) [] := ⟨Nat.le_refl _, Or.inl ⟨rfl, _, _, rfl⟩⟩
set_option maxRecDepth 100000 in
set_option maxHeartbeats 8000000 in
theorem specRoundedPlan_any (v : Value) (R : Rw) (u : Value) (X : List Nat) (w : World) (hv : RV w v R) (hu : SL w u X) (oR : OKR R) (oX : OKF X) :
    Calls Try.prog 37 #[v, u] w (SaysJB (roundL R X) (roundB R X) w) := by
  obtain ⟨i0, hi, hz0, hz1, hz2⟩ := info_parts Try.infoI
  have hn := oR.size
  have hx := oX.size
  have HB := Lib.hid (below_alloc w)
  obtain ⟨s1, s2, s3, rfl, g1, g2, g3⟩ := hv
  have HP : Hid (RP (w.alloc (.cells #[.int .i64 R.vars, s1, s2, s3] 51 (0, 0))) w.heap.size s1 s2 s3 R) := Lib.hid ⟨by go_simp, by go_simp, by go_simp, by go_simp, g1.below (HB.out _) (Nat.le_refl _), g2.below (HB.out _) (Nat.le_refl _), g3.below (HB.out _) (Nat.le_refl _)⟩
  have c0 := HP.out.c0
  have C0 := Lib.hid c0
  clear g1 g2 g3
  unfold roundL roundB
  cases h1 : okR R with
  | false =>
    have H1 := Lib.hid h1
    obtain ⟨ao, cap, rfl⟩ := hu.long
    clear h1 hu
    simp only [Bool.false_and, cond_false]
    go_enter Try.func37, Try.ntmps37
    go_wp2_with fail
    go_at_call 78; refine (l02Is_isR _ _ s1 s2 s3 R _ HP.out hn H1.out).mono ?_; rintro e w' ⟨rfl, n1, rfl⟩
    go_wp2_with fail
    refine bodyPost_ret (results_tmp2 rfl _ _ _) rfl ?_
    exact ⟨_, rfl, II.no (by simp), below_drewN (HB.out _) _⟩
  | true =>
    have H1 := Lib.hid h1
    have hk := (okR_iff R).1 h1
    have HR := Lib.hid (⟨hk.v1, hk.v2⟩ : 1 ≤ R.vars ∧ R.vars ≤ 8)
    clear h1 hk
    simp only [Bool.true_and]
    cases h2 : decide ((X.length : Int) = R.vars) with
    | false =>
      have t2 : ((X.length : Int) != R.vars) = true := by simpa using h2
      obtain ⟨ao, cap, rfl⟩ := hu.long
      clear h2 hu
      simp only [Bool.false_and, cond_false]
      go_enter Try.func37, Try.ntmps37
      go_wp2_with fail
      go_at_call 78; refine (l02Is_isR _ _ s1 s2 s3 R _ HP.out hn H1.out).mono ?_; rintro e w' ⟨rfl, n1, rfl⟩
      go_wp2_with fail
      refine bodyPost_ret (results_tmp2 rfl _ _ _) rfl ?_
      exact ⟨_, rfl, II.no (by simp), below_drewN (HB.out _) _⟩
    | true =>
      have t2 : ((X.length : Int) != R.vars) = false := by simpa using h2
      have HL : Hid (1 ≤ X.length) := Lib.hid (by have := of_decide_eq_true h2; have := HR.out; omega)
      clear h2
      simp only [Bool.true_and]
      have HU := Lib.hid (fun o => hu.below (HB.out o) (Nat.le_refl _))
      rcases hu with ⟨rfl, -⟩ | ⟨bb, off, cap, rfl, hpos, hbl, hcell⟩
      · exact absurd HL.out (by simp)
      have HC := Lib.hid hcell
      have NO : Hid (∀ k, k < X.length → rdB (X.getD k 0) = false → allRd X = false) := Lib.hid fun k hk h => all_false hk h
      have YES : Hid ((∀ k, k < X.length → rdB (X.getD k 0) = true) → allRd X = true) := Lib.hid fun h => all_true h
      generalize allRd X = A at NO YES
      clear hcell HU
      go_enter Try.func37, Try.ntmps37
      go_wp2_with fail
      go_at_call 78; refine (l02Is_isR _ _ s1 s2 s3 R _ HP.out hn H1.out).mono ?_; rintro e w' ⟨rfl, n1, rfl⟩
      have B1 := Lib.hid (below_drewN (HB.out (.cells #[.int .i64 R.vars, s1, s2, s3] 51 (0, 0))) n1)
      have HE := Lib.hid (Grows.empty (Value.int .i64) 2 w.heap.size ((w.alloc (.cells #[.int .i64 R.vars, s1, s2, s3] 51 (0, 0))).drewN n1) B1.out.size)
      have he : ((w.alloc (.cells #[.int .i64 R.vars, s1, s2, s3] 51 (0, 0))).drewN n1).heap.size = w.heap.size + 1 := by simp
      rw [he] at HE
      clear he
      go_wp2_with fail
      clear c0
      go_loopg [6, 20] X.length (fun gk v i wr => ∃ k : Nat, k ≤ X.length ∧ gk + k = X.length ∧ i = .int .i64 k ∧ Below w.heap.size w wr ∧ Grows (Value.int .i64) 2 w.heap.size v (rdT X k) wr ∧ (∀ j, j < k → rdB (X.getD j 0) = true))
      case atStart => exact ⟨0, Nat.zero_le _, by omega, rfl, B1.out.alloc B1.out.size _, HE.out, fun j hj => by omega⟩
      case round =>
        obtain ⟨k, hk, hgk, rfl, hB, hG, hall⟩ := hrel
        have HWB := Lib.hid hB
        have HG := Lib.hid hG
        have HALL := Lib.hid hall
        have HML := Lib.hid (rdT_len hk)
        clear hB hG hall
        by_cases hlt : k < X.length
        · have HUP := Lib.hid (rdT_up hlt)
          have NOK := Lib.hid (NO.out k hlt)
          have NEXT : Hid (rdB (X.getD k 0) = true → ∀ j, j < k + 1 → rdB (X.getD j 0) = true) := Lib.hid fun h j hj => by
            by_cases e : j = k
            · subst e; exact h
            · exact HALL.out j (by omega)
          have y0 : wr.cell? ⟨bb, off + k, none⟩ = some (.float .f32 (X.getD k 0)) := by rw [HWB.out.cell (p := ⟨bb, off + k, none⟩) hbl]; exact HC.out k hlt
          have hsz := HWB.out.size
          generalize X.getD k 0 = x at y0 HUP NOK NEXT
          cases hg : geB x 0 with
          | false =>
            have HA : Hid (A = false) := Lib.hid (NOK.out (by unfold rdB; rw [hg]; rfl))
            unfold geB at hg
            obtain rfl := HA.out
            go_wp2_with fail
            refine bodyPost_ret (results_tmp2 rfl _ _ _) rfl ?_
            exact ⟨_, rfl, II.no (by first | exact HWB.out.size | (simp; exact HWB.out.size)), HWB.out⟩
          | true =>
            cases hl : leB32 x 1232348160 with
            | false =>
              have HA : Hid (A = false) := Lib.hid (NOK.out (by unfold rdB; rw [hg, hl]; rfl))
              unfold geB at hg
              unfold leB32 at hl
              obtain rfl := HA.out
              go_wp2_with fail
              refine bodyPost_ret (results_tmp2 rfl _ _ _) rfl ?_
              exact ⟨_, rfl, II.no (by first | exact HWB.out.size | (simp; exact HWB.out.size)), HWB.out⟩
            | true =>
              have HX : Hid (rdB x = true) := Lib.hid (by unfold rdB; rw [hg, hl]; rfl)
              unfold geB at hg
              unfold leB32 at hl
              have rc := fun W => conv_rd HX.out W
              go_wp2_with (at_builtin; refine wpList_append_own _ rfl _ _ 27 rfl w.heap.size 2 i0 (.int .i64 0) 1 8 Try.underlying27 hi hz0 hz1 hz2 rfl (by decide) _ _ _ rfl (Grows.alloc HG.out _) ⟨wr.heap.size, 0, none⟩ 1 1 [.int .i64 (truncF x)] rfl rfl one_new (by intro u hu; simp at hu; subst hu; rfl) (by rw [HML.out]; unfold maxLen; omega) (by rw [HML.out]; omega) (by simp; omega) ?_)
              intro v' w' hown hgrow _
              have HN2 : Hid (Below w.heap.size w w' ∧ Grows (Value.int .i64) 2 w.heap.size v' (rdT X (k + 1)) w') := Lib.hid ⟨(HWB.out.alloc HWB.out.size _).grown hgrow (by simp; omega) (fun g hg => HG.out.block g hg), by rw [HUP.out]; exact Grows.more (news := [truncF x]) rfl hown⟩
              have HNX := Lib.hid (NEXT.out HX.out)
              clear hown hgrow
              go_wp2_with fail
              go_roundg (gk - 1)
              case measure => omega
              case rel => exact ⟨k + 1, by omega, by omega, by go_num, HN2.out.1, HN2.out.2, HNX.out⟩
        · obtain rfl : k = X.length := by omega
          obtain rfl := YES.out HALL.out
          go_wp2_with fail
          refine bodyPost_ret (results_tmp2 rfl _ _ _) rfl ?_
          exact ⟨_, rfl, HG.out.si, HWB.out⟩
end Go.Proofs.Ytmkbjkjgemipcaa
