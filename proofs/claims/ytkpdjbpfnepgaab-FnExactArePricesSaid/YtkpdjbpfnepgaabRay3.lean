/- Rays: the model's side. -/
import Derived.Test.YtkpdjbpfnepgaabRay2
namespace Go.Proofs.Ytkpdjbpfnepgaab
open Go.RowKit Go.ChangeShapes Go.WideShapes
attribute [local go_sem] run_negF

theorem l01Fin_is (t : Bool) (x : Nat) (w : World) (h : fin32 x = t) : Calls Try.prog 59 #[.float .f32 x] w (Tells t w) := by
  subst h; exact l01Finite_any x w
theorem l02Lst_is (t : Bool) (x : Nat) (w : World) (h : leastB x = t) : Calls Try.prog 56 #[.float .f32 x] w (Tells t w) := by
  subst h; exact l02Least_any x w
theorem Quiet.more {w wr : World} (h : ∃ n, wr = w.drewN n) : ∀ m, ∃ n, wr.drewN m = w.drewN n := fun m => by obtain ⟨n, rfl⟩ := h; exact ⟨n + m, World.drewN_drewN _ _ _⟩
theorem Says.of {b c : Bool} {w w0 wr : World} (hb : Below w.heap.size w w0) (h : ∃ n, wr = w0.drewN n) (e : b = c) : Says c w (.returned (.bool b)) wr := by
  obtain ⟨n, rfl⟩ := h
  exact says e (below_drewN hb n)
theorem row_no {R : Rw} {X : List Nat} {a i r : Nat} (hi : i < R.B.length) (hc : Fl.cls .f32 r = useC R X i) (h : (fin32 r && leB r a) = false) : rayB R X a = false := by
  have e : rayRows R X a = false := by
    unfold rayRows
    rw [Bool.eq_false_iff]
    intro hh
    have := List.all_eq_true.1 hh i (List.mem_range.2 hi)
    unfold rayRow at this
    rw [leC_of hc, h] at this; cases this
  unfold rayB; rw [e]; simp
theorem row_yes {R : Rw} {X : List Nat} {a i r : Nat} (hc : Fl.cls .f32 r = useC R X i) (h : (fin32 r && leB r a) = true) : rayRow R X a i = true := by unfold rayRow; rw [leC_of hc, h]
theorem rows_yes {R : Rw} {X : List Nat} {a : Nat} (h : ∀ i, i < R.B.length → rayRow R X a i = true) : rayRows R X a = true := by
  unfold rayRows
  rw [List.all_eq_true]
  exact fun x hx => h x (List.mem_range.1 hx)
theorem ge_no {X : List Nat} {l k : Nat} (hX : finAll X = true) (hl : fin32 l = true) (hk : k < X.length) (h : geB (X.getD k 0) l = false) : noLess l X = false := by
  rw [← ge_all hX hl]; exact all_false hk h
theorem ge_yes {X : List Nat} {l : Nat} (hX : finAll X = true) (hl : fin32 l = true) (h : ∀ k, k < X.length → geB (X.getD k 0) l = true) : noLess l X = true := by
  rw [← ge_all hX hl]; exact all_true h
set_option maxHeartbeats 8000000 in
theorem specIsRay_yes (v : Value) (R : Rw) (u : Value) (X : List Nat) (a : Nat) (w : World) (hv : RV w v R) (hu : SL w u X) (oR : OKR R) (oX : OKF X) (h1 : fitB R X = true) (h2 : leastB a = true) :
    Calls Try.prog 16 #[v, u, .float .f32 a] w (Says (rayB R X a) w) := by
  have hx := oX.size
  have hn := oR.size
  have HU := Lib.hid hu
  have HB := Lib.hid (below_alloc w)
  obtain ⟨s1, s2, s3, rfl, g1, g2, g3⟩ := hv
  have HP := Lib.hid (RP.box w g1 g2 g3)
  obtain ⟨ab, cb, rfl⟩ := g2.long
  have H1 := Lib.hid h1
  have H2 := Lib.hid h2
  obtain ⟨hR, hXl, hXf⟩ := fitB_ok h1
  have HR := Lib.hid hR
  have HXL : Hid (X.length = R.vars.toNat) := Lib.hid (by have := hR.v1; omega)
  have HXF := Lib.hid hXf
  have hfa : fin32 a = true := by unfold leastB at h2; rw [Bool.and_eq_true] at h2; exact h2.1
  have HNA := Lib.hid (fin_neg hfa)
  have v1 := hR.v1
  have v2 := hR.v2
  have b1 := hR.b1
  have b2 := hR.b2
  have hgl : R.G.length = X.length := by have := hR.g; omega
  have HGL := Lib.hid hgl
  have hg8 : R.G.length ≤ 1048576 := by have := hR.g; omega
  have HRAY : Hid (rayB R X a = (noLess (negF a) X && (rayRows R X a && (finC (sumG R X) && gtC (sumG R X) a)))) := Lib.hid (by unfold rayB; rw [h1, h2]; rfl)
  obtain ⟨W, hW⟩ : ∃ W, W = w.alloc (.cells #[.int .i64 R.vars, s1, .slice ab R.B.length cb, s3] 28) := ⟨_, rfl⟩
  have HW := Lib.hid hW
  have HBW : Hid (Below w.heap.size w W) := Lib.hid (by rw [hW]; exact HB.out _)
  have HPW : Hid (RP W w.heap.size s1 (.slice ab R.B.length cb) s3 R) := Lib.hid (by rw [hW]; exact HP.out)
  have HUW : Hid (SL W u X) := Lib.hid (HU.out.below HBW.out (Nat.le_refl _))
  rcases hu with ⟨rfl, -⟩ | ⟨xb, xoff, xcap, rfl, xpos, xbl, xcell⟩
  · exfalso; simp at hXl; omega
  have HXC : Hid (∀ i, i < X.length → W.cell? ⟨xb, xoff + i, none⟩ = some (.float .f32 (X.getD i 0))) := Lib.hid (fun i hi => by rw [HBW.out.cell (p := ⟨xb, xoff + i, none⟩) xbl]; exact xcell i hi)
  clear g1 g2 g3 h1 h2 hR hXl hXf hfa hgl xcell hW
  go_enter Try.func16, Try.ntmps16
  go_wp2_with fail
  go_at_call 55; refine (l02Fit_is true _ s1 _ s3 R _ X _ HP.out (HU.out.below (HB.out _) (Nat.le_refl _)) hn hx H1.out).mono ?_; rintro e w1 ⟨rfl, n1, rfl⟩
  go_wp2_with fail
  go_at_call 56; refine (l02Lst_is true _ _ H2.out).mono ?_; rintro e w2 ⟨rfl, n2, rfl⟩
  go_wp2_with fail
  go_loopw [7] (fun i wr => ∃ k : Nat, k ≤ X.length ∧ i = .int .i64 k ∧ (∀ j, j < k → geB (X.getD j 0) (negF a) = true) ∧ ∃ n, wr = W.drewN n) (fun i _ => X.length - (intOf i).toNat)
  case atStart => exact ⟨0, Nat.zero_le _, rfl, fun j hj => by omega, _, by rw [HW.out]⟩
  case round =>
    obtain ⟨k, hk, rfl, hall, hwr⟩ := hrel
    have HA := Lib.hid hall
    have HQ := Lib.hid hwr
    clear hall
    by_cases hlt : k < X.length
    · have hc1 : wr.cell? ⟨xb, xoff + k, none⟩ = some (.float .f32 (X.getD k 0)) := by obtain ⟨n, rfl⟩ := hwr; exact HXC.out k hlt
      clear hwr
      cases hf : geB (X.getD k 0) (negF a) with
      | true =>
        have HF := Lib.hid hf
        unfold geB at hf
        generalize X.getD k 0 = y at hc1 hf
        go_wp2_with fail
        go_roundw
        case rel => exact ⟨k + 1, by omega, by go_num, fun j hj => by
          by_cases e : j = k
          · subst e; exact HF.out
          · exact HA.out j (by omega), HQ.out⟩
        case measure => simp [intOf]; omega
      | false =>
        have HF : Hid (rayB R X a = false) := Lib.hid (by rw [HRAY.out, ge_no HXF.out HNA.out hlt hf]; rfl)
        unfold geB at hf
        generalize X.getD k 0 = y at hc1 hf
        go_wp2_with fail
        go_ret
        exact Says.of HBW.out HQ.out HF.out.symm
    · obtain rfl : k = X.length := by omega
      have HNL := Lib.hid (ge_yes HXF.out HNA.out HA.out)
      clear HA
      have d2 : wr.cell? ⟨w.heap.size, 2, none⟩ = some (.slice ab R.B.length cb) := by obtain ⟨n, rfl⟩ := hwr; exact HPW.out.c2
      clear hwr
      go_wp2_with fail
      obtain ⟨wo, rfl⟩ : ∃ wo : World, wo = wr := ⟨_, rfl⟩
      clear d2
      go_loopw [8] (fun i wr => ∃ k : Nat, k ≤ R.B.length ∧ i = .int .i64 k ∧ (∀ j, j < k → rayRow R X a j = true) ∧ ∃ n, wr = W.drewN n) (fun i _ => R.B.length - (intOf i).toNat)
      case atStart => exact ⟨0, Nat.zero_le _, rfl, fun j hj => by omega, HQ.out⟩
      case round =>
        clear HQ
        obtain ⟨k, hk, rfl, hall, hwr⟩ := hrel
        have HA := Lib.hid hall
        have HQ := Lib.hid hwr
        have HQM := Lib.hid (Quiet.more hwr)
        have d2 : wr.cell? ⟨w.heap.size, 2, none⟩ = some (.slice ab R.B.length cb) := by obtain ⟨n, rfl⟩ := hwr; exact HPW.out.c2
        have d3 : wr.cell? ⟨w.heap.size, 3, none⟩ = some s3 := by obtain ⟨n, rfl⟩ := hwr; exact HPW.out.c3
        have HPR : Hid (RP wr w.heap.size s1 (.slice ab R.B.length cb) s3 R) := Lib.hid (by obtain ⟨n, rfl⟩ := hwr; exact HPW.out.drewN n)
        have HUR : Hid (SL wr (.slice (some ⟨xb, xoff, none⟩) X.length (X.length + xcap)) X) := Lib.hid (by obtain ⟨n, rfl⟩ := hwr; exact SL.dn HUW.out)
        clear hall hwr
        by_cases hlt : k < R.B.length
        · have HLL := Lib.hid (lineL_len (HR.out.row hlt))
          go_wp2_with fail
          go_at_call 58; refine (l02Row_any _ _ _ _ R k _ HPR.out HR.out hlt).mono ?_; rintro e w3 ⟨q, rfl, hq, n3, rfl⟩
          have HQL := Lib.hid hq
          clear hq
          go_wp2_with fail
          go_at_call 57; refine (l02Dot_any _ _ (lineL R.N R.vars.toNat k) X _ (SL.dn HQL.out) (SL.dn HUR.out) (by rw [HLL.out]; omega) (by rw [HLL.out, HXL.out])).mono ?_; rintro e w4 ⟨r, n4, rfl, rfl, hc⟩
          have HC : Hid (Fl.cls .f32 r = useC R X k) := Lib.hid (by rw [hc, HLL.out]; rfl)
          clear hc
          cases hf : fin32 r with
          | false =>
            have HF := Lib.hid hf
            have HN := Lib.hid (row_no (a := a) hlt HC.out (by rw [hf]; rfl))
            clear hf
            go_wp2_with fail
            go_at_call 59; refine (l01Fin_is false _ _ HF.out).mono ?_; rintro e w5 ⟨rfl, n5, rfl⟩
            go_wp2_with fail
            go_ret
            exact Says.of HBW.out (HQM.out _) HN.out.symm
          | true =>
            have HF := Lib.hid hf
            cases hq : leB r a with
            | false =>
              have HN := Lib.hid (row_no (a := a) hlt HC.out (by rw [hf, hq]; rfl))
              unfold leB at hq
              clear hf
              go_wp2_with fail
              go_at_call 59; refine (l01Fin_is true _ _ HF.out).mono ?_; rintro e w5 ⟨rfl, n5, rfl⟩
              go_wp2_with fail
              go_ret
              exact Says.of HBW.out (HQM.out _) HN.out.symm
            | true =>
              have HY := Lib.hid (row_yes (a := a) HC.out (by rw [hf, hq]; rfl))
              unfold leB at hq
              clear hf
              go_wp2_with fail
              go_at_call 59; refine (l01Fin_is true _ _ HF.out).mono ?_; rintro e w5 ⟨rfl, n5, rfl⟩
              go_wp2_with fail
              go_roundw
              case rel => exact ⟨k + 1, by omega, by go_num, fun j hj => by
                by_cases e : j = k
                · subst e; exact HY.out
                · exact HA.out j (by omega), HQM.out _⟩
              case measure => simp [intOf]; omega
        · obtain rfl : k = R.B.length := by omega
          have HRR := Lib.hid (rows_yes HA.out)
          go_wp2_with fail
          go_at_call 57; refine (l02Dot_any _ _ R.G X _ HPR.out.r3 HUR.out hg8 HGL.out).mono ?_; rintro e w4 ⟨r, n4, rfl, rfl, hc⟩
          have HR2 : Hid (rayB R X a = (fin32 r && gtB r a)) := Lib.hid (by rw [HRAY.out, HNL.out, HRR.out]; exact gtC_of (C := sumG R X) hc)
          clear hc
          cases hf : fin32 r with
          | false =>
            have HF := Lib.hid hf
            have HN : Hid (rayB R X a = false) := Lib.hid (by rw [HR2.out, hf]; rfl)
            clear hf
            go_wp2_with fail
            go_at_call 59; refine (l01Fin_is false _ _ HF.out).mono ?_; rintro e w5 ⟨rfl, n5, rfl⟩
            go_wp2_with fail
            go_ret
            exact Says.of HBW.out (HQM.out _) HN.out.symm
          | true =>
            have HF := Lib.hid hf
            have HN : Hid (gtB r a = rayB R X a) := Lib.hid (by rw [HR2.out, hf]; rfl)
            clear hf
            unfold gtB at HN
            go_wp2_with fail
            go_at_call 59; refine (l01Fin_is true _ _ HF.out).mono ?_; rintro e w5 ⟨rfl, n5, rfl⟩
            go_wp2_with fail
            go_ret
            exact Says.of HBW.out (HQM.out _) HN.out
theorem specIsRay_any (v : Value) (R : Rw) (u : Value) (X : List Nat) (a : Nat) (w : World) (hv : RV w v R) (hu : SL w u X) (oR : OKR R) (oX : OKF X) (_oa : a < 4294967296) :
    Calls Try.prog 16 #[v, u, .float .f32 a] w (Says (rayB R X a) w) := by
  cases h1 : fitB R X with
  | false =>
    have e : rayB R X a = false := by unfold rayB; rw [h1]; rfl
    rw [e]
    have hx := oX.size
    have hn := oR.size
    have HU := Lib.hid hu
    have HB := Lib.hid (below_alloc w)
    obtain ⟨s1, s2, s3, rfl, g1, g2, g3⟩ := hv
    have HP := Lib.hid (RP.box w g1 g2 g3)
    have H1 := Lib.hid h1
    clear g1 g2 g3 h1 e hu
    go_enter Try.func16, Try.ntmps16
    go_wp2_with fail
    go_at_call 55; refine (l02Fit_is false _ s1 _ s3 R _ X _ HP.out (HU.out.below (HB.out _) (Nat.le_refl _)) hn hx H1.out).mono ?_; rintro e w1 ⟨rfl, n1, rfl⟩
    go_wp2_with fail
    go_ret
    exact says rfl (below_drewN (HB.out _) _)
  | true =>
    cases h2 : leastB a with
    | true => exact specIsRay_yes v R u X a w hv hu oR oX h1 h2
    | false =>
      rw [ray_lst h2]
      have hx := oX.size
      have hn := oR.size
      have HU := Lib.hid hu
      have HB := Lib.hid (below_alloc w)
      obtain ⟨s1, s2, s3, rfl, g1, g2, g3⟩ := hv
      have HP := Lib.hid (RP.box w g1 g2 g3)
      have H1 := Lib.hid h1
      have H2 := Lib.hid h2
      clear g1 g2 g3 h1 h2 hu
      go_enter Try.func16, Try.ntmps16
      go_wp2_with fail
      go_at_call 55; refine (l02Fit_is true _ s1 _ s3 R _ X _ HP.out (HU.out.below (HB.out _) (Nat.le_refl _)) hn hx H1.out).mono ?_; rintro e w1 ⟨rfl, n1, rfl⟩
      go_wp2_with fail
      go_at_call 56; refine (l02Lst_is false _ _ H2.out).mono ?_; rintro e w2 ⟨rfl, n2, rfl⟩
      go_wp2_with fail
      go_ret
      exact says rfl (below_drewN (HB.out _) _)
end Go.Proofs.Ytkpdjbpfnepgaab
