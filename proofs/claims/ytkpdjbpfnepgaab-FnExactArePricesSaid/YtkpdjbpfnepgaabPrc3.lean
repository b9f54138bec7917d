/- Prices of rows: the model's side. -/
import Derived.Test.YtkpdjbpfnepgaabPrc2
import Derived.Deep.RegionHeld3
import Derived.Deep.RegionLawGrows
import Derived.Deep.AppendLies
namespace Go.Proofs.Ytkpdjbpfnepgaab
open Go.RowKit Go.ChangeShapes Go.WideShapes
attribute [local go_sem] run_negF run_sub run_add run_mul

theorem l02Priced_is (t : Bool) (g : Nat) (s1 s2 s3 : Value) (R : Rw) (u : Value) (Y : List Nat) (w : World) (h : RP w g s1 s2 s3 R) (hu : SL w u Y) (hn : R.size ≤ 1048576) (hx : Y.length ≤ 1048576) (ht : pricedB R Y = t) :
    Calls Try.prog 66 #[.pointer (some ⟨g, 0, none⟩), u] w (Tells t w) := l02Priced_any g s1 s2 s3 R u Y w h hu hn hx t ht
set_option maxHeartbeats 16000000 in
theorem specArePrices_yes (v : Value) (R : Rw) (u : Value) (Y : List Nat) (a : Nat) (w : World) (hv : RV w v R) (hu : SL w u Y) (oR : OKR R) (oY : OKF Y) (h1 : pricedB R Y = true) (h2 : leastB a = true) :
    Calls Try.prog 22 #[v, u, .float .f32 a] w (Says (arePrB R Y a) w) := by
  have hx := oY.size
  have hn := oR.size
  have HU := Lib.hid hu
  have HB := Lib.hid (below_alloc w)
  obtain ⟨s1, s2, s3, rfl, g1, g2, g3⟩ := hv
  have H1 := Lib.hid h1
  have H2 := Lib.hid h2
  obtain ⟨hR, hyl, hyf⟩ := pricedB_ok h1
  have HR := Lib.hid hR
  have HYL := Lib.hid hyl
  have HYF := Lib.hid hyf
  have hfa : fin32 a = true := by unfold leastB at h2; rw [Bool.and_eq_true] at h2; exact h2.1
  have HFA := Lib.hid hfa
  have HNA := Lib.hid (fin_neg hfa)
  have v1 := hR.v1
  have v2 := hR.v2
  have b1 := hR.b1
  have b2 := hR.b2
  have n64 := hR.n64
  have hvn := hR.v
  have HVN := Lib.hid hvn
  have hgl : R.G.length = R.vars.toNat := by have := hR.g; omega
  have HGL := Lib.hid hgl
  have HFG : Hid (∀ c, c < R.G.length → fin32 (R.G.getD c 0) = true) := Lib.hid (fun c hc => by rw [getD_at hc]; exact List.all_eq_true.1 hR.fg _ (List.getElem_mem hc))
  have HROW : Hid (∀ i, i < R.B.length → i * R.vars.toNat + R.vars.toNat ≤ R.N.length) := Lib.hid (fun i hi => hR.row hi)
  have hn0 : 0 < R.N.length := by have := hR.row (i := 0) (by omega); omega
  have HP := Lib.hid (RP.box w g1 g2 g3)
  rcases g1 with ⟨hz, -⟩ | ⟨nb, noff, ncap, rfl, npos, nbl, ncell⟩
  · exfalso; rw [hz] at hn0; simp at hn0
  rcases g3 with ⟨hz, -⟩ | ⟨gb, goff, gcap, rfl, gpos, gbl, gcell⟩
  · exfalso; rw [hz] at hgl; simp at hgl; omega
  rcases hu with ⟨rfl, -⟩ | ⟨yb, yoff, ycap, rfl, ypos, ybl, ycell⟩
  · exfalso; simp at hyl; omega
  obtain ⟨W, hW⟩ : ∃ W, W = w.alloc (.cells #[.int .i64 R.vars, .slice (some ⟨nb, noff, none⟩) R.N.length (R.N.length + ncap), s2, .slice (some ⟨gb, goff, none⟩) R.G.length (R.G.length + gcap)] 28) := ⟨_, rfl⟩
  have HW := Lib.hid hW
  have HBW : Hid (Below w.heap.size w W) := Lib.hid (by rw [hW]; exact HB.out _)
  have HPW : Hid (RP W w.heap.size (.slice (some ⟨nb, noff, none⟩) R.N.length (R.N.length + ncap)) s2 (.slice (some ⟨gb, goff, none⟩) R.G.length (R.G.length + gcap)) R) := Lib.hid (by rw [hW]; exact HP.out)
  have HYC : Hid (∀ i, i < Y.length → W.cell? ⟨yb, yoff + i, none⟩ = some (.float .f32 (Y.getD i 0))) := Lib.hid (fun i hi => by rw [HBW.out.cell (p := ⟨yb, yoff + i, none⟩) ybl]; exact ycell i hi)
  have HNC : Hid (∀ i, i < R.N.length → W.cell? ⟨nb, noff + i, none⟩ = some (.float .f32 (R.N.getD i 0))) := Lib.hid (fun i hi => by rw [HBW.out.cell (p := ⟨nb, noff + i, none⟩) nbl]; exact ncell i hi)
  have HGC : Hid (∀ i, i < R.G.length → W.cell? ⟨gb, goff + i, none⟩ = some (.float .f32 (R.G.getD i 0))) := Lib.hid (fun i hi => by rw [HBW.out.cell (p := ⟨gb, goff + i, none⟩) gbl]; exact gcell i hi)
  have hy8 : Y.length ≤ 8 := by omega
  clear g2 h1 h2 hR hyl hyf hfa hgl ncell gcell ycell hW hvn
  go_enter Try.func22, Try.ntmps22
  go_wp2_with fail
  go_at_call 66; refine (l02Priced_is true _ _ s2 _ R _ Y _ HP.out (HU.out.below (HB.out _) (Nat.le_refl _)) hn hx H1.out).mono ?_; rintro e w1 ⟨rfl, n1, rfl⟩
  go_wp2_with fail
  go_at_call 56; refine (l02Lst_is true _ _ H2.out).mono ?_; rintro e w2 ⟨rfl, n2, rfl⟩
  go_wp2_with fail
  go_loopg [7] Y.length (fun gk i wr => ∃ k : Nat, k ≤ Y.length ∧ gk + k = Y.length ∧ i = .int .i64 k ∧ (∀ j, j < k → geB (Y.getD j 0) (negF a) = true) ∧ ∃ n, wr = W.drewN n)
  case atStart => exact ⟨0, Nat.zero_le _, by omega, rfl, fun j hj => by omega, _, by rw [HW.out]⟩
  case round =>
    obtain ⟨k, hk, hgk, rfl, hall, hwr⟩ := hrel
    have HA := Lib.hid hall
    have HQ := Lib.hid hwr
    clear hall
    by_cases hlt : k < Y.length
    · have hc1 : wr.cell? ⟨yb, yoff + k, none⟩ = some (.float .f32 (Y.getD k 0)) := by obtain ⟨n, rfl⟩ := hwr; exact HYC.out k hlt
      clear hwr
      cases hf : geB (Y.getD k 0) (negF a) with
      | true =>
        have HF := Lib.hid hf
        unfold geB at hf
        generalize Y.getD k 0 = y at hc1 hf
        go_wp2_with fail
        go_roundg (gk - 1)
        case measure => omega
        case rel => exact ⟨k + 1, by omega, by omega, by go_num, fun j hj => by
          by_cases e : j = k
          · subst e; exact HF.out
          · exact HA.out j (by omega), HQ.out⟩
      | false =>
        have HF : Hid (arePrB R Y a = false) := Lib.hid (arePr_no3 (ge_no HYF.out HNA.out hlt hf))
        unfold geB at hf
        generalize Y.getD k 0 = y at hc1 hf
        go_wp2_with fail
        go_ret
        exact Says.of HBW.out HQ.out HF.out.symm
    · obtain rfl : k = Y.length := by omega
      have HNL := Lib.hid (ge_yes HYF.out HNA.out HA.out)
      clear HA hwr
      go_wp2_with fail
      obtain ⟨wo, rfl⟩ : ∃ wo : World, wo = wr := ⟨_, rfl⟩
      obtain ⟨go, rfl⟩ : ∃ x : Nat, x = gk := ⟨_, rfl⟩
      clear hgk hk
      go_loopg [8] R.vars.toNat (fun gk i wr => ∃ k : Nat, k ≤ R.vars.toNat ∧ gk + k = R.vars.toNat ∧ i = .int .i64 k ∧ (∀ j, j < k → colB R Y a j = true) ∧ ∃ n, wr = W.drewN n)
      case atStart => exact ⟨0, Nat.zero_le _, by omega, rfl, fun j hj => by omega, HQ.out⟩
      case round =>
        clear HQ
        obtain ⟨k, hk, hgk, rfl, hall, hwr⟩ := hrel
        have HA := Lib.hid hall
        have HQ := Lib.hid hwr
        have d0 : wr.cell? ⟨w.heap.size, 0, none⟩ = some (.int .i64 R.vars) := by obtain ⟨n, rfl⟩ := hwr; exact HPW.out.c0
        clear hall hwr
        by_cases hlt : k < R.vars.toNat
        · have hlt2 : (k : Int) < R.vars := by omega
          go_wp2_with fail
          obtain ⟨w2, rfl⟩ : ∃ wo : World, wo = wr := ⟨_, rfl⟩
          obtain ⟨g2, rfl⟩ : ∃ x : Nat, x = gk := ⟨_, rfl⟩
          clear d0
          go_loopg [9, 10] Y.length (fun gm s i wr => ∃ j : Nat, j ≤ Y.length ∧ gm + j = Y.length ∧ i = .int .i64 j ∧ DotAt (colL R k) Y j s ∧ ∃ n, wr = W.drewN n)
          case atStart => exact ⟨0, Nat.zero_le _, by omega, rfl, ⟨0, rfl, cls_zero⟩, HQ.out⟩
          case round =>
            clear HQ
            obtain ⟨j, hj, hgj, rfl, ⟨r, rfl, hr⟩, hwr⟩ := hrel
            have HRR := Lib.hid hr
            have HQ := Lib.hid hwr
            have HQM := Lib.hid (Quiet.more hwr)
            have d0 : wr.cell? ⟨w.heap.size, 0, none⟩ = some (.int .i64 R.vars) := by obtain ⟨n, rfl⟩ := hwr; exact HPW.out.c0
            have d1 : wr.cell? ⟨w.heap.size, 1, none⟩ = some (.slice (some ⟨nb, noff, none⟩) R.N.length (R.N.length + ncap)) := by obtain ⟨n, rfl⟩ := hwr; exact HPW.out.c1
            have d3 : wr.cell? ⟨w.heap.size, 3, none⟩ = some (.slice (some ⟨gb, goff, none⟩) R.G.length (R.G.length + gcap)) := by obtain ⟨n, rfl⟩ := hwr; exact HPW.out.c3
            clear hr
            by_cases hjl : j < Y.length
            · have hrow := HROW.out j (by have := HYL.out; omega)
              obtain ⟨m, hm⟩ : ∃ m : Nat, m = j * R.vars.toNat := ⟨_, rfl⟩
              obtain ⟨p, hp⟩ : ∃ p : Nat, p = m + k := ⟨_, rfl⟩
              rw [← hm] at hrow
              have z1 : wr.cell? ⟨nb, noff + p, none⟩ = some (.float .f32 (R.N.getD p 0)) := by obtain ⟨n, rfl⟩ := hwr; exact HNC.out p (by omega)
              have z2 : wr.cell? ⟨yb, yoff + j, none⟩ = some (.float .f32 (Y.getD j 0)) := by obtain ⟨n, rfl⟩ := hwr; exact HYC.out j hjl
              have hce : (colL R k).getD j 0 = R.N.getD p 0 := by rw [colL_at (by have := HYL.out; omega), hp, hm]
              have hst := Lib.hid (fun W1 W2 => by have := dot_step (Y := colL R k) (Z := Y) W1 W2 HRR.out; rw [hce] at this; exact this)
              have hw1 : IntKind.i64.wrap ((j : Int) * R.vars) = (m : Int) := by
                have e : (j : Int) * R.vars = (m : Int) := by rw [hm, Int.natCast_mul, HVN.out]
                rw [e]; exact IntWalk.i64_in _ (by omega)
              have hw2 : IntKind.i64.wrap ((m : Int) + (k : Int)) = (p : Int) := by
                have e : (m : Int) + (k : Int) = (p : Int) := by omega
                rw [e]; exact IntWalk.i64_in _ (by omega)
              have p0 : (0 : Int) ≤ (p : Int) := by omega
              have p1 : (p : Int) < (R.N.length : Int) := by omega
              generalize R.N.getD p 0 = x at z1 hst
              generalize Y.getD j 0 = y at z2 hst
              clear hce hwr hrow hm hp
              go_wp2_with fail
              go_region_law (fail)
              all_goals
                go_wp2_with fail
                go_roundg (gk - 1)
                case measure => omega
                case rel => exact ⟨j + 1, by omega, by omega, by go_num, hst.out _ _, HQM.out _⟩
            · obtain rfl : j = Y.length := by omega
              have y1 : wr.cell? ⟨gb, goff + k, none⟩ = some (.float .f32 (R.G.getD k 0)) := by obtain ⟨n, rfl⟩ := hwr; exact HGC.out k (by rw [HGL.out]; exact hlt)
              have hkg : (k : Int) < (R.G.length : Int) := by have := HGL.out; omega
              have hc' : Fl.cls .f32 r = colC R Y k := by rw [HRR.out, HYL.out]; rfl
              have HCB := Lib.hid (colB_of (a := a) hc')
              have hsub := sub_ares (HFG.out k (by rw [HGL.out]; exact hlt)) HFA.out
              have HCB2 : Hid (colB R Y a k = (fin32 r && geB r (subV (R.G.getD k 0) a))) := HCB
              generalize R.G.getD k 0 = g at y1 hsub HCB2
              clear hwr hc' HCB
              cases hf : fin32 r with
              | false =>
                have HF := Lib.hid hf
                have HN : Hid (colB R Y a k = false) := Lib.hid (by rw [HCB2.out, hf]; rfl)
                clear hf
                go_wp2_with fail
                go_at_call 59; refine (l01Fin_is false _ _ HF.out).mono ?_; rintro e w5 ⟨rfl, n5, rfl⟩
                go_wp2_with fail
                go_ret
                exact Says.of HBW.out (HQM.out _) (arePr_no4 hlt HN.out).symm
              | true =>
                have HF := Lib.hid hf
                cases hq : geB r (subV g a) with
                | false =>
                  have HN : Hid (colB R Y a k = false) := Lib.hid (by rw [HCB2.out, hf, hq]; rfl)
                  unfold geB at hq
                  generalize subV g a = d at hq hsub
                  clear hf HCB2
                  go_wp2_with fail
                  go_at_call 59; refine (l01Fin_is true _ _ HF.out).mono ?_; rintro e w5 ⟨rfl, n5, rfl⟩
                  go_wp2_with fail
                  go_ret
                  exact Says.of HBW.out (by first | exact HQM.out _ | (rw [World.drewN_drewN]; exact HQM.out _)) (arePr_no4 hlt HN.out).symm
                | true =>
                  have HN : Hid (colB R Y a k = true) := Lib.hid (by rw [HCB2.out, hf, hq]; rfl)
                  unfold geB at hq
                  generalize subV g a = d at hq hsub
                  clear hf HCB2
                  go_wp2_with fail
                  go_at_call 59; refine (l01Fin_is true _ _ HF.out).mono ?_; rintro e w5 ⟨rfl, n5, rfl⟩
                  go_wp2_with fail
                  go_roundg (g2 - 1)
                  case measure => omega
                  case rel => exact ⟨k + 1, by omega, by omega, by go_num, fun j hj => by
                    by_cases e : j = k
                    · subst e; exact HN.out
                    · exact HA.out j (by omega), by first | exact HQM.out _ | (rw [World.drewN_drewN]; exact HQM.out _)⟩
        · obtain rfl : k = R.vars.toNat := by omega
          have hge : decide (((R.vars.toNat : Nat) : Int) < R.vars) = false := by simp; omega
          go_wp2_with fail
          go_ret
          exact Says.of HBW.out HQ.out (arePr_yes H1.out H2.out HNL.out HA.out).symm
end Go.Proofs.Ytkpdjbpfnepgaab
