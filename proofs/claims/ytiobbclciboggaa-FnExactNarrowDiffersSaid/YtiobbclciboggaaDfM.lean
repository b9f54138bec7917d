/- Choices of different numbers: the model's recursion. -/
import Derived.Test.YtiobbclciboggaaSnD
import Derived.Test.YtiobbclciboggaaNw0
import Derived.Test.YtiobbclciboggaaDm0
import Derived.Deep.LoopGhost
import Derived.Deep.QuietTactic
import Derived.BigQuiet
import Derived.Deep.RegionHeld3
import Derived.Deep.RegionLaw
namespace Go.Proofs.Ytiobbclciboggaa
open Go.RowKit Go.ChangeShapes Go.WideShapes

/-- What the recursion leaves. -/
def DDone (lo p B : Nat) (G : Nat → Nat) (Ds : List (List Int)) (M : Nat → Nat → Bool) (X : List (List Int)) (F : List Int) (w : World) (e : Ending) (w' : World) : Prop :=
  ∃ fv, e = .returned (.int .i64 (cntW X)) ∧ Turned lo (p + 1) w w' ∧ Fst p fv (hdo X F) w' ∧ Seen lo p B G Ds (seenX Ds M X) w'
theorem Fst.set {p : Nat} {fv : Value} {F : List Int} {w : World} (h : Fst p fv F w) {g k : Nat} (hg : g < p) (u : Value) : Fst p fv F (w.setCell ⟨g, k, none⟩ u) := by
  have hs : (w.setCell ⟨g, k, none⟩ u).heap.size = w.heap.size := by simp [World.setCell]
  refine ⟨?_, by rw [World.frozen?_setCell]; exact h.free, by rw [hs]; exact SI.set h.il (Or.inl (by show g < p + 1; omega)) _⟩
  rw [World.cell?_setCell_other _ _ _ _ (by intro q; injection q with q _ _; omega)]; exact h.cell
/-- What is read while marks are made. -/
structure MkAt (w0 : World) (lo p B : Nat) (G : Nat → Nat) (Ds : List (List Int)) (M : Nat → Nat → Bool) (fv : Value) (F : List Int) (w wr : World) : Prop where
  turned : Turned lo (p + 1) w wr
  fst : Fst p fv F wr
  seen : Seen lo p B G Ds M wr
theorem MkAt.drew {w0 : World} {lo p B : Nat} {G : Nat → Nat} {Ds : List (List Int)} {M : Nat → Nat → Bool} {fv : Value} {F : List Int} {w wr : World} (h : MkAt w0 lo p B G Ds M fv F w wr) (n : Nat) : MkAt w0 lo p B G Ds M fv F w (wr.drewN n) :=
  ⟨h.turned.drewN n, h.fst.below (below_drewN (Below.refl _ _) _), h.seen.below (below_drewN (Below.refl _ _) _)⟩
theorem MkAt.mark {w0 : World} {lo p B : Nat} {G : Nat → Nat} {Ds : List (List Int)} {M : Nat → Nat → Bool} {fv : Value} {F : List Int} {w wr : World} (h : MkAt w0 lo p B G Ds M fv F w wr) {i k : Nat} (hi : i < Ds.length) (hk : k < (Ds.getD i []).length) :
    MkAt w0 lo p B G Ds (fun a b => M a b || (decide (a = i) && decide (b = k))) fv F w (wr.setCell ⟨G i, k, none⟩ (.bool true)) :=
  ⟨h.turned.setCell (h.seen.g1 i hi) (by have := h.seen.g2 i hi; show G i < p + 1; omega) _, h.fst.set (h.seen.g2 i hi) _, h.seen.set hi hk⟩
theorem il_at {W : World} {b o n c : Nat} {Z : List Int} (h : IL W (.slice (some ⟨b, o, none⟩) n c) Z) {k : Nat} (hk : k < Z.length) : W.cell? ⟨b, o + k, none⟩ = some (.int .i64 (Z.getD k 0)) := by
  rcases h with ⟨hz, -⟩ | ⟨b', o', c', e, -, -, hc⟩
  · rw [hz] at hk; simp at hk
  · injection e with e1 e2 e3
    injection e1 with e1
    injection e1 with e1 e2 _
    subst e1 e2
    exact hc k hk
set_option maxRecDepth 100000 in
set_option maxHeartbeats 8000000 in
theorem differM_end (w0 : World) (lo p B sc : Nat) (G : Nat → Nat) (Ds : List (List Int)) (dv : Value) (M : Nat → Nat → Bool) (P : List Int) (ad : Addr) (cap : Nat) (F : List Int) (fv : Value) (w : World)
    (ok : DomsOk Ds) (hdv : LV w0 dv Ds) (hlo : w0.heap.size ≤ lo) (hb0 : Below lo w0 w) (hlw : lo ≤ w.heap.size) (hP : P.length = Ds.length)
    (hv : II (p + 1) w.heap.size w (.slice (some ad) P.length cap) P) (hF : Fst p fv F w) (hS : Seen lo p B G Ds M w) :
    Calls Try.prog 105 #[dv, .slice (some ad) P.length cap, .pointer (some ⟨p, 0, none⟩), .slice (some ⟨B, 0, none⟩) Ds.length sc] w (DDone lo p B G Ds M [P] F w) := by
  obtain ⟨i0, hi, hz0, hz1, hz2⟩ := info_parts Try.infoI
  have HOK := Lib.hid ok
  have hn1 := ok.l1
  have hn6 := ok.l2
  have HLO := Lib.hid hlw
  have HB0 := Lib.hid hb0
  have HPL := Lib.hid hP
  rcases hdv with ⟨hz, -⟩ | ⟨b, off, dcap, U, rfl, hpos, hbl, hcell⟩
  · rw [hz] at hn1; simp at hn1
  have HDW : Hid (∀ W, Below lo w0 W → ∀ i, i < Ds.length → W.cell? ⟨b, off + i, none⟩ = some (U i) ∧ IL W (U i) (Ds.getD i [])) := Lib.hid fun W hb i hi =>
    ⟨by rw [hb.cell (p := ⟨b, off + i, none⟩) (by show b < lo; omega)]; exact (hcell i hi).1, (hcell i hi).2.below hb hlo⟩
  have HV := Lib.hid hv
  obtain ⟨-, ⟨hz, -⟩ | ⟨vb, vo, vcap, hve, hvp, hvlo, hvb, -, hvc⟩⟩ := hv
  · rw [hz] at hP; simp at hP; omega
  injection hve with e1 e2 e3
  injection e1 with e1
  clear e2 e3
  subst e1
  have HVC : Hid (∀ W, Turned lo (p + 1) w W → ∀ i, i < P.length → W.cell? ⟨vb, vo + i, none⟩ = some (.int .i64 (P.getD i 0))) := Lib.hid fun W ht i hi => keep_cell' (hvc i hi) ht (Or.inr hvlo)
  obtain ⟨fa, fc, rfl⟩ := SI.len hF.il
  have HFF := Lib.hid hF
  have c0 := hF.cell
  have c1 := hF.free
  have HL := Lib.hid (lies_ii HV.out (Below.refl _ _))
  have hpl : P.length ≤ 6 := by omega
  have HC : Hid (cntW [P] = 1) := Lib.hid (by unfold cntW wrap64; simp)
  have HSN := Lib.hid hS
  have HLP : Hid (lo ≤ p) := Lib.hid (Nat.le_trans hS.b1 (Nat.le_of_lt hS.b2))
  have hdl : ((P.length : Int) == (Ds.length : Int)) = true := by simp; omega
  have hdl2 : (P.length : Int) = (Ds.length : Int) := by omega
  clear hcell hvc hF hS hP ok hlo hb0 hbl hdl2
  rw [← HPL.out] at hdl ⊢
  by_cases h0 : F.length = 0
  · have hF0 : F = [] := List.eq_nil_of_length_eq_zero h0
    subst hF0
    rw [List.length_nil] at c0 HFF
    clear h0
    have HFE : Hid (P = hdo [P] []) := Lib.hid rfl
    go_enter Try.func105, Try.ntmps105
    go_wp2_with (at_builtin; (refine wpList_append_own _ rfl _ _ 24 rfl w.heap.size 2 i0 (.int .i64 0) 1 8 Try.underlying24 hi hz0 hz1 hz2 rfl (by decide) _ _ _ rfl (Grows.empty (Value.int .i64) _ _ w (Nat.le_refl _)) ⟨vb, vo, none⟩ P.length cap (P.map (Value.int .i64)) rfl (by simp) (HL.out _) (map_oneI P) (by simp; unfold maxLen; omega) (by simp; omega) (by simp) ?_; intro v' w' hown hgrow _; have HB := Lib.hid ((below_alloc w _).grown hgrow (by simp) (fun k hk => Nat.le_of_eq (Option.some.inj hk))); have HN : Hid (Grows (Value.int .i64) 2 w.heap.size v' P w') := Lib.hid (by have h := hown; show World.ownsRow _ _ _ _ _ _ _; simpa using h); have HF2 := Lib.hid (HFF.out.below HB.out); have d0 := HF2.out.cell; have d1 := HF2.out.free; clear hown hgrow; obtain ⟨va, vc, rfl⟩ := SI.len (d := (0 : Int)) HN.out.si; have MK0 : Hid (MkAt w0 lo p B G Ds (mkD Ds P M 0 0) (.slice va P.length vc) P w (w'.setCell ⟨p, 0, none⟩ (.slice va P.length vc))) := Lib.hid ⟨(Turned.of_below HB.out (Nat.le_refl _)).setCell (p := ⟨p, 0, none⟩) HLP.out (Nat.lt_succ_self _) _, HF2.out.put (SI.wide HN.out.si (cell_block HFF.out.cell) (Nat.le_refl _) (Nat.le_refl _)), by rw [mkD_zero]; exact (HSN.out.below HB.out).put _⟩))
    go_loopg [33] P.length (fun gk i wr => ∃ a : Nat, a ≤ P.length ∧ gk + a = P.length ∧ i = .int .i64 a ∧ MkAt w0 lo p B G Ds (mkD Ds P M a 0) (.slice va P.length vc) P w wr)
    case atStart => exact ⟨0, Nat.zero_le _, by omega, by simp, MK0.out⟩
    case round =>
      obtain ⟨a, ha, hga, rfl, hM⟩ := hrel
      obtain ⟨wo, rfl⟩ : ∃ x : World, x = wr := ⟨_, rfl⟩
      obtain ⟨g2, rfl⟩ : ∃ x : Nat, x = gk := ⟨_, rfl⟩
      have HM := Lib.hid hM
      clear hM
      by_cases hal : a < P.length
      · obtain ⟨cu, iu⟩ := HDW.out _ (HB0.out.trans (HM.out.turned.below HLO.out)) a (HPL.out ▸ hal)
        obtain ⟨E, hE⟩ : ∃ E, E = Ds.getD a [] := ⟨_, rfl⟩
        have HE := Lib.hid hE
        have hEl : E.length ≤ 8 := by rw [hE]; exact (HOK.out.d a (HPL.out ▸ hal)).l2
        have hEp : 1 ≤ E.length := by rw [hE]; exact (HOK.out.d a (HPL.out ▸ hal)).l1
        rw [← hE] at iu
        clear hE
        rcases iu with ⟨hz, -⟩ | ⟨ub, uo, uc, hue, hep, hub, hucell⟩
        · rw [hz] at hEp; simp at hEp
        rw [hue] at cu
        have HUA := Lib.hid hue
        clear hue hep hub hucell
        go_wp2_with fail
        clear cu
        go_loopg [41] E.length (fun gk i wr => ∃ q : Nat, q ≤ E.length ∧ gk + q = E.length ∧ i = .int .i64 q ∧ MkAt w0 lo p B G Ds (mkD Ds P M a q) (.slice va P.length vc) P w wr)
        case atStart => exact ⟨0, Nat.zero_le _, by omega, by simp, HM.out⟩
        case round =>
          obtain ⟨q, hq, hgq, rfl, hM2⟩ := hrel
          have HM2 := Lib.hid hM2
          clear hM2
          by_cases hql : q < E.length
          · obtain ⟨cu, iu⟩ := HDW.out _ (HB0.out.trans (HM2.out.turned.below HLO.out)) a (HPL.out ▸ hal)
            rw [← HE.out, HUA.out] at iu
            rw [HUA.out] at cu
            have c2 := il_at iu hql
            have c3 := HVC.out _ HM2.out.turned a hal
            have s1 := HM2.out.seen.row a (HPL.out ▸ hal)
            have s2 := HM2.out.seen.cell a (HPL.out ▸ hal) q (HE.out ▸ hql)
            have s3 := HM2.out.seen.free a (HPL.out ▸ hal) q
            rw [← HE.out] at s1
            have hgx : G a < wr.heap.size := HM2.out.seen.glt a (HPL.out ▸ hal)
            obtain ⟨x, hx⟩ : ∃ x, x = E.getD q 0 := ⟨_, rfl⟩
            obtain ⟨y, hy⟩ : ∃ y, y = P.getD a 0 := ⟨_, rfl⟩
            obtain ⟨s, hs⟩ : ∃ s, s = mkD Ds P M a q a q := ⟨_, rfl⟩
            rw [← hx] at c2
            rw [← hy] at c3
            rw [← hs] at s2
            have HXY : Hid ((atD Ds a q = P.getD a 0) = (x = y)) := Lib.hid (by unfold atD; rw [← HE.out, hx, hy])
            have hald : (a : Int) < (Ds.length : Int) := by have := HPL.out; omega
            clear iu hx hy hs
            by_cases hxy : x = y
            · have HN : Hid (∀ m, MkAt w0 lo p B G Ds (mkD Ds P M a (q + 1)) (.slice va P.length vc) P w ((wr.drewN m).setCell ⟨G a, q, none⟩ (.bool true))) := Lib.hid fun m => by
                have h := (HM2.out.drew m).mark (HPL.out ▸ hal) (HE.out ▸ hql)
                rw [mkD_yes (by rw [HXY.out]; exact hxy)] at h
                exact h
              have t1 : (x == y) = true := by simpa using hxy
              clear hxy
              go_wp2_with fail
              go_quiet (fail)
              go_wp2_with fail
              go_roundg (gk - 1)
              case measure => omega
              case rel => exact ⟨q + 1, by omega, by omega, by go_num, HN.out _⟩
            · have HN : Hid (MkAt w0 lo p B G Ds (mkD Ds P M a (q + 1)) (.slice va P.length vc) P w wr) := Lib.hid (by
                rw [← mkD_no (by rw [HXY.out]; exact hxy)]; exact HM2.out)
              have t1 : (x == y) = false := by simpa using hxy
              clear hxy
              go_wp2_with fail
              go_quiet (fail)
              go_wp2_with fail
              go_roundg (gk - 1)
              case measure => omega
              case rel => exact ⟨q + 1, by omega, by omega, by go_num, HN.out.drew _⟩
          · obtain rfl : q = E.length := by omega
            have HN : Hid (MkAt w0 lo p B G Ds (mkD Ds P M (a + 1) 0) (.slice va P.length vc) P w wr) := Lib.hid ⟨HM2.out.turned, HM2.out.fst, HM2.out.seen.congr (by rw [HE.out]; exact mkD_row)⟩
            go_wp2_with fail
            go_roundg (g2 - 1)
            case measure => omega
            case rel => exact ⟨a + 1, by omega, by omega, by go_num, HN.out⟩
      · obtain rfl : a = P.length := by omega
        have HN : Hid (Seen lo p B G Ds (seenX Ds M [P]) wo) := Lib.hid (HM.out.seen.congr (by rw [HPL.out]; exact mkD_end))
        go_wp2_with fail
        go_ret
        exact ⟨(.slice va P.length vc), ret_int HC.out.symm, HM.out.turned, HFE.out ▸ HM.out.fst, HN.out⟩
  · have HFE : Hid (F = hdo [P] F) := Lib.hid (by rw [hdo_one, if_neg]; intro e; subst e; exact h0 rfl)
    have hfl : ((F.length : Int) == 0) = false := by simpa using h0
    have hfl2 : ¬ (F.length : Int) = 0 := by omega
    have MK0 : Hid (MkAt w0 lo p B G Ds (mkD Ds P M 0 0) (.slice fa F.length fc) F w w) := Lib.hid ⟨Turned.refl _ _ _, HFF.out, by rw [mkD_zero]; exact HSN.out⟩
    clear h0
    go_enter Try.func105, Try.ntmps105
    go_wp2_with fail
    go_loopg [33] P.length (fun gk i wr => ∃ a : Nat, a ≤ P.length ∧ gk + a = P.length ∧ i = .int .i64 a ∧ MkAt w0 lo p B G Ds (mkD Ds P M a 0) (.slice fa F.length fc) F w wr)
    case atStart => exact ⟨0, Nat.zero_le _, by omega, by simp, MK0.out⟩
    case round =>
      obtain ⟨a, ha, hga, rfl, hM⟩ := hrel
      obtain ⟨wo, rfl⟩ : ∃ x : World, x = wr := ⟨_, rfl⟩
      obtain ⟨g2, rfl⟩ : ∃ x : Nat, x = gk := ⟨_, rfl⟩
      have HM := Lib.hid hM
      clear hM
      by_cases hal : a < P.length
      · obtain ⟨cu, iu⟩ := HDW.out _ (HB0.out.trans (HM.out.turned.below HLO.out)) a (HPL.out ▸ hal)
        obtain ⟨E, hE⟩ : ∃ E, E = Ds.getD a [] := ⟨_, rfl⟩
        have HE := Lib.hid hE
        have hEl : E.length ≤ 8 := by rw [hE]; exact (HOK.out.d a (HPL.out ▸ hal)).l2
        have hEp : 1 ≤ E.length := by rw [hE]; exact (HOK.out.d a (HPL.out ▸ hal)).l1
        rw [← hE] at iu
        clear hE
        rcases iu with ⟨hz, -⟩ | ⟨ub, uo, uc, hue, hep, hub, hucell⟩
        · rw [hz] at hEp; simp at hEp
        rw [hue] at cu
        have HUA := Lib.hid hue
        clear hue hep hub hucell
        go_wp2_with fail
        clear cu
        go_loopg [41] E.length (fun gk i wr => ∃ q : Nat, q ≤ E.length ∧ gk + q = E.length ∧ i = .int .i64 q ∧ MkAt w0 lo p B G Ds (mkD Ds P M a q) (.slice fa F.length fc) F w wr)
        case atStart => exact ⟨0, Nat.zero_le _, by omega, by simp, HM.out⟩
        case round =>
          obtain ⟨q, hq, hgq, rfl, hM2⟩ := hrel
          have HM2 := Lib.hid hM2
          clear hM2
          by_cases hql : q < E.length
          · obtain ⟨cu, iu⟩ := HDW.out _ (HB0.out.trans (HM2.out.turned.below HLO.out)) a (HPL.out ▸ hal)
            rw [← HE.out, HUA.out] at iu
            rw [HUA.out] at cu
            have c2 := il_at iu hql
            have c3 := HVC.out _ HM2.out.turned a hal
            have s1 := HM2.out.seen.row a (HPL.out ▸ hal)
            have s2 := HM2.out.seen.cell a (HPL.out ▸ hal) q (HE.out ▸ hql)
            have s3 := HM2.out.seen.free a (HPL.out ▸ hal) q
            rw [← HE.out] at s1
            have hgx : G a < wr.heap.size := HM2.out.seen.glt a (HPL.out ▸ hal)
            obtain ⟨x, hx⟩ : ∃ x, x = E.getD q 0 := ⟨_, rfl⟩
            obtain ⟨y, hy⟩ : ∃ y, y = P.getD a 0 := ⟨_, rfl⟩
            obtain ⟨s, hs⟩ : ∃ s, s = mkD Ds P M a q a q := ⟨_, rfl⟩
            rw [← hx] at c2
            rw [← hy] at c3
            rw [← hs] at s2
            have HXY : Hid ((atD Ds a q = P.getD a 0) = (x = y)) := Lib.hid (by unfold atD; rw [← HE.out, hx, hy])
            have hald : (a : Int) < (Ds.length : Int) := by have := HPL.out; omega
            clear iu hx hy hs
            by_cases hxy : x = y
            · have HN : Hid (∀ m, MkAt w0 lo p B G Ds (mkD Ds P M a (q + 1)) (.slice fa F.length fc) F w ((wr.drewN m).setCell ⟨G a, q, none⟩ (.bool true))) := Lib.hid fun m => by
                have h := (HM2.out.drew m).mark (HPL.out ▸ hal) (HE.out ▸ hql)
                rw [mkD_yes (by rw [HXY.out]; exact hxy)] at h
                exact h
              have t1 : (x == y) = true := by simpa using hxy
              clear hxy
              go_wp2_with fail
              go_quiet (fail)
              go_wp2_with fail
              go_roundg (gk - 1)
              case measure => omega
              case rel => exact ⟨q + 1, by omega, by omega, by go_num, HN.out _⟩
            · have HN : Hid (MkAt w0 lo p B G Ds (mkD Ds P M a (q + 1)) (.slice fa F.length fc) F w wr) := Lib.hid (by
                rw [← mkD_no (by rw [HXY.out]; exact hxy)]; exact HM2.out)
              have t1 : (x == y) = false := by simpa using hxy
              clear hxy
              go_wp2_with fail
              go_quiet (fail)
              go_wp2_with fail
              go_roundg (gk - 1)
              case measure => omega
              case rel => exact ⟨q + 1, by omega, by omega, by go_num, HN.out.drew _⟩
          · obtain rfl : q = E.length := by omega
            have HN : Hid (MkAt w0 lo p B G Ds (mkD Ds P M (a + 1) 0) (.slice fa F.length fc) F w wr) := Lib.hid ⟨HM2.out.turned, HM2.out.fst, HM2.out.seen.congr (by rw [HE.out]; exact mkD_row)⟩
            go_wp2_with fail
            go_roundg (g2 - 1)
            case measure => omega
            case rel => exact ⟨a + 1, by omega, by omega, by go_num, HN.out⟩
      · obtain rfl : a = P.length := by omega
        have HN : Hid (Seen lo p B G Ds (seenX Ds M [P]) wo) := Lib.hid (HM.out.seen.congr (by rw [HPL.out]; exact mkD_end))
        go_wp2_with fail
        go_ret
        exact ⟨(.slice fa F.length fc), ret_int HC.out.symm, HM.out.turned, HFE.out ▸ HM.out.fst, HN.out⟩
end Go.Proofs.Ytiobbclciboggaa
