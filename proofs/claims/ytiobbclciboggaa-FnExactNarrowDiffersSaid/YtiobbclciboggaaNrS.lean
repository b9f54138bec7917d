/- Domains without numbers that are in no choice: the model. -/
import Derived.Test.YtiobbclciboggaaNrI
import Derived.Test.YtiobbclciboggaaDfS
namespace Go.Proofs.Ytiobbclciboggaa
open Go.RowKit Go.ChangeShapes Go.WideShapes

def nrP (X Ds : List (List Int)) (k : Nat) : List (List Int) := (List.range k).map (nrw X Ds)
theorem nrP_len (X Ds : List (List Int)) (k : Nat) : (nrP X Ds k).length = k := by simp [nrP]
theorem nrP_up (X Ds : List (List Int)) (k : Nat) : nrP X Ds (k + 1) = nrP X Ds k ++ [nrw X Ds k] := by unfold nrP; rw [List.range_succ, List.map_append]; rfl
theorem OutUp.start {w w1 : World} (hb : Below w.heap.size w w1) : OutUp w.heap.size [] (.slice (some ⟨w1.heap.size, 0, none⟩) 0 0) w (w1.alloc (.cells #[] 24)) (fun _ => vnil) :=
  ⟨World.ownsRow_made w1 #[] 0 hb.size (Nat.zero_le _) rfl, fun j h => by simp at h, fun j h => by simp at h, fun i j h => by simp at h, hb.alloc hb.size _⟩
set_option maxRecDepth 100000 in
set_option maxHeartbeats 8000000 in
theorem specNarrowDiffers_any (v : Value) (Ds : List (List Int)) (w : World) (hv : LV w v Ds) (o : OKL Ds) :
    Calls Try.prog 26 #[v] w (SaysLLB (nrL Ds) (dfB Ds) w) := by
  obtain ⟨i0, hi, hz0, hz1, hz2⟩ := info_parts Try.infoNi
  obtain ⟨j0, hj, hy0, hy1, hy2⟩ := info_parts Try.infoL
  have HV := Lib.hid hv
  cases q : domsB Ds with
  | false =>
    obtain ⟨ao, cap, rfl⟩ := hv.long
    have H := Lib.hid q
    have e2 : dfB Ds = false := by unfold dfB; rw [q]; rfl
    have e : nrL Ds = [] := by unfold nrL; rw [e2]; rfl
    rw [e, e2]
    clear q e e2 hv
    go_enter Try.func26, Try.ntmps26
    go_wp2_with fail
    go_at_call 57; refine (l07Domains_any _ Ds _ HV.out o).mono ?_; rintro e w1 ⟨rfl, m, rfl⟩
    rw [H.out]
    go_wp2_with fail
    go_ret2
    exact ⟨_, rfl, LD.nil _ (Nat.le_refl _) _ _, below_drewN (Below.refl _ _) _⟩
  | true =>
    have H := Lib.hid q
    have HOK := Lib.hid (domsB_ok q)
    have hn1 := HOK.out.l1
    have hn6 := HOK.out.l2
    have e2 : dfB Ds = decide (dfX Ds ≠ []) := by unfold dfB; rw [q]; rfl
    have e : nrL Ds = if decide (dfX Ds ≠ []) then nrC (dfX Ds) Ds else [] := by unfold nrL; rw [e2]
    rw [e, e2]
    obtain ⟨X, hX⟩ : ∃ X, exts nwB Ds Ds.length [] = X := ⟨_, rfl⟩
    have hX2 : dfX Ds = X := hX
    have HX := Lib.hid hX
    rw [hX2]
    obtain ⟨n, hn⟩ : ∃ n, X.length = n := ⟨_, rfl⟩
    have HC : Hid (cntW X = (n : Int)) := Lib.hid (by rw [← hn]; exact cntW_few (Nat.le_trans (hX2 ▸ dfX_few HOK.out) (by omega)))
    obtain ⟨t, ht⟩ : ∃ t, decide (X ≠ []) = t := ⟨_, rfl⟩
    have HT : Hid ((n ≠ 0 → t = true) ∧ (n = 0 → t = false)) := Lib.hid (by
      rw [← hn, ← ht]
      cases X with
      | nil => exact ⟨fun h => absurd rfl h, fun _ => rfl⟩
      | cons C R => exact ⟨fun _ => by simp, fun h => by simp at h⟩)
    rw [ht]
    obtain ⟨R, hR⟩ : ∃ R, (if t = true then nrC X Ds else []) = R := ⟨_, rfl⟩
    have HR := Lib.hid hR
    rw [hR]
    clear hR
    rcases hv with ⟨hz, -⟩ | ⟨b, off, dcap, D, rfl, hpos, hbl, hcell⟩
    · rw [hz] at hn1; simp at hn1
    have HDW : Hid (∀ W, Below w.heap.size w W → ∀ i, i < Ds.length → W.cell? ⟨b, off + i, none⟩ = some (D i) ∧ IL W (D i) (Ds.getD i [])) := Lib.hid fun W hb i hi =>
      ⟨by rw [hb.cell (p := ⟨b, off + i, none⟩) hbl]; exact (hcell i hi).1, (hcell i hi).2.below hb (Nat.le_refl _)⟩
    clear q e e2 hX hX2 hn ht hcell
    go_enter Try.func26, Try.ntmps26
    go_wp2_with fail
    go_at_call 57; refine (l07Domains_any _ Ds _ HV.out o).mono ?_; rintro e w1 ⟨rfl, m, rfl⟩
    rw [H.out]
    have HB := Lib.hid (below_drewN (Below.refl w.heap.size w) m)
    have HV1 : Hid (LV (w.drewN m) _ Ds) := Lib.hid (HV.out.drewN m)
    go_wp2_with fail
    go_at_call 58; refine (l07All_any _ Ds _ HV1.out HOK.out).mono ?_; rintro e w2 ⟨fv, B, sc, G, p, rfl, b2, hf, hs⟩
    have B2 := Lib.hid (HB.out.trans b2)
    obtain ⟨fa, fc, rfl⟩ := SI.len hf
    have HS := Lib.hid hs
    rw [HX.out, HC.out]
    rw [HX.out] at HS
    clear b2 hf hs
    by_cases h0 : n = 0
    · obtain rfl : t = false := HT.out.2 h0
      obtain rfl : [] = R := HR.out
      subst h0
      go_wp2_with fail
      go_ret2
      exact ⟨_, rfl, LD.nil _ (Nat.le_refl _) _ _, B2.out⟩
    · obtain rfl : t = true := HT.out.1 h0
      obtain rfl : nrC X Ds = R := HR.out
      have hzb : ((n : Int) == 0) = false := by simpa using h0
      have hzn : ¬ (n : Int) = 0 := by omega
      have U0 := Lib.hid (OutUp.start (Below.refl w2.heap.size w2))
      have hw2 : w.heap.size ≤ w2.heap.size := B2.out.size
      have HS2 := Lib.hid (fun W (h : Below w2.heap.size w2 W) => HS.out.below h)
      clear h0
      go_wp2_with fail
      go_loopg [7, 25] Ds.length (fun gk s i wr => ∃ (k : Nat) (U : Nat → Value), k ≤ Ds.length ∧ gk + k = Ds.length ∧ i = .int .i64 k ∧ OutUp w2.heap.size (nrP X Ds k) s w2 wr U)
      case atStart => exact ⟨0, _, Nat.zero_le _, by omega, rfl, U0.out⟩
      case round =>
        clear U0
        obtain ⟨k, U, hk, hgk, rfl, hU⟩ := hrel
        have HU := Lib.hid hU
        have HB2 := Lib.hid hU.below
        have HBX := Lib.hid (B2.out.trans (hU.below.mono hw2))
        have hww : w2.heap.size ≤ wr.heap.size := hU.below.size
        clear hU
        by_cases hkn : k < Ds.length
        · have cu := (HDW.out _ HBX.out k hkn).1
          have iu := (HDW.out _ (Below.refl _ _) k hkn).2
          obtain ⟨E, hE⟩ : ∃ E, E = Ds.getD k [] := ⟨_, rfl⟩
          have HE := Lib.hid hE
          have hEl : E.length ≤ 8 := by rw [hE]; exact (HOK.out.d k hkn).l2
          have hE1 : 1 ≤ E.length := by rw [hE]; exact (HOK.out.d k hkn).l1
          rw [← hE] at iu
          obtain ⟨Dk, hDk⟩ : ∃ Dk, Dk = D k := ⟨_, rfl⟩
          have HDK := Lib.hid hDk
          rw [← hDk] at cu iu
          rcases iu with ⟨hz, -⟩ | ⟨eb, eo, ec, rfl, -, ebl, ecell⟩
          · rw [hz] at hE1; simp at hE1
          have HEC : Hid (∀ W, Below w.heap.size w W → ∀ a, a < E.length → W.cell? ⟨eb, eo + a, none⟩ = some (.int .i64 (E.getD a 0))) := Lib.hid fun W h a ha => by
            rw [h.cell (p := ⟨eb, eo + a, none⟩) ebl]; exact ecell a ha
          clear hE hDk ecell
          obtain ⟨wA, rfl⟩ : ∃ wA, wA = wr := ⟨_, rfl⟩
          obtain ⟨gA, rfl⟩ : ∃ gA, gA = gk := ⟨_, rfl⟩
          have D0 : Hid (Grows (Value.int .i64) 2 wA.heap.size (.slice (some ⟨wA.heap.size, 0, none⟩) 0 0) ((E.take 0).filter (hasC X k)) (wA.alloc (.cells #[] 2))) := Lib.hid (Grows.empty (Value.int .i64) _ _ wA (Nat.le_refl _))
          have hbA : b < wA.heap.size := cell_block cu
          go_wp2_with fail
          go_loopg [9, 34] E.length (fun gk d i wr => ∃ (a : Nat), a ≤ E.length ∧ gk + a = E.length ∧ i = .int .i64 a ∧ Grows (Value.int .i64) 2 wA.heap.size d ((E.take a).filter (hasC X k)) wr ∧ Below wA.heap.size wA wr)
          case atStart => exact ⟨0, Nat.zero_le _, by omega, rfl, D0.out, below_alloc _ _⟩
          case round =>
            clear D0
            obtain ⟨a, ha, hga, rfl, hG, hBA⟩ := hrel
            have HG := Lib.hid hG
            have HBA := Lib.hid hBA
            have hsz := hBA.size
            obtain ⟨da, dc, rfl⟩ := SI.len (d := (0 : Int)) hG.si
            have HBW := Lib.hid (HBX.out.trans (hBA.mono HBX.out.size))
            have cu2 := (HDW.out _ HBW.out k hkn).1
            rw [← HDK.out] at cu2
            have hsn := HS2.out _ (HB2.out.trans (hBA.mono HB2.out.size))
            clear hG hBA
            by_cases han : a < E.length
            · have cx := HEC.out _ HBW.out a han
              have r1 := hsn.row k hkn
              rw [← HE.out] at r1
              have r2 := hsn.cell k hkn a (by rw [← HE.out]; exact han)
              obtain ⟨x, hx⟩ : ∃ x, x = E.getD a 0 := ⟨_, rfl⟩
              have e3 : seenX Ds (fun _ _ => false) X k a = hasC X k x := by
                unfold seenX hasC atD
                rw [← HE.out, ← hx]; simp
              rw [e3] at r2
              rw [← hx] at cx
              obtain ⟨t, ht⟩ : ∃ t, hasC X k x = t := ⟨_, rfl⟩
              have HFL : Hid ((E.take (a + 1)).filter (hasC X k) = (E.take a).filter (hasC X k) ++ (if t then [x] else [])) := Lib.hid (by
                rw [hx] at ht ⊢
                cases t with
                | true => exact take_filter_yes han ht
                | false => rw [take_filter_no han ht]; simp)
              rw [ht] at r2
              obtain ⟨gq, hgq⟩ : ∃ gq, G k = gq := ⟨_, rfl⟩
              rw [hgq] at r1 r2
              have hl8 : ((E.take a).filter (hasC X k)).length ≤ 8 := Nat.le_trans (List.length_filter_le _ _) (by simp; omega)
              clear hx e3 ht hgq hsn
              cases t with
              | false =>
                have HN : Hid ((E.take (a + 1)).filter (hasC X k) = (E.take a).filter (hasC X k)) := Lib.hid (by rw [HFL.out]; simp)
                go_wp2_with fail
                go_roundg (gk - 1)
                case measure => omega
                case rel => exact ⟨a + 1, by omega, by omega, by go_num, by rw [HN.out]; exact HG.out, HBA.out⟩
              | true =>
                have HN : Hid ((E.take (a + 1)).filter (hasC X k) = (E.take a).filter (hasC X k) ++ [x]) := Lib.hid HFL.out
                go_wp2_with (at_builtin; (refine wpList_append_own _ rfl _ _ 24 rfl wA.heap.size 2 i0 (.int .i64 0) 1 8 Try.underlying24 hi hz0 hz1 hz2 rfl (by decide) _ _ _ rfl (HG.out.alloc _) ⟨wr.heap.size, 0, none⟩ 1 1 [.int .i64 x] rfl rfl one_new (by intro u hu; simp at hu; subst hu; rfl) (by unfold maxLen; omega) (by omega) (by simp; omega) ?_); intro v' w6 hown hgrow _; (have HG6 : Hid (Grows (Value.int .i64) 2 wA.heap.size v' ((E.take (a + 1)).filter (hasC X k)) w6) := Lib.hid (by rw [HN.out]; exact Grows.more rfl hown)); (have HB6 : Hid (Below wA.heap.size wA w6) := Lib.hid ((HBA.out.alloc hsz _).grown hgrow (by simp; omega) (fun q hq => (World.ownsRow.lt HG.out q hq).1))); clear hown hgrow; obtain ⟨va, vc, rfl⟩ := SI.len (d := (0 : Int)) HG6.out.si)
                go_roundg (gk - 1)
                case measure => omega
                case rel => exact ⟨a + 1, by omega, by omega, by go_num, HG6.out, HB6.out⟩
            · obtain rfl : a = E.length := by omega
              have HN : Hid ((E.take E.length).filter (hasC X k) = nrw X Ds k) := Lib.hid (by rw [List.take_length, HE.out]; rfl)
              obtain ⟨Z, hZ⟩ : ∃ Z, (E.take E.length).filter (hasC X k) = Z := ⟨_, rfl⟩
              rw [hZ] at HN HG ⊢
              clear hZ
              have HUW := Lib.hid (HU.out.keep HBA.out)
              have HDS : Hid (∀ bl, (Value.slice da Z.length dc).ownBlock = some bl → ∀ u, (∀ b, Value.ownBlock u = some b → b < wA.heap.size) → u.ownBlock ≠ some bl) := Lib.hid fun bl hbl u hu e => by
                have h1 := (World.ownsRow.lt HG.out bl hbl).1
                have h2 := hu bl e
                omega
              have hpl := nrP_len X Ds k
              clear hsn
              go_wp2_with (at_builtin; (refine wpList_append_lies _ rfl _ _ 22 rfl w2.heap.size 24 j0 (.slice none 0 0) 1 24 Try.underlying22 hj hy0 hy1 hy2 rfl (by decide) _ _ _ rfl (World.ownsRow.alloc HUW.out.own _) ⟨wr.heap.size, 0, none⟩ 1 1 [.slice da Z.length dc] rfl rfl one_new (by intro u hu; simp at hu; subst hu; rfl) (by omega) (by unfold maxLen; omega) (by omega) (by simp; omega) (wr.heap.size + 1) (by simp) ?_); intro g3 cap3 w4 hown hgrow hat hgl; have HO4 := Lib.hid hown; have HG4 := Lib.hid hgrow; have HA4 := Lib.hid hat; clear hown hgrow hat)
              have hu4 := (HUW.out.keep (below_alloc wr _)).step (Nat.le_refl _) ((HG.out.below (below_alloc wr _) (Nat.le_refl _)).lower hww) (fun bl hb => ⟨HDS.out bl hb _ (fun q hq => (World.ownsRow.lt HU.out.own q hq).2), fun j hj => HDS.out bl hb _ (fun q hq => (World.ownsRow.lt (HU.out.row j hj) q hq).2)⟩) HO4.out HG4.out (HA4.out.imp id (fun e => by rw [e]; simp))
              rw [HN.out, ← nrP_up, hpl] at hu4
              have HU4 := Lib.hid hu4
              clear hu4
              go_wp2_with fail
              go_roundg (gA - 1)
              case measure => omega
              case rel => exact ⟨k + 1, _, by omega, by omega, by go_num, HU4.out⟩
        · obtain rfl : k = Ds.length := by omega
          have HR2 := Lib.hid (HU.out.ld (by rw [nrP_len]; exact hpos))
          go_wp2_with fail
          go_ret2
          exact ⟨_, rfl, LD.wide' HR2.out hw2, HBX.out⟩
theorem tot_rows {C : List (List Int)} (h : ∀ j, (C.getD j []).length ≤ 8) : ∀ n, totAt C n ≤ 8 * n
  | 0 => Nat.le_refl _
  | n + 1 => by have := tot_rows h n; have := h n; rw [totAt]; omega
theorem nrL_sz (Ds : List (List Int)) : szL (nrL Ds) ≤ 1048576 := by
  unfold nrL
  split
  · rename_i h
    have hd : domsB Ds = true := by unfold dfB at h; simp only [Bool.and_eq_true] at h; exact h.1
    have ok := domsB_ok hd
    have l2 := ok.l2
    have e := nrC_len (dfX Ds) Ds
    have t := tot_rows (C := nrC (dfX Ds) Ds) (fun j => by
      by_cases hj : j < Ds.length
      · rw [nrC_at hj]; exact Nat.le_trans (List.length_filter_le _ _) (doms_each ok j).1
      · simp [List.getD, List.getElem?_eq_none (show (nrC (dfX Ds) Ds).length ≤ j by omega)]) (nrC (dfX Ds) Ds).length
    unfold szL
    omega
  · decide
end Go.Proofs.Ytiobbclciboggaa
