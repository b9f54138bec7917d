/- Sets of domains with no more numbers: the model. -/
import Derived.Test.YtnakpfbeeekmiaaDoorTg0
import Derived.Test.YtnakpfbeeekmiaaDoorDmS
import Derived.Test.YtnakpfbeeekmiaaDoorHasI
import Derived.Test.YtnakpfbeeekmiaaDoorGrw
import Derived.Laws.ShiftsVar
import Derived.Laws.BitsAll
import Derived.WalkSpells
namespace Go.Proofs.YtnakpfbeeekmiaaDoor
open Go.RowKit Go.ChangeShapes Go.WideShapes

attribute [local irreducible] popN
/-- A digit of a set, as the model asks it. -/
theorem digit {m : Nat} (hm : m < 65536) (i : Nat) : ∃ q : Nat, (m : Int) / 2 ^ i = (q : Int) ∧ q < 65536 ∧ bits .and .i64 (q : Int) 1 = (if m.testBit i then 1 else 0) := by
  refine ⟨m / 2 ^ i, by simp, Nat.lt_of_le_of_lt (Nat.div_le_self _ _) hm, ?_⟩
  have hq : m / 2 ^ i < 65536 := Nat.lt_of_le_of_lt (Nat.div_le_self _ _) hm
  show IntKind.i64.wrap ((BitVec.ofInt 64 ((m / 2 ^ i : Nat) : Int) &&& BitVec.ofInt 64 ((1 : Nat) : Int)).toNat : Int) = _
  rw [BitVec.toNat_and, ofInt_u64 _ (by omega), ofInt_u64 1 (by omega), Nat.and_one_is_mod]
  have h2 : m.testBit i = decide (m / 2 ^ i % 2 = 1) := by rw [Nat.testBit_eq_decide_div_mod_eq]
  rw [h2]
  have h3 : m / 2 ^ i % 2 < 2 := Nat.mod_lt _ (by omega)
  by_cases h : m / 2 ^ i % 2 = 1
  · rw [h]; simp; exact IntWalk.i64_in _ (by omega)
  · have h0 : m / 2 ^ i % 2 = 0 := by omega
    rw [h0]; simp; exact IntWalk.i64_in _ (by omega)
theorem orD_yes {Ds : List (List Int)} {j k : Nat} (h : k.testBit j = true) : orD Ds (j + 1) k = orD Ds j k ||| mskE (Ds.getD j []) (Ds.getD j []).length := by rw [orD, if_pos h]
theorem orD_no {Ds : List (List Int)} {j k : Nat} (h : k.testBit j = false) : orD Ds (j + 1) k = orD Ds j k := by rw [orD, h]; simp
theorem cnt_yes {j k : Nat} (h : k.testBit j = true) : cntB (j + 1) k = cntB j k + 1 := by rw [cntB, if_pos h]
theorem cnt_no {j k : Nat} (h : k.testBit j = false) : cntB (j + 1) k = cntB j k := by rw [cntB, h]; simp
set_option maxRecDepth 100000 in
set_option maxHeartbeats 8000000 in
theorem specTg_yes (v : Value) (Ds : List (List Int)) (w : World) (hv : LV w v Ds) (o : OKL Ds) (q : domsB Ds = true) :
    Calls Tryd.prog 15 #[v] w (SaysJB (tgT Ds (2 ^ Ds.length)) true w) := by
  obtain ⟨i0, hi, hz0, hz1, hz2⟩ := info_parts Tryd.infoI
  have HV := Lib.hid hv
  have H := Lib.hid q
  have HOK := Lib.hid (domsB_ok q)
  have hn1 := HOK.out.l1
  have hn6 := HOK.out.l2
  rcases hv with ⟨hz, -⟩ | ⟨b, off, dcap, D, rfl, hpos, hbl, hcell⟩
  · rw [hz] at hn1; simp at hn1
  have HDW : Hid (∀ W, Below w.heap.size w W → ∀ i, i < Ds.length → W.cell? ⟨b, off + i, none⟩ = some (D i) ∧ IL W (D i) (Ds.getD i [])) := Lib.hid fun W hb i hi =>
    ⟨by rw [hb.cell (p := ⟨b, off + i, none⟩) hbl]; exact (hcell i hi).1, (hcell i hi).2.below hb (Nat.le_refl _)⟩
  obtain ⟨N, hN⟩ : ∃ N, N = 2 ^ Ds.length := ⟨_, rfl⟩
  have HN := Lib.hid hN
  have hpN : (2 : Int) ^ Ds.length = (N : Int) := by rw [hN]; simp
  have hN64 : N ≤ 64 := by
    have : 2 ^ Ds.length ≤ 2 ^ 6 := Nat.pow_le_pow_right (by omega) hn6
    rw [hN]; omega
  have hN1 : 1 ≤ N := by rw [hN]; exact Nat.pow_pos (by omega)
  rw [← hN]
  clear q hcell hN
  go_enter Tryd.func15, Tryd.ntmps15
  go_wp2_with fail
  go_at_call 33; refine (l07Domains_any _ Ds _ HV.out o).mono ?_; rintro e w1 ⟨rfl, m, rfl⟩
  rw [H.out]
  obtain ⟨w1, hw1⟩ : ∃ x : World, x = w.drewN m := ⟨_, rfl⟩
  have B1 : Hid (Below w.heap.size w w1) := Lib.hid (by rw [hw1]; exact below_drewN (Below.refl _ _) _)
  rw [← hw1]
  have hs1 : w.heap.size ≤ w1.heap.size := B1.out.size
  clear hw1
  have G0 : Hid (Grows (Value.int .i64) 2 w1.heap.size (.slice (some ⟨w1.heap.size, 0, none⟩) 0 0) (tgT Ds 0) (w1.alloc (.cells #[] 2))) := Lib.hid (Grows.empty (Value.int .i64) _ _ w1 (Nat.le_refl _))
  go_wp2_with fail
  go_loopg [4, 5] N (fun gk s i wr => ∃ k : Nat, k ≤ N ∧ gk + k = N ∧ i = .int .i64 k ∧ Grows (Value.int .i64) 2 w1.heap.size s (tgT Ds k) wr ∧ Below w1.heap.size w1 wr)
  case atStart => exact ⟨0, Nat.zero_le _, by omega, rfl, G0.out, below_alloc _ _⟩
  case round =>
    clear G0
    obtain ⟨k, hk, hgk, rfl, hG, hB⟩ := hrel
    have HG := Lib.hid hG
    have HB := Lib.hid hB
    have hww : w1.heap.size ≤ wr.heap.size := hB.size
    clear hG hB
    by_cases hlt : k < N
    · obtain ⟨wA, rfl⟩ : ∃ x : World, x = wr := ⟨_, rfl⟩
      obtain ⟨gA, rfl⟩ : ∃ x : Nat, x = gk := ⟨_, rfl⟩
      have HBW : Hid (∀ W, Below wA.heap.size wA W → Below w.heap.size w W) := Lib.hid fun W h => B1.out.trans ((HB.out.trans (h.mono hww)).mono hs1)
      have NU0 : Hid (NuOk [] (orD Ds 0 k)) := Lib.hid NuOk.nil
      have GN0 : Hid (Grows (Value.int .i64) 2 wA.heap.size (.slice (some ⟨wA.heap.size, 0, none⟩) 0 0) ([] : List Int) (wA.alloc (.cells #[] 2))) := Lib.hid (Grows.empty (Value.int .i64) _ _ wA (Nat.le_refl _))
      go_wp2_with fail
      go_loopg [6, 7, 24] Ds.length (fun gk u c i wi => ∃ (j : Nat) (Nu : List Int), j ≤ Ds.length ∧ gk + j = Ds.length ∧ i = .int .i64 j ∧ c = .int .i64 (cntB j k : Nat) ∧ NuOk Nu (orD Ds j k) ∧ Grows (Value.int .i64) 2 wA.heap.size u Nu wi ∧ Below wA.heap.size wA wi)
      case atStart => exact ⟨0, [], Nat.zero_le _, by omega, rfl, rfl, NU0.out, GN0.out, below_alloc _ _⟩
      case round =>
        clear NU0 GN0
        obtain ⟨j, Nu, hj, hgj, rfl, rfl, hNu, hGn, hBn⟩ := hrel
        have HNU := Lib.hid hNu
        have HGN := Lib.hid hGn
        have HBN := Lib.hid hBn
        have hsn : wA.heap.size ≤ wr.heap.size := hBn.size
        have hc48 := cntB_le j k
        have hfew := hNu.few
        clear hNu hGn hBn
        by_cases hjl : j < Ds.length
        · obtain ⟨cu, iu⟩ := HDW.out _ (HBW.out _ HBN.out) j hjl
          have CU : Hid (∀ W, Below w.heap.size w W → W.cell? ⟨b, off + j, none⟩ = some (D j)) := Lib.hid fun W h => (HDW.out W h j hjl).1
          obtain ⟨dg, d1, d2, d3⟩ := digit (show k < 65536 by omega) j
          have OY := Lib.hid (@orD_yes Ds j k)
          have ON := Lib.hid (@orD_no Ds j k)
          have CY := Lib.hid (@cnt_yes j k)
          have CN := Lib.hid (@cnt_no j k)
          obtain ⟨c, hc⟩ : ∃ c, c = cntB j k := ⟨_, rfl⟩
          rw [← hc] at CY CN hc48 ⊢
          obtain ⟨S, hS⟩ : ∃ S, S = orD Ds j k := ⟨_, rfl⟩
          rw [← hS] at OY ON HNU
          obtain ⟨E, hE⟩ : ∃ E, E = Ds.getD j [] := ⟨_, rfl⟩
          have HE := Lib.hid hE
          have hdm := HOK.out.d j hjl
          rw [← hE] at OY iu hdm
          have hEl := hdm.l2
          have hE1 := hdm.l1
          have HER := Lib.hid (fun i hi => hdm.v i hi)
          obtain ⟨Dj, hDj⟩ : ∃ Dj, Dj = D j := ⟨_, rfl⟩
          rw [← hDj] at cu iu CU
          rcases iu with ⟨hz, -⟩ | ⟨eb, eo, ec, rfl, -, ebl, ecell⟩
          · rw [hz] at hE1; simp at hE1
          have HEC : Hid (∀ W, Below w.heap.size w W → ∀ a, a < E.length → W.cell? ⟨eb, eo + a, none⟩ = some (.int .i64 (E.getD a 0))) := Lib.hid fun W h a ha => by
            obtain ⟨c3, i3⟩ := HDW.out W h j hjl
            rw [← hDj, ← hE] at i3
            rcases i3 with ⟨hz, -⟩ | ⟨eb', eo', ec', e', -, -, ecell'⟩
            · rw [hz] at hE1; simp at hE1
            · injection e' with e1 _ _
              injection e1 with e1
              injection e1 with e1 e2 _
              rw [e1, e2]; exact ecell' a ha
          clear hc hS hE hDj ecell hdm
          cases ht : k.testBit j with
          | false =>
            have HON := Lib.hid (ON.out ht)
            have HCN := Lib.hid (CN.out ht)
            rw [ht] at d3
            simp only [Bool.false_eq_true, if_false] at d3
            clear ht OY ON CY CN
            go_wp2_with fail
            go_roundg (gk - 1)
            case measure => omega
            case rel => exact ⟨j + 1, Nu, by omega, by omega, by go_num, by rw [HCN.out], by rw [HON.out]; exact HNU.out, HGN.out, HBN.out⟩
          | true =>
            have HOY := Lib.hid (OY.out ht)
            have HCY := Lib.hid (CY.out ht)
            rw [ht] at d3
            simp only [if_true] at d3
            have wc : IntKind.i64.wrap ((c : Int) + 1) = (c : Int) + 1 := IntWalk.i64_in _ (by omega)
            obtain ⟨wB, rfl⟩ : ∃ x : World, x = wr := ⟨_, rfl⟩
            obtain ⟨gB, rfl⟩ : ∃ x : Nat, x = gk := ⟨_, rfl⟩
            have NS : Hid (NuOk Nu (S ||| mskE E 0)) := Lib.hid (by show NuOk Nu (S ||| 0); rw [Nat.or_zero]; exact HNU.out)
            clear ht OY ON CY CN
            go_wp2_with fail
            go_loopg [6, 39] E.length (fun gk u i wi => ∃ (a : Nat) (Nu : List Int), a ≤ E.length ∧ gk + a = E.length ∧ i = .int .i64 a ∧ NuOk Nu (S ||| mskE E a) ∧ Grows (Value.int .i64) 2 wA.heap.size u Nu wi ∧ Below wA.heap.size wA wi)
            case atStart => exact ⟨0, Nu, Nat.zero_le _, by omega, rfl, NS.out, HGN.out, HBN.out⟩
            case round =>
              clear NS HNU HGN
              obtain ⟨a, Nv, ha, hga, rfl, hNu, hGn, hBn⟩ := hrel
              have HNV := Lib.hid hNu
              have HGV := Lib.hid hGn
              have HBV := Lib.hid hBn
              have hfv := hNu.few
              obtain ⟨na, nc, rfl⟩ := SI.len (d := (0 : Int)) hGn.si
              have HIL : Hid (IL wr (.slice na Nv.length nc) Nv) := Lib.hid (by have h := hGn.si (d := (0 : Int)); exact h.vl)
              have cu := CU.out _ (HBW.out _ hBn)
              clear hNu hGn hBn
              by_cases hal : a < E.length
              · have cx := HEC.out _ (HBW.out _ HBV.out) a hal
                obtain ⟨x0, x31⟩ := HER.out a hal
                have OO := Lib.hid (fun h => HNV.out.old (x := E.getD a 0) x0 h)
                have OW := Lib.hid (fun h => HNV.out.new (x := E.getD a 0) x0 x31 h)
                have UM : Hid (S ||| mskE E (a + 1) = (S ||| mskE E a) ||| 2 ^ (E.getD a 0).toNat) := Lib.hid (by rw [mskE, Nat.or_assoc])
                rw [← UM.out] at OO OW
                obtain ⟨x, hx⟩ : ∃ x, x = E.getD a 0 := ⟨_, rfl⟩
                rw [← hx] at cx OO OW
                have CU2 := CU
                have HXC : Hid (∀ W, Below w.heap.size w W → W.cell? ⟨eb, eo + a, none⟩ = some (.int .i64 x)) := Lib.hid fun W h => by rw [hx]; exact HEC.out W h a hal
                clear UM hx x0 x31
                cases hs : inS Nv x with
                | true =>
                  have HS := Lib.hid hs
                  have HNX := Lib.hid (OO.out hs)
                  clear hs OO OW
                  go_wp2_with fail
                  go_at_call 34; refine (l00Has_any _ Nv x _ HIL.out (by omega)).mono ?_; rintro e w6 ⟨rfl, rfl⟩
                  rw [HS.out]
                  go_wp2_with fail
                  go_roundg (gk - 1)
                  case measure => omega
                  case rel => exact ⟨a + 1, Nv, by omega, by omega, by go_num, HNX.out, HGV.out, HBV.out⟩
                | false =>
                  have HS := Lib.hid hs
                  have HNX := Lib.hid (OW.out hs)
                  clear hs OO OW
                  go_wp2_with fail
                  go_at_call 34; refine (l00Has_any _ Nv x _ HIL.out (by omega)).mono ?_; rintro e w6 ⟨rfl, rfl⟩
                  rw [HS.out]
                  go_wp2_with (at_builtin; (refine wpList_append_own _ rfl _ _ 24 rfl wA.heap.size 2 i0 (.int .i64 0) 1 8 Tryd.underlying24 hi hz0 hz1 hz2 rfl (by decide) _ _ _ rfl (Grows.alloc HGV.out _) ⟨wr.heap.size, 0, none⟩ 1 1 [.int .i64 x] rfl rfl one_new (by intro u hu; simp at hu; subst hu; rfl) (by unfold maxLen; omega) (by omega) (by have := HBV.out.size; simp; omega) ?_); intro v' w8 hown hgrow _; (have G8 : Hid (Grows (Value.int .i64) 2 wA.heap.size v' (Nv ++ [x]) w8) := Lib.hid (Grows.more rfl hown)); (have B8 : Hid (Below wA.heap.size wA w8) := Lib.hid ((HBV.out.alloc HBV.out.size _).grown hgrow (by have := HBV.out.size; simp; omega) (fun q hq => (World.ownsRow.lt HGV.out q hq).1))); clear hown hgrow)
                  go_roundg (gk - 1)
                  case measure => omega
                  case rel => exact ⟨a + 1, _, by omega, by omega, by go_num, HNX.out, G8.out, B8.out⟩
              · obtain rfl : a = E.length := by omega
                go_wp2_with fail
                go_roundg (gB - 1)
                case measure => omega
                case rel => exact ⟨j + 1, Nv, by omega, by omega, by go_num, by rw [HCY.out]; go_num, by rw [HOY.out]; exact HNV.out, HGV.out, HBV.out⟩
        · obtain rfl : j = Ds.length := by omega
          have HTY := Lib.hid (@tgT_yes Ds k)
          have HTN := Lib.hid (@tgT_no Ds k)
          have hcn : popN 48 (orD Ds Ds.length k) = Nu.length := HNU.out.cnt
          have hck : cntB Ds.length k = popN 48 k := cntB_all (by rw [← HN.out]; exact hlt) (by omega)
          have HTB : Hid (tightB Ds k = (Nu.length == cntB Ds.length k)) := Lib.hid (by unfold tightB; rw [hcn, hck])
          have htl := tgT_few Ds k
          obtain ⟨c, hc⟩ : ∃ c, c = cntB Ds.length k := ⟨_, rfl⟩
          rw [← hc] at hc48 HTB ⊢
          obtain ⟨T, hT⟩ : ∃ T, T = tgT Ds k := ⟨_, rfl⟩
          rw [← hT] at HTY HTN HG htl
          obtain ⟨na, nc, rfl⟩ := SI.len (d := (0 : Int)) HGN.out.si
          have HGW := Lib.hid (HG.out.below HBN.out (Nat.le_refl _))
          have HBW1 := Lib.hid (HB.out.trans (HBN.out.mono hww))
          clear hcn hck hc hT
          by_cases he : c = Nu.length
          · have HNX := Lib.hid (HTY.out (by rw [HTB.out]; simpa using he.symm))
            have hce : ((c : Int) == (Nu.length : Int)) = true := by simp; omega
            clear he HTY HTN HTB
            go_wp2_with (at_builtin; (refine wpList_append_own _ rfl _ _ 24 rfl w1.heap.size 2 i0 (.int .i64 0) 1 8 Tryd.underlying24 hi hz0 hz1 hz2 rfl (by decide) _ _ _ rfl (Grows.alloc HGW.out _) ⟨wr.heap.size, 0, none⟩ 1 1 [.int .i64 (k : Int)] rfl rfl one_new (by intro u hu; simp at hu; subst hu; rfl) (by unfold maxLen; omega) (by omega) (by have := HBW1.out.size; simp; omega) ?_); intro v' w8 hown hgrow _; (have G8 : Hid (Grows (Value.int .i64) 2 w1.heap.size v' (T ++ [(k : Int)]) w8) := Lib.hid (Grows.more rfl hown)); (have B8 : Hid (Below w1.heap.size w1 w8) := Lib.hid ((HBW1.out.alloc HBW1.out.size _).grown hgrow (by have := HBW1.out.size; simp; omega) (fun q hq => (World.ownsRow.lt HGW.out q hq).1))); clear hown hgrow)
            go_roundg (gA - 1)
            case measure => omega
            case rel => exact ⟨k + 1, by omega, by omega, by go_num, by rw [HNX.out]; exact G8.out, B8.out⟩
          · have HNX := Lib.hid (HTN.out (by rw [HTB.out]; simpa using fun h => he h.symm))
            have hce : ((c : Int) == (Nu.length : Int)) = false := by simp; omega
            clear he HTY HTN HTB
            go_wp2_with fail
            go_roundg (gA - 1)
            case measure => omega
            case rel => exact ⟨k + 1, by omega, by omega, by go_num, by rw [HNX.out]; exact HGW.out, HBW1.out⟩
    · obtain rfl : k = N := by omega
      have HI := Lib.hid (SI.wide (HG.out.si (d := (0 : Int))) (lo' := w.heap.size) hs1 (Nat.le_refl _) (Nat.le_refl _))
      have HBX := Lib.hid (B1.out.trans (HB.out.mono hs1))
      go_wp2_with fail
      go_ret2
      exact ⟨_, rfl, HI.out, HBX.out⟩
theorem specTightSets_any (v : Value) (Ds : List (List Int)) (w : World) (hv : LV w v Ds) (o : OKL Ds) :
    Calls Tryd.prog 15 #[v] w (SaysJB (tgL Ds) (domsB Ds) w) := by
  cases q : domsB Ds with
  | true =>
    have e : tgL Ds = tgT Ds (2 ^ Ds.length) := by unfold tgL; rw [if_pos q]
    rw [e]; exact specTg_yes v Ds w hv o q
  | false =>
    have e : tgL Ds = [] := by unfold tgL; rw [q]; rfl
    rw [e]
    have HV := Lib.hid hv
    obtain ⟨ao, cap, rfl⟩ := hv.long
    have H := Lib.hid q
    clear q e hv
    go_enter Tryd.func15, Tryd.ntmps15
    go_wp2_with fail
    go_at_call 33; refine (l07Domains_any _ Ds _ HV.out o).mono ?_; rintro e w1 ⟨rfl, m, rfl⟩
    rw [H.out]
    go_wp2_with fail
    go_ret2
    exact ⟨_, rfl, SI.nil _ (Nat.le_refl _) _ _, below_drewN (Below.refl _ _) _⟩
end Go.Proofs.YtnakpfbeeekmiaaDoor
