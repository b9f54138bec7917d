/- What ReadRows needs: Gs2 RnM RdS RrM FrameV FrameT. -/
import Derived.Test.YtcnllohpkgmkpaaDoorReadRowsA
import Derived.Test.YtcnllohpkgmkpaaDoorReadRowsB
import Derived.Test.YtcnllohpkgmkpaaDoorReadRowsD
import Derived.Test.YtcnllohpkgmkpaaDoorReadRowsC
import Derived.Lay
/- Rows of strings that the call has made, beside rows of another type. -/
namespace Go.Proofs.YtcnllohpkgmkpaaDoor
open Go.RowKit Go.ChangeShapes Go.WideShapes

theorem Grows.strs2 {E B : Nat} {v : Value} {Z : List ByteArray} {w : World} (h : Grows Value.string E B v Z w) (hp : 0 < Z.length) :
    ∃ g cap, v = .slice (some ⟨g, 0, none⟩) Z.length cap ∧ B ≤ g ∧ ∀ i, i < Z.length → w.cell? ⟨g, i, none⟩ = some (.string (Z.getD i (bsOf []))) := by
  have hc := fun g hg => World.ownsRow.cells (g := g) h hg
  obtain ⟨-, ⟨-, h0⟩ | ⟨g, cap, cur, rfl, hB, hg, hn, hm, -, -⟩⟩ := h
  · omega
  · refine ⟨g, cap, rfl, hB, fun i hi => ?_⟩
    have h1 := hc g rfl i (.string (Z.getD i (bsOf []))) (by simp [List.getD, hi])
    rw [Addr.add_lit, Nat.zero_add] at h1
    exact h1
/-- A row stays where one of another type grows. -/
theorem Grows.other {α β : Type} {mk : α → Value} {mk2 : β → Value} {E1 E2 B1 B2 : Nat} {v1 v2 : Value} {Z1 : List α} {Z2 : List β} {w w' : World} (h1 : Grows mk E1 B1 v1 Z1 w) (h2 : Grows mk2 E2 B2 v2 Z2 w) (hE : E1 ≠ E2) (hg : w.grownBy w' v2.ownBlock) : Grows mk E1 B1 v1 Z1 w' := by
  refine ⟨h1.1, ?_⟩
  rcases h1.2 with h | ⟨g, cap, cur, rfl, hB, hgc, hr⟩
  · exact Or.inl h
  · refine Or.inr ⟨g, cap, cur, rfl, hB, (hg.block g (Array.getElem?_eq_some_iff.1 hgc).1 (fun e => ?_)).trans hgc, hr⟩
    rcases h2.2 with ⟨rfl, -⟩ | ⟨g2, cap2, cur2, rfl, hB2, hgc2, hr2⟩
    · cases e
    · cases e
      rw [hgc] at hgc2
      injection hgc2 with e2
      injection e2 with e3 e4 e5
      exact hE e4
end Go.Proofs.YtcnllohpkgmkpaaDoor
/- A list of numbers with digits of bits that is read: the model. -/
namespace Go.Proofs.YtcnllohpkgmkpaaDoor
open Go.RowKit Go.ChangeShapes Go.WideShapes

theorem Tryd.infoRnm : (Tryd.prog.info? 70).map (fun i => (i.zero, i.size, i.bytes)) = some (some (.float .f32 0), 1, 4) := by kernel_rfl
set_option maxRecDepth 100000 in
set_option maxHeartbeats 4000000 in
theorem l01NRead_any (s : ByteArray) (w : World) (hs : s.size ≤ 1048576) :
    Calls Tryd.prog 58 #[.string s] w (SaysNB (rnL s) (rnB s) w) := by
  obtain ⟨i0, hi, hz0, hz1, hz2⟩ := info_parts Tryd.infoRnm
  have G0 := Lib.hid (Grows.empty (Value.float .f32) 70 w.heap.size w (Nat.le_refl _))
  have B0 := Lib.hid (below_alloc w (.cells #[] 70))
  by_cases h : s = noneS
  · have e1 : s.toList = [110, 111, 110, 101] := (none_iff _).2 h
    have e2 : (s.toList == [110, 111, 110, 101]) = true := by rw [beq_iff_eq]; exact e1
    have E1 := Lib.hid (rn_none h)
    clear h
    go_enter Tryd.func58, Tryd.ntmps58
    go_wp2_with fail
    go_ret2
    rw [E1.out.1, E1.out.2]
    exact ⟨_, rfl, SI.wide (G0.out).si (Nat.le_refl _) (Nat.le_refl _) (Nat.le_refl _), B0.out⟩
  · have e1 : ¬ s.toList = [110, 111, 110, 101] := fun q => h ((none_iff _).1 q)
    have e2 : (s.toList == [110, 111, 110, 101]) = false := by rw [beq_eq_false_iff_ne]; exact e1
    have CU : Hid (∀ W, Calls Tryd.prog 89 #[.string s, .int .u8 44] W (MadeT (ptY 44 s) W)) := Lib.hid (fun W => l01Cut_any s 44 W hs)
    have hple := ptY_le 44 s
    by_cases hl : (ptY 44 s).length ≤ 256
    · have HPL := Lib.hid hl
      have HNN := Lib.hid h
      obtain ⟨n, hn⟩ : ∃ n, n = (ptY 44 s).length := ⟨_, rfl⟩
      have hn0 : 0 < n := by rw [hn, ptY_len]; omega
      have hn256 : n ≤ 256 := by rw [hn]; exact hl
      have HN := Lib.hid hn
      have d1 : decide ((n : Int) > 256) = false := by simp; omega
      have L0 : Hid (rnK s 0 = []) := Lib.hid rfl
      clear h hl hn hple
      go_enter Tryd.func58, Tryd.ntmps58
      go_wp2_with fail
      go_at_call 89; refine (CU.out _).mono ?_; rintro e w2 ⟨v, rfl, hG, b2⟩
      obtain ⟨g, cap, rfl, -, -⟩ := Grows.strs2 hG (by rw [← HN.out]; exact hn0)
      obtain ⟨B, hB⟩ : ∃ B, B = (w.alloc (.cells #[] 70)).heap.size := ⟨_, rfl⟩
      have GS : Hid (Grows Value.string 9 B (.slice (some ⟨g, 0, none⟩) n cap) (ptY 44 s) w2) := Lib.hid (by rw [hB, HN.out]; exact hG)
      have B2 := Lib.hid (B0.out.trans (b2.mono (by simp)))
      have G2 := Lib.hid (G0.out.below b2 (Nat.le_refl _))
      rw [← HN.out]
      clear b2 hG G0 CU hB
      go_wp2_with fail
      go_loopg [4, 6, 7, 8, 9, 10, 11] n (fun gk o i _ _ _ _ _ wr => ∃ k : Nat, k ≤ n ∧ gk + k = n ∧ i = .int .i64 k ∧ (∀ j, j < k → hxOk (ptK s j).data.toList = true) ∧ Grows (Value.float .f32) 70 w.heap.size o (rnK s k) wr ∧ Grows Value.string 9 B (.slice (some ⟨g, 0, none⟩) n cap) (ptY 44 s) wr ∧ Below w.heap.size w wr)
      case atStart => exact ⟨0, Nat.zero_le _, by omega, rfl, fun j hj => absurd hj (Nat.not_lt_zero _), by rw [L0.out]; exact G2.out, GS.out, B2.out⟩
      case round =>
        obtain ⟨k, hk, hgk, rfl, hall, hG, hGS, hB⟩ := hrel
        clear GS G2 B2 L0
        have HG := Lib.hid hG
        have HGS := Lib.hid hGS
        have HB := Lib.hid hB
        have HA := Lib.hid hall
        have HGK := Lib.hid hgk
        have hc : ∀ i, i < n → wr.cell? ⟨g, i, none⟩ = some (.string (ptK s i)) := fun i hi => by
          obtain ⟨g9, cap9, e9, -, hc⟩ := Grows.strs2 hGS (by rw [← HN.out]; exact hn0)
          injection e9 with e1
          injection e1 with e1
          injection e1 with e1
          rw [e1]
          exact hc i (by have := HN.out; omega)
        clear hG hGS hB hall hgk
        by_cases hlt : k < n
        · have c1 := hc k hlt
          have hys := ptY_size 44 s k
          have HLB := Lib.hid (fun (h2 : hxOk (ptK s k).data.toList = false) => rn_bad HNN.out (by have := HN.out; omega) h2)
          have HL1 := Lib.hid (rnK_succ s k)
          have hll : (rnK s k).length = k := rnK_len _ _
          have HM1 : Hid ((rnK s k).length + 1 ≤ maxLen) := Lib.hid (by unfold maxLen; omega)
          have HM2 : Hid (((rnK s k).length + 1) * 4 ≤ 140737488355328) := Lib.hid (by omega)
          have HT := Lib.hid (fun j (hj : j < k + 1) (hk : hxOk (ptK s k).data.toList = true) => (show hxOk (ptK s j).data.toList = true from by
            by_cases e : j = k
            · rw [e]; exact hk
            · exact HA.out j (by omega)))
          obtain ⟨y, hy⟩ : ∃ y, ptK s k = y := ⟨_, rfl⟩
          rw [hy] at c1 HLB HL1 HT
          clear hy hc hll hys HA
          have hsz : y.data.toList.length = y.size := Array.length_toList
          have HHL := Lib.hid (fun h => hx_len (S := y.data.toList) h)
          have HGD := Lib.hid (fun h1 h2 h3 => hx_good (S := y.data.toList) h1 h2 h3)
          have HTD := Lib.hid (fun h3 => hx_told (S := y.data.toList) h3)
          have HBD := Lib.hid (fun j (hk : j < y.size) (h : hxB (y[j]'hk) = false) => hx_bad (S := y.data.toList) (k := j) (Nat.lt_of_lt_of_eq hk Array.length_toList.symm) h)
          have HBN := Lib.hid (hxN_bound y.data.toList)
          have HTK := Lib.hid (fun j (hk : j < y.size) => (hxN_take (S := y.data.toList) (k := j) (Nat.lt_of_lt_of_eq hk Array.length_toList.symm)))
          have HN8 := Lib.hid (fun h => hxN_8 (S := y.data.toList) h)
          have L1 : Hid (hxN (y.data.toList.take 0) = 0) := Lib.hid rfl
          by_cases h8 : y.size = 8
          · have H8 := Lib.hid h8
            have HSZ := Lib.hid hsz
            have d8 : ((y.size : Int) == 8) = true := by rw [beq_iff_eq]; omega
            clear h8 hsz
            obtain ⟨wo, rfl⟩ : ∃ x : World, x = wr := ⟨_, rfl⟩
            obtain ⟨g2, rfl⟩ : ∃ x : Nat, x = gk := ⟨_, rfl⟩
            go_wp2_with fail
            clear d8
            go_loopg [7, 8, 9, 10] 8 (fun gk nv kv _ _ wr => ∃ j : Nat, j ≤ 8 ∧ gk + j = 8 ∧ kv = .int .i64 j ∧ nv = .int .i64 ((hxN (y.data.toList.take j) : Nat) : Int) ∧ wo = wr ∧ Hid (∀ i (hi : i < y.size), i < j → hxB (y[i]'hi) = true))
            case atStart => exact ⟨0, Nat.zero_le _, by omega, rfl, by rw [L1.out]; rfl, rfl, Lib.hid fun i hi h => absurd h (Nat.not_lt_zero _)⟩
            case round =>
              obtain ⟨j, hj, hgj, rfl, rfl, rfl, hok⟩ := hrel
              have HGJ := Lib.hid hgj
              clear hgj
              by_cases hj8 : j < 8
              · have hjy : j < y.size := by have := H8.out; omega
                have hb := HBN.out j
                have hv := hxV_le (y[j]'hjy)
                have HT2 : Hid (hxN (y.data.toList.take (j + 1)) = 16 * hxN (y.data.toList.take j) + hxV (y[j]'hjy)) := Lib.hid (HTK.out j hjy)
                have hb2 : hxN (y.data.toList.take j) < 268435456 := Nat.lt_of_lt_of_le hb (Nat.le_trans (Nat.pow_le_pow_right (by omega) (show j ≤ 7 by omega)) (by decide))
                have hc9 : (y[j]'hjy).toNat < 256 := UInt8.toNat_lt _
                clear hb
                generalize hxN (y.data.toList.take j) = a at *
                by_cases h1 : 48 ≤ (y[j]'hjy).toNat ∧ (y[j]'hjy).toNat ≤ 57
                · obtain ⟨e1, e2⟩ := hxB_digit h1
                  have E1 := Lib.hid e1
                  rw [e2] at HT2
                  clear e1 e2 hv
                  obtain ⟨q1, q2⟩ := h1
                  have HT3 : Hid (((hxN (y.data.toList.take (j + 1)) : Nat) : Int) = 16 * (a : Int) + (((y[j]'hjy).toNat : Int) - 48)) := Lib.hid (by rw [HT2.out]; omega)
                  have w0 : IntKind.u8.wrap (((y[j]'hjy).toNat : Int) - 48) = ((y[j]'hjy).toNat : Int) - 48 := by rw [IntKind.wrap_u8]; omega
                  have w1 : IntKind.i64.wrap (((y[j]'hjy).toNat : Int) - 48) = ((y[j]'hjy).toNat : Int) - 48 := by rw [IntKind.wrap_i64]; omega
                  have w2 : IntKind.i64.wrap (16 * (a : Int)) = 16 * (a : Int) := by rw [IntKind.wrap_i64]; omega
                  have w3 : IntKind.i64.wrap (16 * (a : Int) + (((y[j]'hjy).toNat : Int) - 48)) = 16 * (a : Int) + (((y[j]'hjy).toNat : Int) - 48) := by rw [IntKind.wrap_i64]; omega
                  have d1 : decide (((y[j]'hjy).toNat : Int) ≥ 48) = true := by simp; omega
                  have d2 : decide (((y[j]'hjy).toNat : Int) ≤ 57) = true := by simp; omega
                  have d3 : decide (((y[j]'hjy).toNat : Int) ≥ 97) = false := by simp; omega
                  have d4 : decide (((y[j]'hjy).toNat : Int) - 48 < 0) = false := by simp; omega
                  go_wp2_with fail
                  go_roundg (gk - 1)
                  case measure => have := HGJ.out; omega
                  case rel => exact ⟨j + 1, by omega, by have := HGJ.out; omega, by go_num, by rw [HT3.out], rfl, Lib.hid fun i hi h => by
                    by_cases e : i = j
                    · subst e; exact E1.out
                    · exact hok.out i hi (by omega)⟩
                · by_cases h2 : 97 ≤ (y[j]'hjy).toNat ∧ (y[j]'hjy).toNat ≤ 102
                  · obtain ⟨e1, e2⟩ := hxB_letter h2
                    have E1 := Lib.hid e1
                    rw [e2] at HT2
                    clear e1 e2 hv h1
                    obtain ⟨q1, q2⟩ := h2
                    have HT3 : Hid (((hxN (y.data.toList.take (j + 1)) : Nat) : Int) = 16 * (a : Int) + (((y[j]'hjy).toNat : Int) - 97 + 10)) := Lib.hid (by rw [HT2.out]; omega)
                    have w0 : IntKind.u8.wrap (((y[j]'hjy).toNat : Int) - 97) = ((y[j]'hjy).toNat : Int) - 97 := by rw [IntKind.wrap_u8]; omega
                    have w1 : IntKind.i64.wrap (((y[j]'hjy).toNat : Int) - 97) = ((y[j]'hjy).toNat : Int) - 97 := by rw [IntKind.wrap_i64]; omega
                    have w4 : IntKind.i64.wrap (((y[j]'hjy).toNat : Int) - 97 + 10) = ((y[j]'hjy).toNat : Int) - 97 + 10 := by rw [IntKind.wrap_i64]; omega
                    have w2 : IntKind.i64.wrap (16 * (a : Int)) = 16 * (a : Int) := by rw [IntKind.wrap_i64]; omega
                    have w3 : IntKind.i64.wrap (16 * (a : Int) + (((y[j]'hjy).toNat : Int) - 97 + 10)) = 16 * (a : Int) + (((y[j]'hjy).toNat : Int) - 97 + 10) := by rw [IntKind.wrap_i64]; omega
                    have d1 : decide (((y[j]'hjy).toNat : Int) ≥ 48) = true := by simp; omega
                    have d2 : decide (((y[j]'hjy).toNat : Int) ≤ 57) = false := by simp; omega
                    have d3 : decide (((y[j]'hjy).toNat : Int) ≥ 97) = true := by simp; omega
                    have d5 : decide (((y[j]'hjy).toNat : Int) ≤ 102) = true := by simp; omega
                    have d4 : decide (((y[j]'hjy).toNat : Int) - 97 + 10 < 0) = false := by simp; omega
                    go_wp2_with fail
                    go_roundg (gk - 1)
                    case measure => have := HGJ.out; omega
                    case rel => exact ⟨j + 1, by omega, by have := HGJ.out; omega, by go_num, by rw [HT3.out], rfl, Lib.hid fun i hi h => by
                      by_cases e : i = j
                      · subst e; exact E1.out
                      · exact hok.out i hi (by omega)⟩
                  · have hq := (hxB_other h1 h2).1
                    have HLL := Lib.hid (HLB.out (HBD.out j hjy hq))
                    clear hq hv HT2
                    have h3 : (y[j]'hjy).toNat < 48 ∨ (57 < (y[j]'hjy).toNat ∧ (y[j]'hjy).toNat < 97) ∨ 102 < (y[j]'hjy).toNat := by omega
                    clear h1 h2
                    rcases h3 with h3 | ⟨h3, h4⟩ | h3
                    · have d1 : decide (((y[j]'hjy).toNat : Int) ≥ 48) = false := by simp; omega
                      have d3 : decide (((y[j]'hjy).toNat : Int) ≥ 97) = false := by simp; omega
                      go_wp2_with fail
                      go_ret2
                      rw [HLL.out.1, HLL.out.2]
                      exact ⟨_, rfl, SI.nil _ (Nat.le_refl _) _ _, HB.out⟩
                    · have d1 : decide (((y[j]'hjy).toNat : Int) ≥ 48) = true := by simp; omega
                      have d2 : decide (((y[j]'hjy).toNat : Int) ≤ 57) = false := by simp; omega
                      have d3 : decide (((y[j]'hjy).toNat : Int) ≥ 97) = false := by simp; omega
                      go_wp2_with fail
                      go_ret2
                      rw [HLL.out.1, HLL.out.2]
                      exact ⟨_, rfl, SI.nil _ (Nat.le_refl _) _ _, HB.out⟩
                    · have d1 : decide (((y[j]'hjy).toNat : Int) ≥ 48) = true := by simp; omega
                      have d2 : decide (((y[j]'hjy).toNat : Int) ≤ 57) = false := by simp; omega
                      have d3 : decide (((y[j]'hjy).toNat : Int) ≥ 97) = true := by simp; omega
                      have d5 : decide (((y[j]'hjy).toNat : Int) ≤ 102) = false := by simp; omega
                      go_wp2_with fail
                      go_ret2
                      rw [HLL.out.1, HLL.out.2]
                      exact ⟨_, rfl, SI.nil _ (Nat.le_refl _) _ _, HB.out⟩
              · obtain rfl : j = 8 := by omega
                have HFU : Hid (hxN (y.data.toList.take 8) = hxN y.data.toList) := Lib.hid (by rw [List.take_of_length_le (by rw [HSZ.out, H8.out]; exact Nat.le_refl _)])
                rw [HFU.out]
                have hlt8 := HN8.out (by rw [HSZ.out]; exact H8.out)
                have FR := Lib.hid (fun W => l01From_any (hxN y.data.toList) (by omega) W)
                have BO := Lib.hid (fun W => specBits_any (hxN y.data.toList) hlt8 W)
                by_cases hq : Fl.told (hxN y.data.toList) = hxN y.data.toList
                · have HG2 := Lib.hid (HGD.out (by rw [HSZ.out]; exact H8.out) (fun i hi => hok.out i (by have := HSZ.out; omega) (by have := HSZ.out; have := H8.out; omega)) hq)
                  rw [hq] at BO
                  have HTT := Lib.hid (fun j hj => HT.out j hj HG2.out.1)
                  rw [HG2.out.2] at HL1
                  generalize hxN y.data.toList = z at *
                  clear hq HLB HT
                  go_wp2_with (first
                    | (go_at_call 90; refine (FR.out _).mono ?_; rintro e w' ⟨rfl, rfl⟩)
                    | (go_at_call 91; refine (BO.out _).mono ?_; rintro e w' ⟨rfl, rfl⟩)
                    | (at_builtin; refine wpList_append_own _ rfl _ _ 28 rfl w.heap.size 70 i0 (.float .f32 0) 1 4 Tryd.underlying28 hi hz0 hz1 hz2 rfl (by decide) _ _ _ rfl (Grows.alloc HG.out _) ⟨wo.heap.size, 0, none⟩ 1 1 [.float .f32 z] rfl rfl ?c1 ?c2 ?c3 ?c4 ?c5 ?_))
                  case c1 => exact one_new
                  case c2 => intro u hu; simp at hu; subst hu; rfl
                  case c3 => exact HM1.out
                  case c4 => exact HM2.out
                  case c5 => have := HB.out.size; simp; omega
                  intro v' w' hown hgrow _
                  have GN : Hid (Grows (Value.float .f32) 70 w.heap.size v' (rnK s (k + 1)) w') := Lib.hid (by rw [HL1.out]; exact Grows.more (news := [z]) rfl hown)
                  have BN : Hid (Below w.heap.size w w') := Lib.hid ((HB.out.alloc HB.out.size _).grown hgrow (by have := HB.out.size; simp; omega) (fun g hg => HG.out.block g hg))
                  have SN := Lib.hid (Grows.other (HGS.out.alloc _) (HG.out.alloc _) (by decide) hgrow)
                  clear hown hgrow c1
                  go_wp2_with fail
                  go_roundg (g2 - 1)
                  case measure => have := HGK.out; omega
                  case rel => exact ⟨k + 1, by omega, by have := HGK.out; omega, by go_num, HTT.out, GN.out, SN.out, BN.out⟩
                · have HF := Lib.hid (HLB.out (HTD.out hq))
                  generalize hxN y.data.toList = a at *
                  generalize ht : Fl.told a = t at *
                  have d3 : ((t : Int) == (a : Int)) = false := by rw [beq_eq_false_iff_ne]; omega
                  clear hq ht
                  go_wp2_with (first
                    | (go_at_call 90; refine (FR.out _).mono ?_; rintro e w' ⟨rfl, rfl⟩)
                    | (go_at_call 91; refine (BO.out _).mono ?_; rintro e w' ⟨rfl, rfl⟩))
                  go_ret2
                  rw [HF.out.1, HF.out.2]
                  exact ⟨_, rfl, SI.nil _ (Nat.le_refl _) _ _, HB.out⟩
          · have HLL := Lib.hid (HLB.out (HHL.out (by omega)))
            have d8 : ((y.size : Int) == 8) = false := by rw [beq_eq_false_iff_ne]; omega
            clear h8 hsz
            go_wp2_with fail
            go_ret2
            rw [HLL.out.1, HLL.out.2]
            exact ⟨_, rfl, SI.nil _ (Nat.le_refl _) _ _, HB.out⟩
        · obtain rfl : k = n := by omega
          have HRK := Lib.hid (rn_good HNN.out HPL.out (by rw [← HN.out]; exact HA.out))
          clear hc
          go_wp2_with fail
          go_ret2
          rw [HRK.out.1, HRK.out.2, ← HN.out]
          exact ⟨_, rfl, SI.wide HG.out.si (Nat.le_refl _) (Nat.le_refl _) (Nat.le_refl _), HB.out⟩
    · have E1 := Lib.hid (rn_long h (by omega))
      have hl2 : 256 < (ptY 44 s).length := by omega
      obtain ⟨n, hn⟩ : ∃ n, n = (ptY 44 s).length := ⟨_, rfl⟩
      rw [← hn] at hl2 hple
      have HN := Lib.hid hn
      have d1 : decide ((n : Int) > 256) = true := by simp; omega
      clear h hl hn
      go_enter Tryd.func58, Tryd.ntmps58
      go_wp2_with fail
      go_at_call 89; refine (CU.out _).mono ?_; rintro e w2 ⟨v, rfl, hG, b2⟩
      obtain ⟨g, cap, rfl, -, -⟩ := Grows.strs2 hG (by rw [← HN.out]; omega)
      rw [← HN.out]
      have B2 := Lib.hid (B0.out.trans (b2.mono (by simp)))
      clear b2 hG G0 CU
      go_wp2_with fail
      go_ret2
      rw [E1.out.1, E1.out.2]
      exact ⟨_, rfl, SI.nil _ (Nat.le_refl _) _ _, B2.out⟩
theorem specReadNumbers_any (s : ByteArray) (w : World) (hs : s.size ≤ 1048576) :
    Calls Tryd.prog 24 #[.string s] w (SaysNB (rnL s) (rnB s) w) := by
  have HH := Lib.hid (l01NRead_any s w hs)
  go_enter Tryd.func24, Tryd.ntmps24
  go_wp2_with fail
  go_at_call 58; refine HH.out.mono ?_; rintro e w2 ⟨v, rfl, i2, b2⟩
  have I2 := Lib.hid i2
  have B2 := Lib.hid b2
  clear i2 b2
  go_wp2_with fail
  go_ret2
  exact ⟨_, rfl, I2.out, B2.out⟩
end Go.Proofs.YtcnllohpkgmkpaaDoor
/- The number with a decimal text: the model. -/
namespace Go.Proofs.YtcnllohpkgmkpaaDoor
open Go.RowKit Go.ChangeShapes Go.WideShapes

theorem dgF_yes {a : Nat} {c : UInt8} (h1 : 48 ≤ c.toNat) (h2 : c.toNat ≤ 57) : dgF a c = 10 * a + (c.toNat - 48) := by unfold dgF; rw [if_pos ⟨h1, h2⟩]
theorem dgF_no {a : Nat} {c : UInt8} (h : ¬ (48 ≤ c.toNat ∧ c.toNat ≤ 57)) : dgF a c = a := by unfold dgF; rw [if_neg h]
/-- What is told of the number v of a text. -/
theorem rd_long {S : List UInt8} (h : ¬ (1 ≤ S.length ∧ S.length ≤ 17)) : rdB S = false := by unfold rdB; rw [decide_eq_false h]; rfl
theorem rd_in {S : List UInt8} (h1 : inB (valS S) (-1000000000000000) 1000000000000000 = false) : rdB S = false := by unfold rdB; rw [h1]; simp
theorem rd_ne {S : List UInt8} (h1 : ¬ Lib.itoa (valS S) = S) : rdB S = false := by unfold rdB; rw [decide_eq_false h1]; simp
theorem rd_yes {S : List UInt8} (h : 1 ≤ S.length ∧ S.length ≤ 17) (h1 : inB (valS S) (-1000000000000000) 1000000000000000 = true) (h2 : Lib.itoa (valS S) = S) : rdB S = true ∧ rdN S = valS S := by
  have : rdB S = true := by unfold rdB; rw [decide_eq_true h, h1, decide_eq_true h2]; rfl
  exact ⟨this, by unfold rdN; rw [if_pos this]⟩
theorem dg17 {S : List UInt8} {k : Nat} (h : k ≤ 17) : dgS (S.take k) < 100000000000000000 := by
  have h1 := dg_bound (S := S) k
  have h2 : 10 ^ k ≤ 10 ^ 17 := Nat.pow_le_pow_right (by omega) h
  have h3 : (10 : Nat) ^ 17 = 100000000000000000 := by decide
  omega
theorem inV_cases {x : Int} {t : Bool} (h : inB x (-1000000000000000) 1000000000000000 = t) : (decide (-1000000000000000 ≤ x) && decide (x ≤ 1000000000000000)) = t := h
set_option maxRecDepth 100000 in
set_option maxHeartbeats 4000000 in
theorem l01Value_any (s : ByteArray) (w : World) (hs : s.size ≤ 1048576) :
    Calls Tryd.prog 96 #[.string s] w (SaysRd (rdN s.data.toList) (rdB s.data.toList) w) := by
  have hsz : s.data.toList.length = s.size := Array.length_toList
  by_cases hlen : 1 ≤ s.size ∧ s.size ≤ 17
  · have hlS : 1 ≤ s.data.toList.length ∧ s.data.toList.length ≤ 17 := by rw [hsz]; exact hlen
    obtain ⟨h1, h17⟩ := hlen
    have hp0 : 0 < s.size := h1
    have HSZ := Lib.hid hsz
    have HLS := Lib.hid hlS
    have D1 : Hid (∀ k (h : k < s.size), dgS (s.data.toList.take (k + 1)) = dgF (dgS (s.data.toList.take k)) (s[k]'h)) := Lib.hid fun k h => dg_take (S := s.data.toList) (k := k) (by rw [hsz]; exact h)
    have DB := Lib.hid (fun k (h : k ≤ 17) => dg17 (S := s.data.toList) h)
    have D2 : Hid (dgS (s.data.toList.take s.size) = dgS s.data.toList) := Lib.hid (by rw [List.take_of_length_le (by rw [hsz]; exact Nat.le_refl _)])
    have HH : Hid ((s.data.toList.head? = some 45) ↔ ((s[0]'hp0).toNat = 45)) := Lib.hid (by
      have hc : s.data.toList.head? = some (s[0]'hp0) := by
        rw [List.head?_eq_getElem?, List.getElem?_eq_getElem (by rw [hsz]; exact hp0)]; rfl
      rw [hc]
      constructor
      · intro h; injection h with h; rw [h]; rfl
      · intro h; congr 1; exact UInt8.toNat_inj.1 h)
    have TAIL : ∀ (v : Int), valS s.data.toList = v → -100000000000000000 < v → v < 100000000000000000 → Hid (
        (inB v (-1000000000000000) 1000000000000000 = false ∧ rdB s.data.toList = false ∧ rdN s.data.toList = 0) ∨
        (inB v (-1000000000000000) 1000000000000000 = true ∧ ∃ x : ByteArray, (∀ W, Calls Tryd.prog 73 #[.int .i64 v] W (fun e w' => e = .returned (.string x) ∧ Below W.heap.size W w')) ∧
          ((x = s ∧ rdB s.data.toList = true ∧ rdN s.data.toList = v) ∨ ((x.toList == s.toList) = false ∧ rdB s.data.toList = false ∧ rdN s.data.toList = 0)))) := fun v hv l1 l2 => Lib.hid (by
      cases hi : inB v (-1000000000000000) 1000000000000000 with
      | false =>
        have := rd_in (S := s.data.toList) (by rw [hv]; exact hi)
        exact Or.inl ⟨rfl, this, rdN_no this⟩
      | true =>
        refine Or.inr ⟨rfl, bsOf (Lib.itoa v), fun W => l01Dec_any v W (by omega) (by omega), ?_⟩
        by_cases hd : Lib.itoa v = s.data.toList
        · obtain ⟨a, b⟩ := rd_yes hlS (by rw [hv]; exact hi) (by rw [hv]; exact hd)
          exact Or.inl ⟨(ba_of hd).symm, a, by rw [b, hv]⟩
        · have := rd_ne (S := s.data.toList) (by rw [hv]; exact hd)
          refine Or.inr ⟨?_, this, rdN_no this⟩
          have hne : ¬ bsOf (Lib.itoa v) = s := fun h => hd (by rw [← h, bs_list])
          simpa [ByteArray.toList_eq, ByteArray.ext_iff] using hne)
    have HT := Lib.hid TAIL
    clear TAIL hsz hlS hs
    go_enter Tryd.func96, Tryd.ntmps96
    go_wp2_with fail
    go_loopg [4, 5] s.size (fun gk n i wr => ∃ k : Nat, k ≤ s.size ∧ gk + k = s.size ∧ i = .int .i64 k ∧ n = .int .i64 ((dgS (s.data.toList.take k) : Nat) : Int) ∧ w = wr)
    case atStart => exact ⟨0, Nat.zero_le _, by omega, rfl, rfl, rfl⟩
    case round =>
      obtain ⟨k, hk, hgk, rfl, rfl, rfl⟩ := hrel
      have HGK := Lib.hid hgk
      clear hgk
      by_cases hp : k < s.size
      · have hst := Lib.hid (D1.out k hp)
        have hdb := DB.out k (by omega)
        have hbl := (s[k]'hp).toNat_lt
        generalize dgS (s.data.toList.take k) = x at hst hdb ⊢
        by_cases c1 : 48 ≤ (s[k]'hp).toNat
        · have t1 : decide (((s[k]'hp).toNat : Int) ≥ 48) = true := by simp; omega
          by_cases c2 : (s[k]'hp).toNat ≤ 57
          · have t2 : decide (((s[k]'hp).toNat : Int) ≤ 57) = true := by simp; omega
            have hN := Lib.hid (hst.out.trans (dgF_yes c1 c2))
            have w1 : IntKind.u8.wrap (((s[k]'hp).toNat : Int) - 48) = ((s[k]'hp).toNat : Int) - 48 := by rw [IntKind.wrap_u8]; omega
            have w2 : IntKind.i64.wrap (((s[k]'hp).toNat : Int) - 48) = ((s[k]'hp).toNat : Int) - 48 := by rw [IntKind.wrap_i64]; omega
            have w3 : IntKind.i64.wrap (10 * (x : Int)) = 10 * (x : Int) := by rw [IntKind.wrap_i64]; omega
            have w4 : IntKind.i64.wrap (10 * (x : Int) + (((s[k]'hp).toNat : Int) - 48)) = 10 * (x : Int) + (((s[k]'hp).toNat : Int) - 48) := by rw [IntKind.wrap_i64]; omega
            have HC := Lib.hid c1
            go_wp2_with fail
            go_roundg (gk - 1)
            case measure => have := HGK.out; omega
            case rel => exact ⟨k + 1, by omega, by have := HGK.out; omega, by go_num, by rw [hN.out]; congr 1; have := HC.out; omega, rfl⟩
          · have t2 : decide (((s[k]'hp).toNat : Int) ≤ 57) = false := by simp; omega
            have hN := Lib.hid (hst.out.trans (dgF_no (fun h => c2 h.2)))
            go_wp2_with fail
            go_roundg (gk - 1)
            case measure => have := HGK.out; omega
            case rel => exact ⟨k + 1, by omega, by have := HGK.out; omega, by go_num, by rw [hN.out], rfl⟩
        · have t1 : decide (((s[k]'hp).toNat : Int) ≥ 48) = false := by simp; omega
          have hN := Lib.hid (hst.out.trans (dgF_no (fun h => c1 h.1)))
          go_wp2_with fail
          go_roundg (gk - 1)
          case measure => have := HGK.out; omega
          case rel => exact ⟨k + 1, by omega, by have := HGK.out; omega, by go_num, by rw [hN.out], rfl⟩
      · obtain rfl : k = s.size := by omega
        have hdb := DB.out s.size (by omega)
        rw [D2.out] at hdb ⊢
        have HVN : Hid (¬ (s[0]'hp0).toNat = 45 → valS s.data.toList = (dgS s.data.toList : Int)) := Lib.hid (fun h => by unfold valS; rw [if_neg (fun h2 => h (HH.out.1 h2))])
        have HVP : Hid ((s[0]'hp0).toNat = 45 → valS s.data.toList = -(dgS s.data.toList : Int)) := Lib.hid (fun h => by unfold valS; rw [if_pos (HH.out.2 h)])
        generalize dgS s.data.toList = x at *
        by_cases hm : (s[0]'hp0).toNat = 45
        · have hv := HVP.out hm
          have t0 : (((s[0]'hp0).toNat : Int) == 45) = true := by rw [beq_iff_eq]; omega
          have TL := Lib.hid (HT.out _ hv (by omega) (by omega)).out
          obtain ⟨y, hy⟩ : ∃ y : Int, y = -(x : Int) := ⟨_, rfl⟩
          have wn : IntKind.i64.wrap (-(x : Int)) = y := by rw [IntKind.wrap_i64, hy]; omega
          rw [← hy] at TL
          clear hm hv hy hdb
          rcases TL.out with ⟨hi, e1, e2⟩ | ⟨hi, z, hz, ⟨e0, e1, e2⟩ | ⟨e0, e1, e2⟩⟩
          · have E := Lib.hid (And.intro e1 e2)
            have T := Lib.hid (inV_cases hi)
            clear e1 e2 hi TL
            go_wp2_with fail
            go_at_call 84; refine (l00In_is false y (-1000000000000000) 1000000000000000 _ T.out).mono ?_; rintro e w2 ⟨rfl, m, rfl⟩
            go_wp2_with fail
            go_ret2
            exact ⟨by rw [E.out.1, E.out.2]; rfl, below_drewN (Below.refl _ _) _⟩
          · have E := Lib.hid (And.intro e1 e2)
            have T := Lib.hid (inV_cases hi)
            have Z := Lib.hid hz
            subst e0
            clear e1 e2 hi TL hz
            go_wp2_with fail
            go_at_call 84; refine (l00In_is true y (-1000000000000000) 1000000000000000 _ T.out).mono ?_; rintro e w2 ⟨rfl, m, rfl⟩
            go_wp2_with fail
            go_at_call 73; refine (Z.out _).mono ?_; rintro e w3 ⟨rfl, b3⟩
            have B3 := Lib.hid ((below_drewN (Below.refl w.heap.size w) m).trans b3)
            clear b3
            go_wp2_with fail
            go_ret2
            exact ⟨by rw [E.out.1, E.out.2]; rfl, B3.out⟩
          · have E := Lib.hid (And.intro e1 e2)
            have T := Lib.hid (inV_cases hi)
            have Z := Lib.hid hz
            have hs1 := e0
            have hs2 : (z.toList != s.toList) = true := by rw [bne, hs1]; rfl
            clear e1 e2 hi TL hz e0
            go_wp2_with fail
            go_at_call 84; refine (l00In_is true y (-1000000000000000) 1000000000000000 _ T.out).mono ?_; rintro e w2 ⟨rfl, m, rfl⟩
            go_wp2_with fail
            go_at_call 73; refine (Z.out _).mono ?_; rintro e w3 ⟨rfl, b3⟩
            have B3 := Lib.hid ((below_drewN (Below.refl w.heap.size w) m).trans b3)
            clear b3
            go_wp2_with fail
            go_ret2
            exact ⟨by rw [E.out.1, E.out.2]; rfl, B3.out⟩
        · have hv := HVN.out hm
          have t0 : (((s[0]'hp0).toNat : Int) == 45) = false := by rw [beq_eq_false_iff_ne]; omega
          have TL := Lib.hid (HT.out _ hv (by omega) (by omega)).out
          obtain ⟨y, hy⟩ : ∃ y : Int, y = (x : Int) := ⟨_, rfl⟩
          rw [← hy] at TL ⊢
          clear hm hv hy hdb
          rcases TL.out with ⟨hi, e1, e2⟩ | ⟨hi, z, hz, ⟨e0, e1, e2⟩ | ⟨e0, e1, e2⟩⟩
          · have E := Lib.hid (And.intro e1 e2)
            have T := Lib.hid (inV_cases hi)
            clear e1 e2 hi TL
            go_wp2_with fail
            go_at_call 84; refine (l00In_is false y (-1000000000000000) 1000000000000000 _ T.out).mono ?_; rintro e w2 ⟨rfl, m, rfl⟩
            go_wp2_with fail
            go_ret2
            exact ⟨by rw [E.out.1, E.out.2]; rfl, below_drewN (Below.refl _ _) _⟩
          · have E := Lib.hid (And.intro e1 e2)
            have T := Lib.hid (inV_cases hi)
            have Z := Lib.hid hz
            subst e0
            clear e1 e2 hi TL hz
            go_wp2_with fail
            go_at_call 84; refine (l00In_is true y (-1000000000000000) 1000000000000000 _ T.out).mono ?_; rintro e w2 ⟨rfl, m, rfl⟩
            go_wp2_with fail
            go_at_call 73; refine (Z.out _).mono ?_; rintro e w3 ⟨rfl, b3⟩
            have B3 := Lib.hid ((below_drewN (Below.refl w.heap.size w) m).trans b3)
            clear b3
            go_wp2_with fail
            go_ret2
            exact ⟨by rw [E.out.1, E.out.2]; rfl, B3.out⟩
          · have E := Lib.hid (And.intro e1 e2)
            have T := Lib.hid (inV_cases hi)
            have Z := Lib.hid hz
            have hs1 := e0
            have hs2 : (z.toList != s.toList) = true := by rw [bne, hs1]; rfl
            clear e1 e2 hi TL hz e0
            go_wp2_with fail
            go_at_call 84; refine (l00In_is true y (-1000000000000000) 1000000000000000 _ T.out).mono ?_; rintro e w2 ⟨rfl, m, rfl⟩
            go_wp2_with fail
            go_at_call 73; refine (Z.out _).mono ?_; rintro e w3 ⟨rfl, b3⟩
            have B3 := Lib.hid ((below_drewN (Below.refl w.heap.size w) m).trans b3)
            clear b3
            go_wp2_with fail
            go_ret2
            exact ⟨by rw [E.out.1, E.out.2]; rfl, B3.out⟩
  · have e := rd_long (S := s.data.toList) (by rw [hsz]; exact hlen)
    rw [e, rdN_no e]
    clear e hsz
    by_cases h1 : 1 ≤ s.size
    · have h2 : ¬ s.size ≤ 17 := fun h => hlen ⟨h1, h⟩
      have t1 : decide ((s.size : Int) < 1) = false := by simp; omega
      have t2 : decide ((s.size : Int) > 17) = true := by simp; omega
      clear hlen
      go_enter Tryd.func96, Tryd.ntmps96
      go_wp2_with fail
      go_ret2
      exact ⟨rfl, Below.refl _ _⟩
    · have t1 : decide ((s.size : Int) < 1) = true := by simp; omega
      clear hlen
      go_enter Tryd.func96, Tryd.ntmps96
      go_wp2_with fail
      go_ret2
      exact ⟨rfl, Below.refl _ _⟩
end Go.Proofs.YtcnllohpkgmkpaaDoor
/- Rows that are read: the model. -/
namespace Go.Proofs.YtcnllohpkgmkpaaDoor
open Go.RowKit Go.ChangeShapes Go.WideShapes

theorem cut_four (s : ByteArray) (w : World) (hs : s.size ≤ 1048576) (h : (ptY 59 s).length = 4) :
    Calls Tryd.prog 89 #[.string s, .int .u8 59] w (Cut4 (rrP s 0) (rrP s 1) (rrP s 2) (rrP s 3) w) :=
  (l01Cut_any s 59 w hs).mono fun e w' ⟨v, he, hG, hb⟩ => by
    have hG2 : Grows Value.string 9 w.heap.size v (ptY 59 s) w' := hG
    obtain ⟨g, cap, rfl, -, hc⟩ := Grows.strs2 hG2 (by omega)
    rw [h] at he hc
    exact ⟨g, _, he, hc 0 (by omega), hc 1 (by omega), hc 2 (by omega), hc 3 (by omega), hb⟩
theorem cut_n (s : ByteArray) (w : World) (hs : s.size ≤ 1048576) :
    Calls Tryd.prog 89 #[.string s, .int .u8 59] w (CutN (ptY 59 s).length w) :=
  (l01Cut_any s 59 w hs).mono fun _ w' ⟨v, he, hG, hb⟩ => by
    have hG2 : Grows Value.string 9 w.heap.size v (ptY 59 s) w' := hG
    have hp : 0 < (ptY 59 s).length := by rw [ptY_len]; omega
    obtain ⟨g, cap, rfl, -, hc⟩ := Grows.strs2 hG2 hp
    exact ⟨g, _, he, hb⟩
set_option maxRecDepth 100000 in
set_option maxHeartbeats 8000000 in
theorem l08ReadRows_any (s : ByteArray) (w : World) (hs : s.size ≤ 1048576) :
    Calls Tryd.prog 68 #[.string s] w (SaysRw (rrA s) (rrB s) w) := by
  have HB := Lib.hid (below_alloc w)
  have HR : Hid (∀ a b c d, Res4 (w.alloc (.cells #[a, b, c, d] 38)) w.heap.size) := Lib.hid fun a b c d => ⟨⟨a, by go_simp⟩, ⟨b, by go_simp⟩, ⟨c, by go_simp⟩, ⟨d, by go_simp⟩, fun i => by go_simp⟩
  have HZ0 : Hid (∀ A, w.heap.size < (w.alloc A).heap.size) := Lib.hid fun A => by simp
  have hle := ptY_le 59 s
  by_cases h4 : (ptY 59 s).length = 4
  · obtain ⟨b0, hb0⟩ : ∃ b, rdB (rrP s 0).data.toList = b := ⟨_, rfl⟩
    obtain ⟨b1, hb1⟩ : ∃ b, rnB (rrP s 1) = b := ⟨_, rfl⟩
    obtain ⟨b2, hb2⟩ : ∃ b, rnB (rrP s 2) = b := ⟨_, rfl⟩
    obtain ⟨b3, hb3⟩ : ∃ b, rnB (rrP s 3) = b := ⟨_, rfl⟩
    obtain ⟨t, ht⟩ : ∃ b, okR (rrR s) = b := ⟨_, rfl⟩
    have OF := rr_of h4 hb0 hb1 hb2 hb3 ht
    have HBAD := Lib.hid (rr_bad (s := s))
    have HGOOD := Lib.hid (rr_good (s := s))
    have CU := Lib.hid (fun W => cut_four s W hs h4)
    have DC := Lib.hid (fun W => l01Value_any (rrP s 0) W (Nat.le_trans (ptY_size 59 s 0) hs))
    have N1 := Lib.hid (fun W => l01NRead_any (rrP s 1) W (Nat.le_trans (ptY_size 59 s 1) hs))
    have N2 := Lib.hid (fun W => l01NRead_any (rrP s 2) W (Nat.le_trans (ptY_size 59 s 2) hs))
    have N3 := Lib.hid (fun W => l01NRead_any (rrP s 3) W (Nat.le_trans (ptY_size 59 s 3) hs))
    have GV := Lib.hid (fun v W h => specGive_is t v (rrR s) W h (by have := rr_size s; omega) ht)
    rw [hb0] at DC
    rw [hb1] at N1
    rw [hb2] at N2
    rw [hb3] at N3
    rw [OF] at HBAD HGOOD ⊢
    unfold rrR at HGOOD GV
    clear OF hb0 hb1 hb2 hb3 ht h4 hle
    generalize rrA s = A at *
    generalize rdN (rrP s 0).data.toList = n at *
    generalize rnL (rrP s 1) = L1 at *
    generalize rnL (rrP s 2) = L2 at *
    generalize rnL (rrP s 3) = L3 at *
    generalize rrP s 0 = p0 at *
    generalize rrP s 1 = p1 at *
    generalize rrP s 2 = p2 at *
    generalize rrP s 3 = p3 at *
    go_enter Tryd.func68, Tryd.ntmps68
    go_wp2_with fail
    go_at_call 89; refine (CU.out _).mono ?_; rintro e w2 ⟨g, cap, rfl, e0, e1, e2, e3, b⟩
    have B2 := Lib.hid ((HB.out _).trans (b.mono (HB.out _).size))
    have R2 := Lib.hid ((HR.out _ _ _ _).keep b (HZ0.out _))
    have hz2 := Nat.lt_of_lt_of_le (HZ0.out _) b.size
    have hg2 := cell_block e0
    clear b HR HB HZ0
    go_wp2_with fail
    go_at_call 96; refine (DC.out _).mono ?_; rintro e w3 ⟨rfl, b⟩
    have B3 := Lib.hid (B2.out.trans (b.mono B2.out.size))
    have R3 := Lib.hid (R2.out.keep b hz2)
    have hz3 := Nat.lt_of_lt_of_le hz2 b.size
    have hg3 := Nat.lt_of_lt_of_le hg2 b.size
    have e1 := keep_cell e1 b hg2
    have e2 := keep_cell e2 b hg2
    have e3 := keep_cell e3 b hg2
    clear b R2 B2 e0 CU DC
    go_wp2_with fail
    go_at_call 58; refine (N1.out _).mono ?_; rintro e w4 ⟨v1, rfl, i1, b⟩
    obtain ⟨x1, y1, rfl⟩ := SI.len i1
    have I1 := Lib.hid i1
    have B4 := Lib.hid (B3.out.trans (b.mono B3.out.size))
    have R4 := Lib.hid (R3.out.keep b hz3)
    have hz4 := Nat.lt_of_lt_of_le hz3 b.size
    have hg4 := Nat.lt_of_lt_of_le hg3 b.size
    have E1 := Lib.hid b.size
    have e2 := keep_cell e2 b hg3
    have e3 := keep_cell e3 b hg3
    clear b i1 R3 B3 e1 N1
    go_wp2_with fail
    go_at_call 58; refine (N2.out _).mono ?_; rintro e w5 ⟨v2, rfl, i2, b⟩
    obtain ⟨x2, y2, rfl⟩ := SI.len i2
    have I2 := Lib.hid i2
    have B5 := Lib.hid (B4.out.trans (b.mono B4.out.size))
    have R5 := Lib.hid (R4.out.keep b hz4)
    have hz5 := Nat.lt_of_lt_of_le hz4 b.size
    have hg5 := Nat.lt_of_lt_of_le hg4 b.size
    have K4 := Lib.hid b
    have e3 := keep_cell e3 b hg4
    clear b i2 R4 B4 e2 N2
    go_wp2_with fail
    go_at_call 58; refine (N3.out _).mono ?_; rintro e w6 ⟨v3, rfl, i3, b⟩
    obtain ⟨x3, y3, rfl⟩ := SI.len i3
    have I3 := Lib.hid i3
    have B6 := Lib.hid (B5.out.trans (b.mono B5.out.size))
    have R6 := Lib.hid (R5.out.keep b hz5)
    have hz6 := Nat.lt_of_lt_of_le hz5 b.size
    have K5 := Lib.hid b
    clear b i3 R5 B5 e3 N3 hz4 hz5 hg2 hg3 hg4 hg5
    cases b0 with
    | false =>
      obtain ⟨⟨u0, g0⟩, ⟨u1, g1⟩, ⟨u2, g2⟩, ⟨u3, g3⟩, hf⟩ := R6.out
      have f0 := hf 0
      have f1 := hf 1
      have f2 := hf 2
      have f3 := hf 3
      clear hf
      go_wp2_with fail
      refine bodyPost_ret (v := .tuple #[zeroR, .bool false]) (by simp [results, Tryd.results68, g0, g1, g2, g3, go_sem, zeroR]) rfl ?_
      generalize hX : World.setCell _ _ _ = Y
      have hT : Turned w.heap.size (w.heap.size + 1) w6 Y := by
        rw [← hX]
        repeat (refine Turned.setCell ?_ (by simp) (by simp) _)
        exact Turned.refl _ _ _
      clear hX
      have hsz := hT.size
      have hz := B6.out.size
      rw [HBAD.out rfl]
      exact ⟨_, rfl, zeroR_rd (by omega), B6.out.trans (hT.below hz)⟩
    | true =>
    cases b1 with
    | false =>
      obtain ⟨⟨u0, g0⟩, ⟨u1, g1⟩, ⟨u2, g2⟩, ⟨u3, g3⟩, hf⟩ := R6.out
      have f0 := hf 0
      have f1 := hf 1
      have f2 := hf 2
      have f3 := hf 3
      clear hf
      go_wp2_with fail
      refine bodyPost_ret (v := .tuple #[zeroR, .bool false]) (by simp [results, Tryd.results68, g0, g1, g2, g3, go_sem, zeroR]) rfl ?_
      generalize hX : World.setCell _ _ _ = Y
      have hT : Turned w.heap.size (w.heap.size + 1) w6 Y := by
        rw [← hX]
        repeat (refine Turned.setCell ?_ (by simp) (by simp) _)
        exact Turned.refl _ _ _
      clear hX
      have hsz := hT.size
      have hz := B6.out.size
      rw [HBAD.out rfl]
      exact ⟨_, rfl, zeroR_rd (by omega), B6.out.trans (hT.below hz)⟩
    | true =>
    cases b2 with
    | false =>
      obtain ⟨⟨u0, g0⟩, ⟨u1, g1⟩, ⟨u2, g2⟩, ⟨u3, g3⟩, hf⟩ := R6.out
      have f0 := hf 0
      have f1 := hf 1
      have f2 := hf 2
      have f3 := hf 3
      clear hf
      go_wp2_with fail
      refine bodyPost_ret (v := .tuple #[zeroR, .bool false]) (by simp [results, Tryd.results68, g0, g1, g2, g3, go_sem, zeroR]) rfl ?_
      generalize hX : World.setCell _ _ _ = Y
      have hT : Turned w.heap.size (w.heap.size + 1) w6 Y := by
        rw [← hX]
        repeat (refine Turned.setCell ?_ (by simp) (by simp) _)
        exact Turned.refl _ _ _
      clear hX
      have hsz := hT.size
      have hz := B6.out.size
      rw [HBAD.out rfl]
      exact ⟨_, rfl, zeroR_rd (by omega), B6.out.trans (hT.below hz)⟩
    | true =>
    cases b3 with
    | false =>
      obtain ⟨⟨u0, g0⟩, ⟨u1, g1⟩, ⟨u2, g2⟩, ⟨u3, g3⟩, hf⟩ := R6.out
      have f0 := hf 0
      have f1 := hf 1
      have f2 := hf 2
      have f3 := hf 3
      clear hf
      go_wp2_with fail
      refine bodyPost_ret (v := .tuple #[zeroR, .bool false]) (by simp [results, Tryd.results68, g0, g1, g2, g3, go_sem, zeroR]) rfl ?_
      generalize hX : World.setCell _ _ _ = Y
      have hT : Turned w.heap.size (w.heap.size + 1) w6 Y := by
        rw [← hX]
        repeat (refine Turned.setCell ?_ (by simp) (by simp) _)
        exact Turned.refl _ _ _
      clear hX
      have hsz := hT.size
      have hz := B6.out.size
      rw [HBAD.out rfl]
      exact ⟨_, rfl, zeroR_rd (by omega), B6.out.trans (hT.below hz)⟩
    | true =>
    have RV6 : Hid (RV w6 (.agg #[.int .i64 n, .slice x1 L1.length y1, .slice x2 L2.length y2, .slice x3 L3.length y3]) ⟨n, L1, L2, L3⟩) := Lib.hid ⟨_, _, _, rfl, FI.sl (SI.below I1.out (K4.out.trans (K5.out.mono K4.out.size)) (Nat.le_refl _)), FI.sl (SI.below I2.out K5.out (Nat.le_refl _)), FI.sl I3.out⟩
    cases t with
    | false =>
      go_wp2_with fail
      go_at_call 105; refine (GivesR.no (GV.out _ _ RV6.out)).mono ?_; rintro e w7 ⟨rfl, b⟩
      have B7 := Lib.hid (B6.out.trans (b.mono B6.out.size))
      obtain ⟨⟨u0, g0⟩, ⟨u1, g1⟩, ⟨u2, g2⟩, ⟨u3, g3⟩, hf⟩ := R6.out.keep b hz6
      have f0 := hf 0
      have f1 := hf 1
      have f2 := hf 2
      have f3 := hf 3
      clear b hf
      go_wp2_with fail
      refine bodyPost_ret (v := .tuple #[zeroR, .bool false]) (by simp [results, Tryd.results68, g0, g1, g2, g3, go_sem, zeroR]) rfl ?_
      generalize hX : World.setCell _ _ _ = Y
      have hT : Turned w.heap.size (w.heap.size + 1) w7 Y := by
        rw [← hX]
        repeat (refine Turned.setCell ?_ (by simp) (by simp) _)
        exact Turned.refl _ _ _
      clear hX
      have hsz := hT.size
      have hz := B7.out.size
      rw [HBAD.out rfl]
      exact ⟨_, rfl, zeroR_rd (by omega), B7.out.trans (hT.below hz)⟩
    | true =>
      go_wp2_with fail
      go_at_call 105; refine (GivesR.yes (GV.out _ _ RV6.out)).mono ?_; rintro e w7 ⟨rfl, b⟩
      have B7 := Lib.hid (B6.out.trans (b.mono B6.out.size))
      have K6 := Lib.hid b
      obtain ⟨⟨u0, g0⟩, ⟨u1, g1⟩, ⟨u2, g2⟩, ⟨u3, g3⟩, hf⟩ := R6.out.keep b hz6
      have f0 := hf 0
      have f1 := hf 1
      have f2 := hf 2
      have f3 := hf 3
      clear b hf
      go_wp2_with fail
      refine bodyPost_ret (v := .tuple #[.agg #[.int .i64 n, .slice x1 L1.length y1, .slice x2 L2.length y2, .slice x3 L3.length y3], .bool true]) (by simp [results, Tryd.results68, g0, g1, g2, g3, go_sem]) rfl ?_
      generalize hX : World.setCell _ _ _ = Y
      have hT : Turned w.heap.size (w.heap.size + 1) w7 Y := by
        rw [← hX]
        repeat (refine Turned.setCell ?_ (by simp) (by simp) _)
        exact Turned.refl _ _ _
      clear hX
      rw [HGOOD.out rfl]
      exact ⟨_, rfl, rd_three I1.out I2.out I3.out K4.out K5.out hz3 (Nat.le_refl _) E1.out w7 K6.out hT, B7.out.trans (hT.below B7.out.size)⟩
  · have CU := Lib.hid (fun W => cut_n s W hs)
    obtain ⟨n, hn⟩ : ∃ n, n = (ptY 59 s).length := ⟨_, rfl⟩
    rw [← hn] at CU h4
    have dn : ((n : Int) == 4) = false := by rw [beq_eq_false_iff_ne]; omega
    have hb := rr_n (s := s) (by rw [← hn]; exact h4)
    rw [rr_bad hb, hb]
    clear hb hn hle
    go_enter Tryd.func68, Tryd.ntmps68
    go_wp2_with fail
    go_at_call 89; refine (CU.out _).mono ?_; rintro e w2 ⟨g, cap, rfl, b⟩
    have B2 := Lib.hid ((HB.out _).trans (b.mono (HB.out _).size))
    obtain ⟨⟨u0, g0⟩, ⟨u1, g1⟩, ⟨u2, g2⟩, ⟨u3, g3⟩, hf⟩ := (HR.out _ _ _ _).keep b (HZ0.out _)
    have hz2 := Nat.lt_of_lt_of_le (HZ0.out _) b.size
    have f0 := hf 0
    have f1 := hf 1
    have f2 := hf 2
    have f3 := hf 3
    clear b hf HR HB HZ0
    go_wp2_with fail
    refine bodyPost_ret (v := .tuple #[zeroR, .bool false]) (by simp [results, Tryd.results68, g0, g1, g2, g3, go_sem, zeroR]) rfl ?_
    generalize hX : World.setCell _ _ _ = Y
    have hT : Turned w.heap.size (w.heap.size + 1) w2 Y := by
      rw [← hX]
      repeat (refine Turned.setCell ?_ (by simp) (by simp) _)
      exact Turned.refl _ _ _
    clear hX
    have hsz := hT.size
    have hz := B2.out.size
    exact ⟨_, rfl, zeroR_rd (by omega), B2.out.trans (hT.below hz)⟩
set_option maxHeartbeats 2000000 in
theorem specReadRows_any (s : ByteArray) (w : World) (hs : s.size ≤ 1048576) :
    Calls Tryd.prog 38 #[.string s] w (SaysRw (rrA s) (rrB s) w) := by
  have HB := Lib.hid (below_alloc w)
  have HR : Hid (∀ a b c d, Res4 (w.alloc (.cells #[a, b, c, d] 38)) w.heap.size) := Lib.hid fun a b c d => ⟨⟨a, by go_simp⟩, ⟨b, by go_simp⟩, ⟨c, by go_simp⟩, ⟨d, by go_simp⟩, fun i => by go_simp⟩
  have HZ0 : Hid (∀ A, w.heap.size < (w.alloc A).heap.size) := Lib.hid fun A => by simp
  have RR := Lib.hid (fun W => l08ReadRows_any s W hs)
  generalize rrA s = A at *
  generalize rrB s = b at *
  go_enter Tryd.func38, Tryd.ntmps38
  go_wp2_with fail
  go_at_call 68; refine (RR.out _).mono ?_; rintro e w2 ⟨v, rfl, i, bb⟩
  have B2 := Lib.hid ((HB.out _).trans (bb.mono (HB.out _).size))
  have hz := HZ0.out (.cells #[.int .i64 0, .slice none 0 0, .slice none 0 0, .slice none 0 0] 38)
  obtain ⟨⟨u0, g0⟩, ⟨u1, g1⟩, ⟨u2, g2⟩, ⟨u3, g3⟩, hf⟩ := (HR.out _ _ _ _).keep bb (HZ0.out _)
  obtain ⟨s1, s2, s3, p, q, l1, l2, l3, rfl, i1, i2, i3⟩ := i
  obtain ⟨x1, y1, rfl⟩ := SI.len i1
  obtain ⟨x2, y2, rfl⟩ := SI.len i2
  obtain ⟨x3, y3, rfl⟩ := SI.len i3
  have I1 := Lib.hid i1
  have I2 := Lib.hid i2
  have I3 := Lib.hid i3
  have L := Lib.hid (And.intro l1 (And.intro l2 l3))
  have f0 := hf 0
  have f1 := hf 1
  have f2 := hf 2
  have f3 := hf 3
  clear bb hf i1 i2 i3 l1 l2 l3 HR
  go_wp2_with fail
  refine bodyPost_ret (v := .tuple #[.agg #[.int .i64 A.vars, .slice x1 A.N.length y1, .slice x2 A.B.length y2, .slice x3 A.G.length y3], .bool b]) (by simp [results, Tryd.results38, g0, g1, g2, g3, go_sem]) rfl ?_
  generalize hX : World.setCell _ _ _ = Y
  have hT : Turned w.heap.size (w.heap.size + 1) w2 Y := by
    rw [← hX]
    repeat (refine Turned.setCell ?_ (by simp) (by simp) _)
    exact Turned.refl _ _ _
  clear hX
  have hsz := hT.size
  obtain ⟨l1, l2, l3⟩ := L.out
  have hlo := HZ0.out (.cells #[.int .i64 0, .slice none 0 0, .slice none 0 0, .slice none 0 0] 38)
  refine ⟨_, rfl, ⟨_, _, _, p, q, by omega, l2, by omega, rfl, ?_, ?_, ?_⟩, B2.out.trans (hT.below B2.out.size)⟩
  · exact SI.wide (SI.kept I1.out hT (Or.inr (by omega))) (by omega) (Nat.le_refl _) (by omega)
  · exact SI.kept I2.out hT (Or.inr (by omega))
  · exact SI.wide (SI.kept I3.out hT (Or.inr (by omega))) (Nat.le_refl _) (by omega) (by omega)
end Go.Proofs.YtcnllohpkgmkpaaDoor
/- A law that returns true and lets the old memory be: its row, where variables are laid and the world's shape is wanted; the door of the laws that split texts. -/
namespace Go.Proofs.YtcnllohpkgmkpaaDoor.Frame
open Go.ChangeShapes Go.WideShapes Go.ChangeAt Go.RowKit

theorem change_and_shaped {H : Type} {enc : TypeId × Value → H} {a : Assume} {C : Checked} {os : Os} {f : FuncId} {fn : Func} {s : ChangeSpec} {conds : List PathCond} {apart fresh handsOn again : Bool} {X : World → Array Value → Prop}
    (hX : ∀ (w w' : World) (args : Array Value), w.heap = w'.heap → X w args → X w' args)
    (own : ownKnob C.prog.godebug = none) (started : os.Started) (noInit : C.prog.inits.idxOf? f = none) (hfn : C.prog.funcs[f]? = some fn)
    (witness : ∃ (w : World) (tape : Tape) (i : Input), w.os = os ∧ (w.forCall tape i).Shaped C.prog ∧ i.vars = [] ∧ Input.okWide C.prog (w.forCall tape i) .any w.heap.size f i ∧
      ((s.pre enc C.prog fn conds apart (w.forCall tape i).memory i.args ∧ X (w.forCall tape i).memory i.args) ∧ sizedMet enc C.prog fn (OpenSpec.ofChange s) apart (w.forCall tape i).memory i.args) ∧ a.holds C.prog (lone (Frame.enter C.prog f i.args .normal) [] (w.forCall tape i)))
    (contract : ∀ (W : World) (base : Nat) (args : Array Value) (ds gs : List (DataW H)) (before : List MemPlace),
      (∀ (j : Nat) t v, fn.params[j]? = some t → args[j]? = some v → Value.okWide C.prog W .any base t v) →
      DataW.Whole enc C.prog fn.params.toList s.vars apart W args.toList ds gs before →
      conds.all (PathCond.test C.prog ⟨fn.params.toList, ds, s.plain.varTypes C.prog, gs⟩) = true →
      (DataW.weightsEach C.prog (fn.params.toList ++ s.plain.varTypes C.prog) (ds ++ gs)).all (· ≤ reachBytes) = true → X W args → W.ShapedOpen C.prog →
      Calls C.prog f args W fun e W' => ∃ v, e = .returned v ∧ s.post enc C.prog fn apart fresh handsOn again W args v W') :
    ReturnsInHanded a C os f .any (fun w args => (s.pre enc C.prog fn conds apart w args ∧ X w args) ∧ sizedMet enc C.prog fn (OpenSpec.ofChange s) apart w args) (s.post enc C.prog fn apart fresh handsOn again) := by
  refine returnsInHanded_of_calls own started noInit witness ?_
  intro w tape i _ hsh _ hok hpre hholds
  obtain ⟨_, _, _, fn', hfn', _, _, _, _, hval⟩ := hok
  have e : fn' = fn := Option.some.inj (hfn'.symm.trans hfn)
  subst e
  obtain ⟨⟨⟨ds, gs, before, hw, hc⟩, hx⟩, hz⟩ := hpre
  have hw' := DataW.Whole.of_heap (w' := w.forCall tape i) (by rfl) hw
  refine (contract (w.forCall tape i) w.heap.size i.args ds gs before hval hw' hc (hz.weights hw) (hX _ _ _ (by rfl) hx) hsh).mono fun e W' ⟨v, he, hp⟩ => ?_
  subst he
  exact ChangeSpec.post_blind hp
theorem law_lifted_shaped {H : Type} {enc : TypeId × Value → H} {C : Checked} {os : Os} {f : FuncId} {fn : Func} {s : ChangeSpec} {tb : TypeId} {X : World → Prop}
    (hX : ∀ (w w' : World), w.heap = w'.heap → X w → X w')
    (own : ownKnob C.prog.godebug = none) (started : os.Started) (noInit : C.prog.inits.idxOf? f = none) (hfn : C.prog.funcs[f]? = some fn)
    (witness : ∃ (w : World) (tape : Tape) (i : Input), w.os = os ∧ (w.forCall tape i).Shaped C.prog ∧ i.vars = [] ∧ Input.okWide C.prog (w.forCall tape i) .any w.heap.size f i ∧
      ((s.pre enc C.prog fn [] false (w.forCall tape i).memory i.args ∧ X (w.forCall tape i).memory) ∧ sizedMet enc C.prog fn (OpenSpec.ofChange s) false (w.forCall tape i).memory i.args) ∧ ({} : Assume).holds C.prog (lone (Frame.enter C.prog f i.args .normal) [] (w.forCall tape i)))
    (hl : laidOutB C.prog = true) (hread : (fn.params.toList.all fun t => C.prog.readableRec t && decide (t < C.prog.types.size)) = true)
    (hvars : s.vars = []) (hres : fn.resultTypes = #[tb]) (htb : C.prog.underlying tb = some .bool)
    (hspec : ∀ ds : List (DataW H), ds.length = fn.params.toList.length → (s.fn H (ds ++ [])).results = [.lit (.bool true)] ∧ (s.fn H (ds ++ [])).args = ds ∧ (s.fn H (ds ++ [])).vars = [])
    (walk : ∀ (W : World) (base : Nat) (args : Array Value) (ds : List (DataW H)) (p : List MemPlace),
      (∀ (j : Nat) t v, fn.params[j]? = some t → args[j]? = some v → Value.okWide C.prog W .any base t v) →
      DataW.TrodAll enc C.prog W 0 (fun _ => true) true fn.params.toList args.toList ds p → (∀ x ∈ p, x.block < W.heap.size) →
      (DataW.weightsEach C.prog fn.params.toList ds).all (· ≤ reachBytes) = true → X W → W.ShapedOpen C.prog →
      Calls C.prog f args W fun e W' => e = .returned (.bool true) ∧ Below W.heap.size W W') :
    ReturnsInHanded {} C os f .any (fun w args => (s.pre enc C.prog fn [] false w args ∧ X w) ∧ sizedMet enc C.prog fn (OpenSpec.ofChange s) false w args) (s.post enc C.prog fn false true false false) := by
  refine change_and_shaped (C := C) (X := fun w _ => X w) (fun w w' _ hh h => hX w w' hh h) own started noInit hfn witness ?_
  intro W base args ds gs before hval hW _ hsz hXW hsh
  have hlt : ∀ x ∈ before, x.block < W.heap.size := fun x hx => hW.lt x hx
  have hW0 := hW
  obtain ⟨p, q, hA, hV, hpq, hz, hn⟩ := hW
  have hgs : gs = [] := by
    rw [hvars] at hV
    exact (trodVars_none hV).1
  have hq : q = [] := by
    rw [hvars] at hV
    exact (trodVars_none hV).2
  subst hgs; subst hq
  rw [List.append_nil] at hpq
  subst hpq
  have hty : s.plain.varTypes C.prog = [] := by
    have : s.plain.vars = [] := hvars
    unfold DataSpec.varTypes
    rw [this]; rfl
  rw [hty, List.append_nil, List.append_nil] at hsz
  refine (walk W base args ds before hval hA hlt hsz hXW hsh).mono fun e W' ⟨he, hb⟩ => ⟨_, he, ?_⟩
  refine law_post hW0 hl (fun t ht => ?_) hvars hres htb (hspec ds (length_of_trodAll hA)) hb
  have := List.all_eq_true.1 hread t ht
  simpa using this
end Go.Proofs.YtcnllohpkgmkpaaDoor.Frame
/- The door of the laws that read lists of numbers: seven variables are laid, a pinned table and two errors among them; the world's shape is handed over. -/
namespace Go.Proofs.YtcnllohpkgmkpaaDoor
open Go.ChangeShapes Go.WideShapes Go.ChangeAt Go.RowKit

abbrev laidT : List (String × DataW Unit) := [("math/bits.deBruijn32tab", Rows.laid_math_bits_deBruijn32tab), ("math/bits.deBruijn64tab", Rows.laid_math_bits_deBruijn64tab), ("internal/strconv.uint64pow10", Rows.laid_internal_strconv_uint64pow10), ("unicode/utf8.acceptRanges", Rows.laid_unicode_utf8_acceptRanges), ("strconv.ErrRange", Rows.laid_strconv_ErrRange), ("strconv.ErrSyntax", Rows.laid_strconv_ErrSyntax), ("unicode/utf8.first", Rows.laid_unicode_utf8_first)]
theorem tab_of_laidT {W : World} (h : laidMetH Tryd.prog laidT W) : ErrTab W := by
  rw [MakeChecks.laidMetH_plain _ _ _ (by kernel_rfl)] at h
  have h2 := h.tail.tail
  have h3 := h2.tail.tail
  have h4 := h3.tail
  rw [pow_data] at h2
  obtain ⟨a0, s0, hv0, -, -, -⟩ := laid_sentinel h3 (g := 4) (ti := 117) (tp := 189) (te := 191) (ts := 9) (by kernel_rfl) (by kernel_rfl) Tryd.underlying117 row_err Tryd.underlying189 Tryd.underlying191 rfl rfl Tryd.underlying9 (by kernel_rfl) (by kernel_rfl)
  obtain ⟨a1, s1, hv1, -, -, -⟩ := laid_sentinel h4 (g := 3) (ti := 117) (tp := 189) (te := 191) (ts := 9) (by kernel_rfl) (by kernel_rfl) Tryd.underlying117 row_err Tryd.underlying189 Tryd.underlying191 rfl rfl Tryd.underlying9 (by kernel_rfl) (by kernel_rfl)
  exact ⟨Lib.tabIs_of_head (g := 2) (t := 173) (e := 150) (n := 20) (by kernel_rfl) (by kernel_rfl) Tryd.underlying173 Tryd.underlying150 (by kernel_rfl) (by kernel_rfl) h2, ⟨_, _, hv1⟩, ⟨_, _, hv0⟩⟩
theorem laidT_met (os : Os) (args : Array Value) : laidMetH Tryd.prog laidT ((World.laidAll Tryd.prog os laidT).forCall (fun _ _ => 0) ⟨#[], args, []⟩).memory := by
  rw [MakeChecks.laidMetH_plain _ _ _ (by kernel_rfl)]
  exact laidMet_laidAll _ (by kernel_rfl) (by kernel_rfl)
end Go.Proofs.YtcnllohpkgmkpaaDoor
