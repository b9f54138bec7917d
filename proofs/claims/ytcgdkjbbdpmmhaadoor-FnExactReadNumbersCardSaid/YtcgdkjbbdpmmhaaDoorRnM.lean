/- A list of numbers with digits of bits that is read: the model. -/
import Derived.Test.YtcgdkjbbdpmmhaaDoorRn0
import Derived.Test.YtcgdkjbbdpmmhaaDoorFb4
import Derived.Test.YtcgdkjbbdpmmhaaDoorHxI
import Derived.Test.YtcgdkjbbdpmmhaaDoorGs2
namespace Go.Proofs.YtcgdkjbbdpmmhaaDoor
open Go.RowKit Go.ChangeShapes Go.WideShapes

theorem Tryd.infoRnm : (Tryd.prog.info? 67).map (fun i => (i.zero, i.size, i.bytes)) = some (some (.float .f32 0), 1, 4) := by kernel_rfl
set_option maxRecDepth 100000 in
set_option maxHeartbeats 4000000 in
theorem l01NRead_any (s : ByteArray) (w : World) (hs : s.size ≤ 1048576) :
    Calls Tryd.prog 53 #[.string s] w (SaysNB (rnL s) (rnB s) w) := by
  obtain ⟨i0, hi, hz0, hz1, hz2⟩ := info_parts Tryd.infoRnm
  have G0 := Lib.hid (Grows.empty (Value.float .f32) 67 w.heap.size w (Nat.le_refl _))
  have B0 := Lib.hid (below_alloc w (.cells #[] 67))
  by_cases h : s = noneS
  · have e1 : s.toList = [110, 111, 110, 101] := (none_iff _).2 h
    have e2 : (s.toList == [110, 111, 110, 101]) = true := by rw [beq_iff_eq]; exact e1
    have E1 := Lib.hid (rn_none h)
    clear h
    go_enter Tryd.func53, Tryd.ntmps53
    go_wp2_with fail
    go_ret2
    rw [E1.out.1, E1.out.2]
    exact ⟨_, rfl, SI.wide (G0.out).si (Nat.le_refl _) (Nat.le_refl _) (Nat.le_refl _), B0.out⟩
  · have e1 : ¬ s.toList = [110, 111, 110, 101] := fun q => h ((none_iff _).1 q)
    have e2 : (s.toList == [110, 111, 110, 101]) = false := by rw [beq_eq_false_iff_ne]; exact e1
    have CU : Hid (∀ W, Calls Tryd.prog 81 #[.string s, .int .u8 44] W (MadeT (ptY 44 s) W)) := Lib.hid (fun W => l01Cut_any s 44 W hs)
    have hple := ptY_le 44 s
    by_cases hl : (ptY 44 s).length ≤ 256
    · have HPL := Lib.hid hl
      have HNN := Lib.hid h
      obtain ⟨n, hn⟩ : ∃ n, n = (ptY 44 s).length := ⟨_, rfl⟩
      have hn0 : 0 < n := by rw [hn, ptY_len]; omega
      have hn256 : n ≤ 256 := by rw [hn]; exact hl
      have HN := Lib.hid hn
      have d1 : decide ((n : Int) > 256) = false := by simp; omega
      have L0 : Hid (rnK s 0 = []) := Lib.hid rfl
      clear h hl hn hple
      go_enter Tryd.func53, Tryd.ntmps53
      go_wp2_with fail
      go_at_call 81; refine (CU.out _).mono ?_; rintro e w2 ⟨v, rfl, hG, b2⟩
      obtain ⟨g, cap, rfl, -, -⟩ := Grows.strs2 hG (by rw [← HN.out]; exact hn0)
      obtain ⟨B, hB⟩ : ∃ B, B = (w.alloc (.cells #[] 67)).heap.size := ⟨_, rfl⟩
      have GS : Hid (Grows Value.string 9 B (.slice (some ⟨g, 0, none⟩) n cap) (ptY 44 s) w2) := Lib.hid (by rw [hB, HN.out]; exact hG)
      have B2 := Lib.hid (B0.out.trans (b2.mono (by simp)))
      have G2 := Lib.hid (G0.out.below b2 (Nat.le_refl _))
      rw [← HN.out]
      clear b2 hG G0 CU hB
      go_wp2_with fail
      go_loopg [4, 6, 7, 8, 9, 10, 11] n (fun gk o i _ _ _ _ _ wr => ∃ k : Nat, k ≤ n ∧ gk + k = n ∧ i = .int .i64 k ∧ (∀ j, j < k → hxOk (ptK s j).data.toList = true) ∧ Grows (Value.float .f32) 67 w.heap.size o (rnK s k) wr ∧ Grows Value.string 9 B (.slice (some ⟨g, 0, none⟩) n cap) (ptY 44 s) wr ∧ Below w.heap.size w wr)
      case atStart => exact ⟨0, Nat.zero_le _, by omega, rfl, fun j hj => absurd hj (Nat.not_lt_zero _), by rw [L0.out]; exact G2.out, GS.out, B2.out⟩
      case round =>
        obtain ⟨k, hk, hgk, rfl, hall, hG, hGS, hB⟩ := hrel
        clear GS G2 B2 L0
        have HG := Lib.hid hG
        have HGS := Lib.hid hGS
        have HB := Lib.hid hB
        have HA := Lib.hid hall
        have HGK := Lib.hid hgk
        have hc : ∀ i, i < n → wr.cell? ⟨g, i, none⟩ = some (.string (ptK s i)) := fun i hi => by
          obtain ⟨g9, cap9, e9, -, hc⟩ := Grows.strs2 hGS (by rw [← HN.out]; exact hn0)
          injection e9 with e1
          injection e1 with e1
          injection e1 with e1
          rw [e1]
          exact hc i (by have := HN.out; omega)
        clear hG hGS hB hall hgk
        by_cases hlt : k < n
        · have c1 := hc k hlt
          have hys := ptY_size 44 s k
          have HLB := Lib.hid (fun (h2 : hxOk (ptK s k).data.toList = false) => rn_bad HNN.out (by have := HN.out; omega) h2)
          have HL1 := Lib.hid (rnK_succ s k)
          have hll : (rnK s k).length = k := rnK_len _ _
          have HM1 : Hid ((rnK s k).length + 1 ≤ maxLen) := Lib.hid (by unfold maxLen; omega)
          have HM2 : Hid (((rnK s k).length + 1) * 4 ≤ 140737488355328) := Lib.hid (by omega)
          have HT := Lib.hid (fun j (hj : j < k + 1) (hk : hxOk (ptK s k).data.toList = true) => (show hxOk (ptK s j).data.toList = true from by
            by_cases e : j = k
            · rw [e]; exact hk
            · exact HA.out j (by omega)))
          obtain ⟨y, hy⟩ : ∃ y, ptK s k = y := ⟨_, rfl⟩
          rw [hy] at c1 HLB HL1 HT
          clear hy hc hll hys HA
          have hsz : y.data.toList.length = y.size := Array.length_toList
          have HHL := Lib.hid (fun h => hx_len (S := y.data.toList) h)
          have HGD := Lib.hid (fun h1 h2 h3 => hx_good (S := y.data.toList) h1 h2 h3)
          have HTD := Lib.hid (fun h3 => hx_told (S := y.data.toList) h3)
          have HBD := Lib.hid (fun j (hk : j < y.size) (h : hxB (y[j]'hk) = false) => hx_bad (S := y.data.toList) (k := j) (Nat.lt_of_lt_of_eq hk Array.length_toList.symm) h)
          have HBN := Lib.hid (hxN_bound y.data.toList)
          have HTK := Lib.hid (fun j (hk : j < y.size) => (hxN_take (S := y.data.toList) (k := j) (Nat.lt_of_lt_of_eq hk Array.length_toList.symm)))
          have HN8 := Lib.hid (fun h => hxN_8 (S := y.data.toList) h)
          have L1 : Hid (hxN (y.data.toList.take 0) = 0) := Lib.hid rfl
          by_cases h8 : y.size = 8
          · have H8 := Lib.hid h8
            have HSZ := Lib.hid hsz
            have d8 : ((y.size : Int) == 8) = true := by rw [beq_iff_eq]; omega
            clear h8 hsz
            obtain ⟨wo, rfl⟩ : ∃ x : World, x = wr := ⟨_, rfl⟩
            obtain ⟨g2, rfl⟩ : ∃ x : Nat, x = gk := ⟨_, rfl⟩
            go_wp2_with fail
            clear d8
            go_loopg [7, 8, 9, 10] 8 (fun gk nv kv _ _ wr => ∃ j : Nat, j ≤ 8 ∧ gk + j = 8 ∧ kv = .int .i64 j ∧ nv = .int .i64 ((hxN (y.data.toList.take j) : Nat) : Int) ∧ wo = wr ∧ Hid (∀ i (hi : i < y.size), i < j → hxB (y[i]'hi) = true))
            case atStart => exact ⟨0, Nat.zero_le _, by omega, rfl, by rw [L1.out]; rfl, rfl, Lib.hid fun i hi h => absurd h (Nat.not_lt_zero _)⟩
            case round =>
              obtain ⟨j, hj, hgj, rfl, rfl, rfl, hok⟩ := hrel
              have HGJ := Lib.hid hgj
              clear hgj
              by_cases hj8 : j < 8
              · have hjy : j < y.size := by have := H8.out; omega
                have hb := HBN.out j
                have hv := hxV_le (y[j]'hjy)
                have HT2 : Hid (hxN (y.data.toList.take (j + 1)) = 16 * hxN (y.data.toList.take j) + hxV (y[j]'hjy)) := Lib.hid (HTK.out j hjy)
                have hb2 : hxN (y.data.toList.take j) < 268435456 := Nat.lt_of_lt_of_le hb (Nat.le_trans (Nat.pow_le_pow_right (by omega) (show j ≤ 7 by omega)) (by decide))
                have hc9 : (y[j]'hjy).toNat < 256 := UInt8.toNat_lt _
                clear hb
                generalize hxN (y.data.toList.take j) = a at *
                by_cases h1 : 48 ≤ (y[j]'hjy).toNat ∧ (y[j]'hjy).toNat ≤ 57
                · obtain ⟨e1, e2⟩ := hxB_digit h1
                  have E1 := Lib.hid e1
                  rw [e2] at HT2
                  clear e1 e2 hv
                  obtain ⟨q1, q2⟩ := h1
                  have HT3 : Hid (((hxN (y.data.toList.take (j + 1)) : Nat) : Int) = 16 * (a : Int) + (((y[j]'hjy).toNat : Int) - 48)) := Lib.hid (by rw [HT2.out]; omega)
                  have w0 : IntKind.u8.wrap (((y[j]'hjy).toNat : Int) - 48) = ((y[j]'hjy).toNat : Int) - 48 := by rw [IntKind.wrap_u8]; omega
                  have w1 : IntKind.i64.wrap (((y[j]'hjy).toNat : Int) - 48) = ((y[j]'hjy).toNat : Int) - 48 := by rw [IntKind.wrap_i64]; omega
                  have w2 : IntKind.i64.wrap (16 * (a : Int)) = 16 * (a : Int) := by rw [IntKind.wrap_i64]; omega
                  have w3 : IntKind.i64.wrap (16 * (a : Int) + (((y[j]'hjy).toNat : Int) - 48)) = 16 * (a : Int) + (((y[j]'hjy).toNat : Int) - 48) := by rw [IntKind.wrap_i64]; omega
                  have d1 : decide (((y[j]'hjy).toNat : Int) ≥ 48) = true := by simp; omega
                  have d2 : decide (((y[j]'hjy).toNat : Int) ≤ 57) = true := by simp; omega
                  have d3 : decide (((y[j]'hjy).toNat : Int) ≥ 97) = false := by simp; omega
                  have d4 : decide (((y[j]'hjy).toNat : Int) - 48 < 0) = false := by simp; omega
                  go_wp2_with fail
                  go_roundg (gk - 1)
                  case measure => have := HGJ.out; omega
                  case rel => exact ⟨j + 1, by omega, by have := HGJ.out; omega, by go_num, by rw [HT3.out], rfl, Lib.hid fun i hi h => by
                    by_cases e : i = j
                    · subst e; exact E1.out
                    · exact hok.out i hi (by omega)⟩
                · by_cases h2 : 97 ≤ (y[j]'hjy).toNat ∧ (y[j]'hjy).toNat ≤ 102
                  · obtain ⟨e1, e2⟩ := hxB_letter h2
                    have E1 := Lib.hid e1
                    rw [e2] at HT2
                    clear e1 e2 hv h1
                    obtain ⟨q1, q2⟩ := h2
                    have HT3 : Hid (((hxN (y.data.toList.take (j + 1)) : Nat) : Int) = 16 * (a : Int) + (((y[j]'hjy).toNat : Int) - 97 + 10)) := Lib.hid (by rw [HT2.out]; omega)
                    have w0 : IntKind.u8.wrap (((y[j]'hjy).toNat : Int) - 97) = ((y[j]'hjy).toNat : Int) - 97 := by rw [IntKind.wrap_u8]; omega
                    have w1 : IntKind.i64.wrap (((y[j]'hjy).toNat : Int) - 97) = ((y[j]'hjy).toNat : Int) - 97 := by rw [IntKind.wrap_i64]; omega
                    have w4 : IntKind.i64.wrap (((y[j]'hjy).toNat : Int) - 97 + 10) = ((y[j]'hjy).toNat : Int) - 97 + 10 := by rw [IntKind.wrap_i64]; omega
                    have w2 : IntKind.i64.wrap (16 * (a : Int)) = 16 * (a : Int) := by rw [IntKind.wrap_i64]; omega
                    have w3 : IntKind.i64.wrap (16 * (a : Int) + (((y[j]'hjy).toNat : Int) - 97 + 10)) = 16 * (a : Int) + (((y[j]'hjy).toNat : Int) - 97 + 10) := by rw [IntKind.wrap_i64]; omega
                    have d1 : decide (((y[j]'hjy).toNat : Int) ≥ 48) = true := by simp; omega
                    have d2 : decide (((y[j]'hjy).toNat : Int) ≤ 57) = false := by simp; omega
                    have d3 : decide (((y[j]'hjy).toNat : Int) ≥ 97) = true := by simp; omega
                    have d5 : decide (((y[j]'hjy).toNat : Int) ≤ 102) = true := by simp; omega
                    have d4 : decide (((y[j]'hjy).toNat : Int) - 97 + 10 < 0) = false := by simp; omega
                    go_wp2_with fail
                    go_roundg (gk - 1)
                    case measure => have := HGJ.out; omega
                    case rel => exact ⟨j + 1, by omega, by have := HGJ.out; omega, by go_num, by rw [HT3.out], rfl, Lib.hid fun i hi h => by
                      by_cases e : i = j
                      · subst e; exact E1.out
                      · exact hok.out i hi (by omega)⟩
                  · have hq := (hxB_other h1 h2).1
                    have HLL := Lib.hid (HLB.out (HBD.out j hjy hq))
                    clear hq hv HT2
                    have h3 : (y[j]'hjy).toNat < 48 ∨ (57 < (y[j]'hjy).toNat ∧ (y[j]'hjy).toNat < 97) ∨ 102 < (y[j]'hjy).toNat := by omega
                    clear h1 h2
                    rcases h3 with h3 | ⟨h3, h4⟩ | h3
                    · have d1 : decide (((y[j]'hjy).toNat : Int) ≥ 48) = false := by simp; omega
                      have d3 : decide (((y[j]'hjy).toNat : Int) ≥ 97) = false := by simp; omega
                      go_wp2_with fail
                      go_ret2
                      rw [HLL.out.1, HLL.out.2]
                      exact ⟨_, rfl, SI.nil _ (Nat.le_refl _) _ _, HB.out⟩
                    · have d1 : decide (((y[j]'hjy).toNat : Int) ≥ 48) = true := by simp; omega
                      have d2 : decide (((y[j]'hjy).toNat : Int) ≤ 57) = false := by simp; omega
                      have d3 : decide (((y[j]'hjy).toNat : Int) ≥ 97) = false := by simp; omega
                      go_wp2_with fail
                      go_ret2
                      rw [HLL.out.1, HLL.out.2]
                      exact ⟨_, rfl, SI.nil _ (Nat.le_refl _) _ _, HB.out⟩
                    · have d1 : decide (((y[j]'hjy).toNat : Int) ≥ 48) = true := by simp; omega
                      have d2 : decide (((y[j]'hjy).toNat : Int) ≤ 57) = false := by simp; omega
                      have d3 : decide (((y[j]'hjy).toNat : Int) ≥ 97) = true := by simp; omega
                      have d5 : decide (((y[j]'hjy).toNat : Int) ≤ 102) = false := by simp; omega
                      go_wp2_with fail
                      go_ret2
                      rw [HLL.out.1, HLL.out.2]
                      exact ⟨_, rfl, SI.nil _ (Nat.le_refl _) _ _, HB.out⟩
              · obtain rfl : j = 8 := by omega
                have HFU : Hid (hxN (y.data.toList.take 8) = hxN y.data.toList) := Lib.hid (by rw [List.take_of_length_le (by rw [HSZ.out, H8.out]; exact Nat.le_refl _)])
                rw [HFU.out]
                have hlt8 := HN8.out (by rw [HSZ.out]; exact H8.out)
                have FR := Lib.hid (fun W => l01From_any (hxN y.data.toList) (by omega) W)
                have BO := Lib.hid (fun W => specBits_any (hxN y.data.toList) hlt8 W)
                by_cases hq : Fl.told (hxN y.data.toList) = hxN y.data.toList
                · have HG2 := Lib.hid (HGD.out (by rw [HSZ.out]; exact H8.out) (fun i hi => hok.out i (by have := HSZ.out; omega) (by have := HSZ.out; have := H8.out; omega)) hq)
                  rw [hq] at BO
                  have HTT := Lib.hid (fun j hj => HT.out j hj HG2.out.1)
                  rw [HG2.out.2] at HL1
                  generalize hxN y.data.toList = z at *
                  clear hq HLB HT
                  go_wp2_with (first
                    | (go_at_call 82; refine (FR.out _).mono ?_; rintro e w' ⟨rfl, rfl⟩)
                    | (go_at_call 83; refine (BO.out _).mono ?_; rintro e w' ⟨rfl, rfl⟩)
                    | (at_builtin; refine wpList_append_own _ rfl _ _ 28 rfl w.heap.size 67 i0 (.float .f32 0) 1 4 Tryd.underlying28 hi hz0 hz1 hz2 rfl (by decide) _ _ _ rfl (Grows.alloc HG.out _) ⟨wo.heap.size, 0, none⟩ 1 1 [.float .f32 z] rfl rfl ?c1 ?c2 ?c3 ?c4 ?c5 ?_))
                  case c1 => exact one_new
                  case c2 => intro u hu; simp at hu; subst hu; rfl
                  case c3 => exact HM1.out
                  case c4 => exact HM2.out
                  case c5 => have := HB.out.size; simp; omega
                  intro v' w' hown hgrow _
                  have GN : Hid (Grows (Value.float .f32) 67 w.heap.size v' (rnK s (k + 1)) w') := Lib.hid (by rw [HL1.out]; exact Grows.more (news := [z]) rfl hown)
                  have BN : Hid (Below w.heap.size w w') := Lib.hid ((HB.out.alloc HB.out.size _).grown hgrow (by have := HB.out.size; simp; omega) (fun g hg => HG.out.block g hg))
                  have SN := Lib.hid (Grows.other (HGS.out.alloc _) (HG.out.alloc _) (by decide) hgrow)
                  clear hown hgrow c1
                  go_wp2_with fail
                  go_roundg (g2 - 1)
                  case measure => have := HGK.out; omega
                  case rel => exact ⟨k + 1, by omega, by have := HGK.out; omega, by go_num, HTT.out, GN.out, SN.out, BN.out⟩
                · have HF := Lib.hid (HLB.out (HTD.out hq))
                  generalize hxN y.data.toList = a at *
                  generalize ht : Fl.told a = t at *
                  have d3 : ((t : Int) == (a : Int)) = false := by rw [beq_eq_false_iff_ne]; omega
                  clear hq ht
                  go_wp2_with (first
                    | (go_at_call 82; refine (FR.out _).mono ?_; rintro e w' ⟨rfl, rfl⟩)
                    | (go_at_call 83; refine (BO.out _).mono ?_; rintro e w' ⟨rfl, rfl⟩))
                  go_ret2
                  rw [HF.out.1, HF.out.2]
                  exact ⟨_, rfl, SI.nil _ (Nat.le_refl _) _ _, HB.out⟩
          · have HLL := Lib.hid (HLB.out (HHL.out (by omega)))
            have d8 : ((y.size : Int) == 8) = false := by rw [beq_eq_false_iff_ne]; omega
            clear h8 hsz
            go_wp2_with fail
            go_ret2
            rw [HLL.out.1, HLL.out.2]
            exact ⟨_, rfl, SI.nil _ (Nat.le_refl _) _ _, HB.out⟩
        · obtain rfl : k = n := by omega
          have HRK := Lib.hid (rn_good HNN.out HPL.out (by rw [← HN.out]; exact HA.out))
          clear hc
          go_wp2_with fail
          go_ret2
          rw [HRK.out.1, HRK.out.2, ← HN.out]
          exact ⟨_, rfl, SI.wide HG.out.si (Nat.le_refl _) (Nat.le_refl _) (Nat.le_refl _), HB.out⟩
    · have E1 := Lib.hid (rn_long h (by omega))
      have hl2 : 256 < (ptY 44 s).length := by omega
      obtain ⟨n, hn⟩ : ∃ n, n = (ptY 44 s).length := ⟨_, rfl⟩
      rw [← hn] at hl2 hple
      have HN := Lib.hid hn
      have d1 : decide ((n : Int) > 256) = true := by simp; omega
      clear h hl hn
      go_enter Tryd.func53, Tryd.ntmps53
      go_wp2_with fail
      go_at_call 81; refine (CU.out _).mono ?_; rintro e w2 ⟨v, rfl, hG, b2⟩
      obtain ⟨g, cap, rfl, -, -⟩ := Grows.strs2 hG (by rw [← HN.out]; omega)
      rw [← HN.out]
      have B2 := Lib.hid (B0.out.trans (b2.mono (by simp)))
      clear b2 hG G0 CU
      go_wp2_with fail
      go_ret2
      rw [E1.out.1, E1.out.2]
      exact ⟨_, rfl, SI.nil _ (Nat.le_refl _) _ _, B2.out⟩
theorem specReadNumbers_any (s : ByteArray) (w : World) (hs : s.size ≤ 1048576) :
    Calls Tryd.prog 23 #[.string s] w (SaysNB (rnL s) (rnB s) w) := by
  have HH := Lib.hid (l01NRead_any s w hs)
  go_enter Tryd.func23, Tryd.ntmps23
  go_wp2_with fail
  go_at_call 53; refine HH.out.mono ?_; rintro e w2 ⟨v, rfl, i2, b2⟩
  have I2 := Lib.hid i2
  have B2 := Lib.hid b2
  clear i2 b2
  go_wp2_with fail
  go_ret2
  exact ⟨_, rfl, I2.out, B2.out⟩
end Go.Proofs.YtcgdkjbbdpmmhaaDoor
