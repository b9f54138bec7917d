/- A list of numbers that is read: the model. -/
import Derived.Test.YtcgdkjbbdpmmhaaDoorRl0
import Derived.Test.YtcgdkjbbdpmmhaaDoorRdS
import Derived.Test.YtcgdkjbbdpmmhaaDoorCut
namespace Go.Proofs.YtcgdkjbbdpmmhaaDoor
open Go.RowKit Go.ChangeShapes Go.WideShapes

theorem Tryd.infoRm : (Tryd.prog.info? 2).map (fun i => (i.zero, i.size, i.bytes)) = some (some (.int .i64 0), 1, 8) := by kernel_rfl
theorem Grows.strs2 {E B : Nat} {v : Value} {Z : List ByteArray} {w : World} (h : Grows Value.string E B v Z w) (hp : 0 < Z.length) :
    ∃ g cap, v = .slice (some ⟨g, 0, none⟩) Z.length cap ∧ B ≤ g ∧ ∀ i, i < Z.length → w.cell? ⟨g, i, none⟩ = some (.string (Z.getD i (bsOf []))) := by
  have hc := fun g hg => World.ownsRow.cells (g := g) h hg
  obtain ⟨-, ⟨-, h0⟩ | ⟨g, cap, cur, rfl, hB, hg, hn, hm, -, -⟩⟩ := h
  · omega
  · refine ⟨g, cap, rfl, hB, fun i hi => ?_⟩
    have h1 := hc g rfl i (.string (Z.getD i (bsOf []))) (by simp [List.getD, hi])
    rw [Addr.add_lit, Nat.zero_add] at h1
    exact h1
/-- A row stays where one of another type grows. -/
theorem Grows.other {α β : Type} {mk : α → Value} {mk2 : β → Value} {E1 E2 B1 B2 : Nat} {v1 v2 : Value} {Z1 : List α} {Z2 : List β} {w w' : World} (h1 : Grows mk E1 B1 v1 Z1 w) (h2 : Grows mk2 E2 B2 v2 Z2 w) (hE : E1 ≠ E2) (hg : w.grownBy w' v2.ownBlock) : Grows mk E1 B1 v1 Z1 w' := by
  refine ⟨h1.1, ?_⟩
  rcases h1.2 with h | ⟨g, cap, cur, rfl, hB, hgc, hr⟩
  · exact Or.inl h
  · refine Or.inr ⟨g, cap, cur, rfl, hB, (hg.block g (Array.getElem?_eq_some_iff.1 hgc).1 (fun e => ?_)).trans hgc, hr⟩
    rcases h2.2 with ⟨rfl, -⟩ | ⟨g2, cap2, cur2, rfl, hB2, hgc2, hr2⟩
    · cases e
    · cases e
      rw [hgc] at hgc2
      injection hgc2 with e2
      injection e2 with e3 e4 e5
      exact hE e4
set_option maxRecDepth 100000 in
set_option maxHeartbeats 4000000 in
theorem l01Numbers_any (s : ByteArray) (w : World) (hs : s.size ≤ 1048576) :
    Calls Tryd.prog 56 #[.string s] w (SaysJB (rlL s) (rlB s) w) := by
  obtain ⟨i0, hi, hz0, hz1, hz2⟩ := info_parts Tryd.infoRm
  have G0 := Lib.hid (Grows.empty (Value.int .i64) 2 w.heap.size w (Nat.le_refl _))
  have B0 := Lib.hid (below_alloc w (.cells #[] 2))
  by_cases h : s = noneS
  · have e1 : s.toList = [110, 111, 110, 101] := (none_iff _).2 h
    have e2 : (s.toList == [110, 111, 110, 101]) = true := by rw [beq_iff_eq]; exact e1
    have E1 := Lib.hid (rl_none h)
    clear h
    go_enter Tryd.func56, Tryd.ntmps56
    go_wp2_with fail
    go_ret2
    rw [E1.out.1, E1.out.2]
    exact ⟨_, rfl, SI.wide (G0.out).si (Nat.le_refl _) (Nat.le_refl _) (Nat.le_refl _), B0.out⟩
  · have e1 : ¬ s.toList = [110, 111, 110, 101] := fun q => h ((none_iff _).1 q)
    have e2 : (s.toList == [110, 111, 110, 101]) = false := by rw [beq_eq_false_iff_ne]; exact e1
    have CU : Hid (∀ W, Calls Tryd.prog 81 #[.string s, .int .u8 44] W (MadeT (ptY 44 s) W)) := Lib.hid (fun W => l01Cut_any s 44 W hs)
    have hple := ptY_le 44 s
    by_cases hl : (ptY 44 s).length ≤ 64
    · have HPL := Lib.hid hl
      have HNN := Lib.hid h
      obtain ⟨n, hn⟩ : ∃ n, n = (ptY 44 s).length := ⟨_, rfl⟩
      have hn0 : 0 < n := by rw [hn, ptY_len]; omega
      have hn64 : n ≤ 64 := by rw [hn]; exact hl
      have HN := Lib.hid hn
      have d1 : decide ((n : Int) > 64) = false := by simp; omega
      have L0 : Hid (rlK s 0 = []) := Lib.hid rfl
      clear h hl hn hple
      go_enter Tryd.func56, Tryd.ntmps56
      go_wp2_with fail
      go_at_call 81; refine (CU.out _).mono ?_; rintro e w2 ⟨v, rfl, hG, b2⟩
      obtain ⟨g, cap, rfl, -, -⟩ := Grows.strs2 hG (by rw [← HN.out]; exact hn0)
      obtain ⟨B, hB⟩ : ∃ B, B = (w.alloc (.cells #[] 2)).heap.size := ⟨_, rfl⟩
      have GS : Hid (Grows Value.string 9 B (.slice (some ⟨g, 0, none⟩) n cap) (ptY 44 s) w2) := Lib.hid (by rw [hB, HN.out]; exact hG)
      have B2 := Lib.hid (B0.out.trans (b2.mono (by simp)))
      have G2 := Lib.hid (G0.out.below b2 (Nat.le_refl _))
      rw [← HN.out]
      clear b2 hG G0 CU hB
      go_wp2_with fail
      go_loopg [4, 6, 7, 8] n (fun gk o i x y wr => x = x ∧ y = y ∧ ∃ k : Nat, k ≤ n ∧ gk + k = n ∧ i = .int .i64 k ∧ (∀ j, j < k → rdB (ptK s j).data.toList = true) ∧ Grows (Value.int .i64) 2 w.heap.size o (rlK s k) wr ∧ Grows Value.string 9 B (.slice (some ⟨g, 0, none⟩) n cap) (ptY 44 s) wr ∧ Below w.heap.size w wr)
      case atStart => exact ⟨rfl, rfl, 0, Nat.zero_le _, by omega, rfl, fun j hj => absurd hj (Nat.not_lt_zero _), by rw [L0.out]; exact G2.out, GS.out, B2.out⟩
      case round =>
        obtain ⟨-, -, k, hk, hgk, rfl, hall, hG, hGS, hB⟩ := hrel
        clear GS G2 B2 L0
        have HG := Lib.hid hG
        have HGS := Lib.hid hGS
        have HB := Lib.hid hB
        have HA := Lib.hid hall
        have HGK := Lib.hid hgk
        have hc : ∀ i, i < n → wr.cell? ⟨g, i, none⟩ = some (.string (ptK s i)) := fun i hi => by
          obtain ⟨g9, cap9, e9, -, hc⟩ := Grows.strs2 hGS (by rw [← HN.out]; exact hn0)
          injection e9 with e1
          injection e1 with e1
          injection e1 with e1
          rw [e1]
          exact hc i (by have := HN.out; omega)
        clear hG hGS hB hall hgk
        by_cases hlt : k < n
        · have c1 := hc k hlt
          have hys := ptY_size 44 s k
          have HLB := Lib.hid (fun (h2 : rdB (ptK s k).data.toList = false) => rl_bad HNN.out (by have := HN.out; omega) h2)
          have LV := Lib.hid (fun W => l01Value_any (ptK s k) W (Nat.le_trans hys hs))
          have HL1 := Lib.hid (rlK_succ s k)
          have hll : (rlK s k).length = k := rlK_len _ _
          have HM1 : Hid ((rlK s k).length + 1 ≤ maxLen) := Lib.hid (by unfold maxLen; omega)
          have HM2 : Hid (((rlK s k).length + 1) * 8 ≤ 140737488355328) := Lib.hid (by omega)
          have HT := Lib.hid (fun j (hj : j < k + 1) (hk : rdB (ptK s k).data.toList = true) => (show rdB (ptK s j).data.toList = true from by
            by_cases e : j = k
            · rw [e]; exact hk
            · exact HA.out j (by omega)))
          have c1 := hc k hlt
          unfold SaysRd at LV
          generalize ptK s k = y at *
          generalize rdN y.data.toList = z at *
          generalize hq : rdB y.data.toList = q at *
          clear hc hll hys HA
          cases q with
          | false =>
            have HLL := Lib.hid (HLB.out rfl)
            clear HLB HT hq
            go_wp2_with fail
            go_at_call 88; refine (LV.out _).mono ?_; rintro e w3 ⟨rfl, b3⟩
            have B3 := Lib.hid (HB.out.trans (b3.mono HB.out.size))
            clear b3
            go_wp2_with fail
            go_ret2
            rw [HLL.out.1, HLL.out.2]
            exact ⟨_, rfl, SI.nil _ (Nat.le_refl _) _ _, B3.out⟩
          | true =>
            have HTT := Lib.hid (fun j hj => HT.out j hj rfl)
            clear HLB HT hq
            go_wp2_with fail
            go_at_call 88; refine (LV.out _).mono ?_; rintro e w3 ⟨rfl, b3⟩
            have B3 := Lib.hid (HB.out.trans (b3.mono HB.out.size))
            have G3 := Lib.hid (HG.out.below b3 (Nat.le_refl _))
            have S3 := Lib.hid (HGS.out.below b3 (Nat.le_refl _))
            clear b3 c1
            go_wp2_with (at_builtin; refine wpList_append_own _ rfl _ _ 45 rfl w.heap.size 2 i0 (.int .i64 0) 1 8 Tryd.underlying45 hi hz0 hz1 hz2 rfl (by decide) _ _ _ rfl (Grows.alloc G3.out _) ⟨w3.heap.size, 0, none⟩ 1 1 [.int .i64 z] rfl rfl ?c1 ?c2 ?c3 ?c4 ?c5 ?_)
            case c1 => exact one_new
            case c2 => intro u hu; simp at hu; subst hu; rfl
            case c3 => exact HM1.out
            case c4 => exact HM2.out
            case c5 => have := B3.out.size; simp; omega
            intro v' w' hown hgrow _
            have GN : Hid (Grows (Value.int .i64) 2 w.heap.size v' (rlK s (k + 1)) w') := Lib.hid (by rw [HL1.out]; exact Grows.more (news := [z]) rfl hown)
            have BN : Hid (Below w.heap.size w w') := Lib.hid ((B3.out.alloc B3.out.size _).grown hgrow (by have := B3.out.size; simp; omega) (fun g hg => G3.out.block g hg))
            have SN := Lib.hid (Grows.other (S3.out.alloc _) (G3.out.alloc _) (by decide) hgrow)
            clear hown hgrow
            go_wp2_with fail
            go_roundg (gk - 1)
            case measure => have := HGK.out; omega
            case rel => exact ⟨trivial, trivial, k + 1, by omega, by have := HGK.out; omega, by go_num, HTT.out, GN.out, SN.out, BN.out⟩
        · obtain rfl : k = n := by omega
          have HRK := Lib.hid (rl_good HNN.out HPL.out (by rw [← HN.out]; exact HA.out))
          clear hc
          go_wp2_with fail
          go_ret2
          rw [HRK.out.1, HRK.out.2, ← HN.out]
          exact ⟨_, rfl, SI.wide HG.out.si (Nat.le_refl _) (Nat.le_refl _) (Nat.le_refl _), HB.out⟩
    · have E1 := Lib.hid (rl_long h (by omega))
      have hl2 : 64 < (ptY 44 s).length := by omega
      obtain ⟨n, hn⟩ : ∃ n, n = (ptY 44 s).length := ⟨_, rfl⟩
      rw [← hn] at hl2 hple
      have HN := Lib.hid hn
      have d1 : decide ((n : Int) > 64) = true := by simp; omega
      clear h hl hn
      go_enter Tryd.func56, Tryd.ntmps56
      go_wp2_with fail
      go_at_call 81; refine (CU.out _).mono ?_; rintro e w2 ⟨v, rfl, hG, b2⟩
      obtain ⟨g, cap, rfl, -, -⟩ := Grows.strs2 hG (by rw [← HN.out]; omega)
      rw [← HN.out]
      have B2 := Lib.hid (B0.out.trans (b2.mono (by simp)))
      clear b2 hG G0 CU
      go_wp2_with fail
      go_ret2
      rw [E1.out.1, E1.out.2]
      exact ⟨_, rfl, SI.nil _ (Nat.le_refl _) _ _, B2.out⟩
theorem specReadList_any (s : ByteArray) (w : World) (hs : s.size ≤ 1048576) :
    Calls Tryd.prog 27 #[.string s] w (SaysJB (rlL s) (rlB s) w) := by
  have HH := Lib.hid (l01Numbers_any s w hs)
  go_enter Tryd.func27, Tryd.ntmps27
  go_wp2_with fail
  go_at_call 56; refine HH.out.mono ?_; rintro e w2 ⟨v, rfl, i2, b2⟩
  have I2 := Lib.hid i2
  have B2 := Lib.hid b2
  clear i2 b2
  go_wp2_with fail
  go_ret2
  exact ⟨_, rfl, I2.out, B2.out⟩
end Go.Proofs.YtcgdkjbbdpmmhaaDoor
