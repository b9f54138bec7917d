/- The ends of a tree: the program. -/
import Derived.Test.YtmkbjkjgemipcaaChP
import Derived.Test.YtmkbjkjgemipcaaTrI
namespace Go.Proofs.Ytmkbjkjgemipcaa
open Go.RowKit Go.ChangeShapes Go.WideShapes

theorem implValidTree_is (t : Bool) (v : Value) (T : Tr) (w : World) (hv : TrV w v T) (o : OKTr T) (ht : treeB T.P T.V = t) :
    Calls Try.prog 22 #[v] w (Says t w) := by subst ht; exact implValidTree_any v T w hv o
set_option maxRecDepth 100000 in
set_option maxHeartbeats 4000000 in
theorem implLv_yes (v : Value) (T : Tr) (w : World) (hv : TrV w v T) (o : OKTr T) (h : treeB T.P T.V = true) :
    Calls Try.prog 27 #[v] w (SaysJB (lvL T.P T.V) true w) := by
  obtain ⟨i0, hi, hz0, hz1, hz2⟩ := info_parts Try.infoI
  obtain ⟨P, V⟩ := T
  have O := Lib.hid o
  have H := Lib.hid h
  have HT := Lib.hid (treeB_ok h)
  have n1 := HT.out.l1
  have n2 := HT.out.l2
  have HLE := Lib.hid (lvL_yes h)
  have HLN := Lib.hid (fun k => lvN_len P k)
  simp only at n1 n2 HLE HLN ⊢
  obtain ⟨s1, s2, rfl, g1, g2⟩ := hv
  simp only at g1 g2
  have HB := Lib.hid (below_alloc w (.cells #[s1, s2] 32))
  have X0 := Lib.hid (Box2.mk' w s1 s2 32)
  have G1 := Lib.hid g1
  have G2 := Lib.hid g2
  have HV : Hid (∀ X, Below w.heap.size w X → TrV X (.agg #[s1, s2]) ⟨P, V⟩) := Lib.hid fun X hb => ⟨_, _, rfl, G1.out.below hb (Nat.le_refl _), G2.out.below hb (Nat.le_refl _)⟩
  clear g1 g2 h o
  go_enter Try.func27, Try.ntmps27
  go_wp2_with fail
  go_at_call 22; refine (implValidTree_is true _ ⟨P, V⟩ _ (HV.out _ HB.out) O.out H.out).mono ?_; rintro e w1 ⟨rfl, b1⟩
  have B1 := Lib.hid (HB.out.trans (b1.mono HB.out.size))
  have X1 := Lib.hid (X0.out.keep b1 X0.out.lt)
  clear b1
  obtain ⟨c0, c1⟩ := X1.out
  go_wp2_with fail
  go_at_call 72; refine (childrenIn_any _ ⟨P, V⟩ _ (HV.out _ B1.out) HT.out).mono ?_; rintro e w2 ⟨B, E, lo, U, rfl, hK⟩
  have HK := Lib.hid hK
  have hBz : B < w2.heap.size := by have := hK.grid.blo; have := hK.grid.lt; omega
  have B2 := Lib.hid (B1.out.trans (hK.grid.below.mono B1.out.size))
  have HN := Lib.hid (Grows.nil (Value.int .i64) 2 w2.heap.size w2)
  clear hK c0 c1
  simp only
  go_wp2_with fail
  go_loopg [6, 19] P.length (fun gk s i wr => ∃ k : Nat, k ≤ P.length ∧ gk + k = P.length ∧ i = .int .i64 k ∧ Below w2.heap.size w2 wr ∧ Grows (Value.int .i64) 2 w2.heap.size s (lvN P k) wr)
  case atStart => exact ⟨0, Nat.zero_le _, by omega, rfl, Below.refl _ _, HN.out⟩
  case round =>
    obtain ⟨k, hk, hgk, rfl, hB, hG⟩ := hrel
    have HBR := Lib.hid hB
    have HG := Lib.hid hG
    by_cases hlt : k < P.length
    · have hK2 := HK.out.keep hB
      have cB := hK2.grid.cell k hlt
      obtain ⟨ua, uc, hu⟩ := SI.len (Grows.si (d := (0 : Int)) (hK2.grid.row k hlt))
      rw [hu] at cB
      have HLC : Hid ((chL P k).length ≤ 64) := Lib.hid (Nat.le_trans (chN_len P k _) n2)
      cases hq : noKid P k with
      | true =>
        have hl : (chL P k).length = 0 := by simpa [noKid] using hq
        have HN2 := Lib.hid (lvN_yes hq)
        rw [hl] at cB
        clear hB hG hK2 hq hl hu
        go_wp2_with (at_builtin; refine wpList_append_own _ rfl _ _ 27 rfl w2.heap.size 2 i0 (.int .i64 0) 1 8 Try.underlying27 hi hz0 hz1 hz2 rfl (by decide) _ _ _ rfl (Grows.alloc HG.out _) ⟨wr.heap.size, 0, none⟩ 1 1 [.int .i64 (k : Int)] rfl rfl ?c1 ?c2 ?c3 ?c4 ?c5 ?_)
        case c1 => exact one_new
        case c2 => intro u hu; simp at hu; subst hu; rfl
        case c3 => have := HLN.out k; unfold maxLen; omega
        case c4 => have := HLN.out k; omega
        case c5 => have := HBR.out.size; simp; omega
        intro v' w' hown hgrow _
        have HN3 : Hid (Below w2.heap.size w2 w' ∧ Grows (Value.int .i64) 2 w2.heap.size v' (lvN P (k + 1)) w') := Lib.hid ⟨(HBR.out.alloc HBR.out.size _).grown hgrow (by have := HBR.out.size; simp; omega) (fun g hg => HG.out.block g hg), by rw [HN2.out]; exact Grows.more (news := [(k : Int)]) rfl hown⟩
        clear hown hgrow
        go_wp2_with fail
        go_roundg (gk - 1)
        case measure => omega
        case rel => exact ⟨k + 1, by omega, by omega, by go_num, HN3.out.1, HN3.out.2⟩
      | false =>
        have hl : (chL P k).length ≠ 0 := by simpa [noKid] using hq
        have HN2 := Lib.hid (lvN_no hq)
        obtain ⟨q, hq2⟩ : ∃ q, q = (chL P k).length := ⟨_, rfl⟩
        rw [← hq2] at hl cB
        have hl2 : ((q : Int) == 0) = false := by simpa using hl
        have hl3 : ¬ (q : Int) = 0 := by omega
        clear hB hG hK2 hq hq2 hl hu
        go_wp2_with fail
        go_roundg (gk - 1)
        case measure => omega
        case rel => exact ⟨k + 1, by omega, by omega, by go_num, HBR.out, by rw [HN2.out]; exact HG.out⟩
    · obtain rfl : k = P.length := by omega
      have HR := Lib.hid (hG.si (d := (0 : Int)))
      clear hB hG
      obtain ⟨sx, sk, rfl⟩ := HR.out.len
      go_wp2_with fail
      refine bodyPost_ret (v := .tuple #[.slice sx (lvN P P.length).length sk, .bool true]) (by simp [results, Try.results27, go_sem]) rfl ?_
      rw [HLE.out]
      exact ⟨_, rfl, SI.wide HR.out (lo' := w.heap.size) B2.out.size (Nat.le_refl _) (Nat.le_refl _), B2.out.trans (HBR.out.mono B2.out.size)⟩
theorem implLeavesOf_any (v : Value) (T : Tr) (w : World) (hv : TrV w v T) (o : OKTr T) :
    Calls Try.prog 27 #[v] w (SaysJB (lvL T.P T.V) (treeB T.P T.V) w) := by
  cases h : treeB T.P T.V with
  | true => exact implLv_yes v T w hv o h
  | false =>
    rw [lvL_no h]
    have H := Lib.hid h
    obtain ⟨s1, s2, rfl, g1, g2⟩ := hv
    have HB := Lib.hid (below_alloc w (.cells #[s1, s2] 32))
    have HV : Hid (TrV _ (.agg #[s1, s2]) T) := Lib.hid ⟨_, _, rfl, g1.below HB.out (Nat.le_refl _), g2.below HB.out (Nat.le_refl _)⟩
    clear g1 g2 h
    go_enter Try.func27, Try.ntmps27
    go_wp2_with fail
    go_at_call 22; refine (implValidTree_is false _ T _ HV.out o H.out).mono ?_; rintro e w1 ⟨rfl, b1⟩
    have B1 := Lib.hid (HB.out.trans (b1.mono HB.out.size))
    clear b1
    go_wp2_with fail
    go_ret2
    exact ⟨_, rfl, SI.nil _ (Nat.le_refl _) _ _, B1.out⟩
end Go.Proofs.Ytmkbjkjgemipcaa
