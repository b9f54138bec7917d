/- The way to the best end of a tree: the program. -/
import Derived.Test.YtmkbjkjgemipcaaBtP
import Derived.Test.YtmkbjkjgemipcaaBtT
namespace Go.Proofs.Ytmkbjkjgemipcaa
open Go.RowKit Go.ChangeShapes Go.WideShapes

set_option maxRecDepth 100000 in
set_option maxHeartbeats 8000000 in
theorem implBt_yes (v : Value) (T : Tr) (w : World) (hv : TrV w v T) (o : OKTr T) (h : treeB T.P T.V = true) :
    Calls Try.prog 33 #[v] w (SaysIJB (btI T.P T.V) (btL T.P T.V) true w) := by
  obtain ⟨i0, hi, hz0, hz1, hz2⟩ := info_parts Try.infoI
  obtain ⟨P, V⟩ := T
  obtain ⟨s1, s2, rfl, g1, g2⟩ := hv
  have O := Lib.hid o
  simp only at g1 g2 h ⊢
  have HI := Lib.hid (btI_yes h)
  have HN := Lib.hid (btL_yes h)
  have H := Lib.hid h
  have OK := Lib.hid (treeB_ok h)
  have n1 := OK.out.l1
  have n2 := OK.out.l2
  have G1 := Lib.hid g1
  have G2 := Lib.hid g2
  have HB := Lib.hid (below_alloc w (.cells #[s1, s2] 32))
  have X0 := Lib.hid (Box2.mk' w s1 s2 32)
  have HV : Hid (∀ X, Below w.heap.size w X → TrV X (.agg #[s1, s2]) ⟨P, V⟩) := Lib.hid fun X hb => ⟨_, _, rfl, G1.out.below hb (Nat.le_refl _), G2.out.below hb (Nat.le_refl _)⟩
  have HWL := Lib.hid (wayF_len P V P.length 0)
  rw [HI.out, HN.out]
  clear g1 g2 h o
  go_enter Try.func33, Try.ntmps33
  go_wp2_with fail
  go_at_call 22; refine (implValidTree_is true _ ⟨P, V⟩ _ (HV.out _ HB.out) O.out H.out).mono ?_; rintro e w1 ⟨rfl, b1⟩
  have B1 := Lib.hid (HB.out.trans (b1.mono HB.out.size))
  have X1 := Lib.hid (X0.out.keep b1 X0.out.lt)
  clear b1
  obtain ⟨c0, c1⟩ := X1.out
  go_wp2_with fail
  go_at_call 74; refine (bestIn_any _ ⟨P, V⟩ _ (HV.out _ B1.out) O.out OK.out).mono ?_; rintro e w2 ⟨q1, h2, B, E, p2, p5, Wb, wo, wx, C, rfl, hK⟩
  have HK := Lib.hid hK
  have hWz := hK.l1
  have hCz := hK.l2
  have B2 := Lib.hid (B1.out.trans (hK.below.mono B1.out.size))
  have HG0 := Lib.hid (Grows.nil (Value.int .i64) 2 w2.heap.size w2)
  have x0 : w2.cell? ⟨Wb, wo, none⟩ = some (.int .i64 (wT P V 0)) := hK.ws 0 (by show 0 < P.length; omega)
  have HX0 := Lib.hid x0
  have l0 : (0 : Int) < (P.length : Int) := by omega
  simp only at hK ⊢
  have HBS := Lib.hid hK.bs
  clear hK c0 c1 x0
  go_wp2_with fail
  go_loopg [7, 8] (P.length + 1) (fun gk s7 s8 wr => ∃ (f : Nat) (Y : List Int), Below w2.heap.size w2 wr ∧ Grows (Value.int .i64) 2 w2.heap.size s7 Y wr ∧ ((gk = f + 1 ∧ ∃ a : Nat, s8 = .int .i64 a ∧ a < P.length ∧ P.length ≤ a + f ∧ Y ++ wayF P V f a = wayF P V P.length 0) ∨ (s8 = .int .i64 (-1) ∧ Y = wayF P V P.length 0)))
  case atStart => exact ⟨P.length, [], Below.refl _ _, HG0.out, Or.inl ⟨rfl, 0, rfl, by omega, by omega, rfl⟩⟩
  case round =>
    obtain ⟨f, Y, hB, hG, ⟨hgf, a, rfl, ha, hf, hY⟩ | ⟨rfl, hY⟩⟩ := hrel
    · have HBO := Lib.hid hB
      have HG := Lib.hid hG
      obtain ⟨f, rfl⟩ : ∃ q, f = q + 1 := ⟨f - 1, by omega⟩
      have HYL : Hid (Y.length ≤ 64) := Lib.hid (by have h1 := congrArg List.length hY; rw [List.length_append] at h1; have := HWL.out; omega)
      have HYE := Lib.hid hY
      have hne : ((a : Int) != -1) = true := by simp
      have hai : (a : Int) < (P.length : Int) := by omega
      clear hB hG hY
      go_wp2_with (at_builtin; refine wpList_append_own _ rfl _ _ 27 rfl w2.heap.size 2 i0 (.int .i64 0) 1 8 Try.underlying27 hi hz0 hz1 hz2 rfl (by decide) _ _ _ rfl (Grows.alloc HG.out _) ⟨wr.heap.size, 0, none⟩ 1 1 [.int .i64 (a : Int)] rfl rfl ?c1 ?c2 ?c3 ?c4 ?c5 ?_)
      case c1 => exact one_new
      case c2 => intro u hu; simp at hu; subst hu; rfl
      case c3 => have := HYL.out; unfold maxLen; omega
      case c4 => have := HYL.out; omega
      case c5 => have := HBO.out.size; simp; omega
      intro v' w' hown hgrow _
      have HN3 : Hid (Below w2.heap.size w2 w' ∧ Grows (Value.int .i64) 2 w2.heap.size v' (Y ++ [(a : Int)]) w') := Lib.hid ⟨(HBO.out.alloc HBO.out.size _).grown hgrow (by have := HBO.out.size; simp; omega) (fun g hg => HG.out.block g hg), Grows.more (news := [(a : Int)]) rfl hown⟩
      have y0 := keep_cell (HBS.out a ha) HN3.out.1 hCz
      clear hown hgrow
      by_cases hl0 : (chL P a).length = 0
      · have HYN : Hid (Y ++ [(a : Int)] = wayF P V P.length 0) := Lib.hid (by rw [← HYE.out, wayF_stop hl0])
        rw [show bT P V a = -1 from by unfold bT; rw [if_pos hl0]] at y0
        clear hl0
        go_wp2_with fail
        go_roundg (gk - 1)
        case measure => omega
        case rel => exact ⟨f, _, HN3.out.1, HN3.out.2, Or.inr ⟨rfl, HYN.out⟩⟩
      · have HYN : Hid ((Y ++ [(a : Int)]) ++ wayF P V f (bcT P V a) = wayF P V P.length 0) := Lib.hid (by rw [← HYE.out, wayF_on hl0, List.append_assoc]; rfl)
        rw [show bT P V a = (bcT P V a : Nat) from by unfold bT; rw [if_neg hl0]] at y0
        have hdd := bcW_in OK.out.p (w := wT P V) (a := a) hl0
        obtain ⟨d, hd⟩ : ∃ d, bcT P V a = d := ⟨_, rfl⟩
        have hde : bcW P (wT P V) a = d := hd
        rw [hde] at hdd
        obtain ⟨hd1, hd2⟩ := hdd
        rw [hd] at y0 HYN
        clear hl0 hd hde
        go_wp2_with fail
        go_roundg (gk - 1)
        case measure => omega
        case rel => exact ⟨f, _, HN3.out.1, HN3.out.2, Or.inl ⟨by omega, d, rfl, hd2, by omega, HYN.out⟩⟩
    · have HR := Lib.hid (hG.si (d := (0 : Int)))
      have HBR := Lib.hid hB
      have HYE := Lib.hid hY
      have y0 := keep_cell HX0.out hB hWz
      obtain ⟨rt, hrt⟩ : ∃ rt, wT P V 0 = rt := ⟨_, rfl⟩
      have HRT := Lib.hid hrt
      rw [hrt] at y0
      clear hB hG hY hrt
      obtain ⟨sx, sk, rfl⟩ := HR.out.len
      obtain ⟨yn, hyn⟩ : ∃ yn, yn = Y.length := ⟨_, rfl⟩
      rw [← hyn] at HR ⊢
      clear hyn
      go_wp2_with fail
      first
        | (go_quiet (fail); go_wp2_with fail; refine bodyPost_ret (v := .tuple #[.int .i64 rt, .slice sx yn sk, .bool true]) (by simp [results, Try.results33, go_sem]) rfl ?_; rw [HRT.out, ← HYE.out]; exact ⟨_, rfl, SI.wide (SI.below HR.out (below_drewN (Below.refl wr.heap.size wr) nq) (Nat.le_refl _)) (lo' := w.heap.size) B2.out.size (Nat.le_refl _) (Nat.le_refl _), B2.out.trans ((below_drewN HBR.out _).mono B2.out.size)⟩)
        | (refine bodyPost_ret (v := .tuple #[.int .i64 rt, .slice sx yn sk, .bool true]) (by simp [results, Try.results33, go_sem]) rfl ?_; rw [HRT.out, ← HYE.out]; exact ⟨_, rfl, SI.wide HR.out (lo' := w.heap.size) B2.out.size (Nat.le_refl _) (Nat.le_refl _), B2.out.trans (HBR.out.mono B2.out.size)⟩)
theorem implBestOfTree_any (v : Value) (T : Tr) (w : World) (hv : TrV w v T) (o : OKTr T) :
    Calls Try.prog 33 #[v] w (SaysIJB (btI T.P T.V) (btL T.P T.V) (treeB T.P T.V) w) := by
  cases h : treeB T.P T.V with
  | true => exact implBt_yes v T w hv o h
  | false =>
    rw [btI_no h, btL_no h]
    have H := Lib.hid h
    obtain ⟨s1, s2, rfl, g1, g2⟩ := hv
    have HB := Lib.hid (below_alloc w (.cells #[s1, s2] 32))
    have HV : Hid (TrV _ (.agg #[s1, s2]) T) := Lib.hid ⟨_, _, rfl, g1.below HB.out (Nat.le_refl _), g2.below HB.out (Nat.le_refl _)⟩
    clear g1 g2 h
    go_enter Try.func33, Try.ntmps33
    go_wp2_with fail
    go_at_call 22; refine (implValidTree_is false _ T _ HV.out o H.out).mono ?_; rintro e w1 ⟨rfl, b1⟩
    have B1 := Lib.hid (HB.out.trans (b1.mono HB.out.size))
    clear b1
    go_wp2_with fail
    refine bodyPost_ret (v := .tuple #[.int .i64 0, .slice none 0 0, .bool false]) (by simp [results, Try.results33, go_sem]) rfl ?_
    exact ⟨_, rfl, SI.nil _ (Nat.le_refl _) _ _, B1.out⟩
end Go.Proofs.Ytmkbjkjgemipcaa
