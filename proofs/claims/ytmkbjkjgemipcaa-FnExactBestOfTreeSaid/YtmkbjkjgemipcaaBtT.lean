/- The way to the best end of a tree: the model. -/
import Derived.Test.YtmkbjkjgemipcaaBtS
namespace Go.Proofs.Ytmkbjkjgemipcaa
open Go.RowKit Go.ChangeShapes Go.WideShapes

/-- A number, a list and a bool. -/
def SaysIJB (n : Int) (Z : List Int) (b : Bool) (w : World) (e : Ending) (w' : World) : Prop := ∃ v, e = .returned (.tuple #[.int .i64 n, v, .bool b]) ∧ II w.heap.size w'.heap.size w' v Z ∧ Below w.heap.size w w'
theorem wayF_on {P V : List Int} {f a : Nat} (h : ¬ (chL P a).length = 0) : wayF P V (f + 1) a = (a : Int) :: wayF P V f (bcT P V a) := by
  show (a : Int) :: (if _ then _ else _) = _
  rw [if_neg h]
theorem wayF_stop {P V : List Int} {f a : Nat} (h : (chL P a).length = 0) : wayF P V (f + 1) a = [(a : Int)] := by
  show (a : Int) :: (if _ then _ else _) = _
  rw [if_pos h]
set_option maxRecDepth 100000 in
set_option maxHeartbeats 16000000 in
theorem specBt_yes (v : Value) (T : Tr) (w : World) (hv : TrV w v T) (o : OKTr T) (h : treeB T.P T.V = true) :
    Calls Try.prog 32 #[v] w (SaysIJB (btI T.P T.V) (btL T.P T.V) true w) := by
  obtain ⟨i0, hi, hz0, hz1, hz2⟩ := info_parts Try.infoI
  obtain ⟨P, V⟩ := T
  obtain ⟨s1, s2, rfl, g1, g2⟩ := hv
  have O := Lib.hid o
  simp only at g1 g2 h ⊢
  have HA := Lib.hid (TrAt.mk' (T := ⟨P, V⟩) g1 g2 32)
  have HI := Lib.hid (btI_yes h)
  have HN := Lib.hid (btL_yes h)
  have H := Lib.hid h
  have OK := Lib.hid (treeB_ok h)
  have n1 := OK.out.l1
  have n2 := OK.out.l2
  have lv := OK.out.lv
  obtain ⟨b1, o1, c1, b2, o2, c2, rfl, rfl, l1, l2, k1, k2⟩ := tr_num g1 g2 (by omega) (by omega)
  rw [HI.out, HN.out]
  have K1 := Lib.hid k1
  have K2 := Lib.hid k2
  have HEV : Hid (evB P 0 = true) := Lib.hid (evB_zero P)
  have HWL := Lib.hid (wayF_len P V P.length 0)
  clear g1 g2 h o k1 k2 lv
  go_enter Try.func32, Try.ntmps32
  go_wp2_with fail
  go_at_call 66; refine (l07Tree_is true _ ⟨P, V⟩ _ HA.out O.out H.out).mono ?_; rintro e w1 ⟨rfl, m, rfl⟩
  obtain ⟨W, hW⟩ : ∃ W, W = (w.alloc (.cells #[.slice (some ⟨b1, o1, none⟩) P.length (P.length + c1), .slice (some ⟨b2, o2, none⟩) V.length (V.length + c2)] 32)).drewN m := ⟨_, rfl⟩
  have HB : Hid (Below w.heap.size w W) := Lib.hid (by rw [hW]; exact below_drewN (below_alloc w _) m)
  have hzW : W.heap.size = w.heap.size + 1 := by rw [hW]; simp
  have hb0 := Box2.mk' w (.slice (some ⟨b1, o1, none⟩) P.length (P.length + c1)) (.slice (some ⟨b2, o2, none⟩) V.length (V.length + c2)) 32
  have BX : Hid (Box2 W w.heap.size (.slice (some ⟨b1, o1, none⟩) P.length (P.length + c1)) (.slice (some ⟨b2, o2, none⟩) V.length (V.length + c2))) := Lib.hid (by rw [hW]; exact hb0.keep (below_drewN (Below.refl _ _) m) hb0.lt)
  clear hb0
  have TX : Hid (TrN W w.heap.size W.heap.size b1 o1 c1 b2 o2 c2 P V) := Lib.hid ⟨BX.out, fun i hi => by rw [HB.out.cell (p := ⟨b1, o1 + i, none⟩) l1]; exact K1.out i hi, fun i hi => by rw [HB.out.cell (p := ⟨b2, o2 + i, none⟩) l2]; exact K2.out i hi, by omega, by have := OK.out.lv; omega, by omega, by omega, by omega⟩
  have HWW := Lib.hid hW
  have HC0 := Lib.hid (l07Worth_any P V w.heap.size W.heap.size b1 o1 c1 b2 o2 c2 OK.out P.length 0 W (by omega) (by omega) TX.out)
  rw [HEV.out, show ((0 : Nat) : Int) = 0 from rfl] at HC0
  obtain ⟨rt, hrt⟩ : ∃ rt, wT P V 0 = rt := ⟨_, rfl⟩
  have HRT := Lib.hid hrt
  rw [hrt] at HC0
  rw [← HWW.out]
  clear hW hzW hrt
  go_wp2_with fail
  go_at_call 73; refine HC0.out.mono ?_; rintro e w2 ⟨rfl, b2u⟩
  have HB2 := Lib.hid (HB.out.trans (b2u.mono HB.out.size))
  have T2 := Lib.hid (TX.out.kept (Turned.of_below b2u (Nat.le_refl _)))
  have HE := Lib.hid (Grows.empty (Value.int .i64) 2 w2.heap.size w2 (Nat.le_refl _))
  have HBE := Lib.hid (below_alloc w2 (.cells #[] 2))
  clear b2u HC0
  go_wp2_with fail
  go_loopg [6, 7, 8] (P.length + 1) (fun gk s6 s7 s8 wr => ∃ (f : Nat) (Y : List Int) (ev : Bool), s7 = .bool ev ∧ Below w2.heap.size w2 wr ∧ Grows (Value.int .i64) 2 w2.heap.size s6 Y wr ∧ ((gk = f + 1 ∧ ∃ a : Nat, s8 = .int .i64 a ∧ a < P.length ∧ P.length ≤ a + f ∧ ev = evB P a ∧ wT P V a = rt ∧ Y ++ wayF P V f a = wayF P V P.length 0) ∨ (s8 = .int .i64 (-1) ∧ Y = wayF P V P.length 0)))
  case atStart => exact ⟨P.length, [], true, rfl, HBE.out, HE.out, Or.inl ⟨rfl, 0, rfl, by omega, by omega, HEV.out.symm, HRT.out, rfl⟩⟩
  case round =>
    clear HE HBE
    obtain ⟨wo, rfl⟩ : ∃ x : World, x = wr := ⟨_, rfl⟩
    obtain ⟨g2, rfl⟩ : ∃ x : Nat, x = gk := ⟨_, rfl⟩
    obtain ⟨f, Y, ev, rfl, hB, hG, ⟨hgf, a, rfl, ha, hf, hev, hwa, hY⟩ | ⟨rfl, hY⟩⟩ := hrel
    · have HBO := Lib.hid hB
      have HG := Lib.hid hG
      have HEVA := Lib.hid hev
      have HWA := Lib.hid hwa
      obtain ⟨f, rfl⟩ : ∃ q, f = q + 1 := ⟨f - 1, by omega⟩
      have HYL : Hid (Y.length ≤ 64) := Lib.hid (by have h1 := congrArg List.length hY; rw [List.length_append] at h1; have := HWL.out; omega)
      have HYE := Lib.hid hY
      have ha0 : (0 : Int) ≤ (a : Int) := by omega
      clear hB hG hev hwa hY
      go_wp2_with (at_builtin; refine wpList_append_own _ rfl _ _ 27 rfl w2.heap.size 2 i0 (.int .i64 0) 1 8 Try.underlying27 hi hz0 hz1 hz2 rfl (by decide) _ _ _ rfl (Grows.alloc HG.out _) ⟨wo.heap.size, 0, none⟩ 1 1 [.int .i64 (a : Int)] rfl rfl ?c1 ?c2 ?c3 ?c4 ?c5 ?_)
      case c1 => exact one_new
      case c2 => intro u hu; simp at hu; subst hu; rfl
      case c3 => have := HYL.out; unfold maxLen; omega
      case c4 => have := HYL.out; omega
      case c5 => have := HBO.out.size; simp; omega
      intro v' w' hown hgrow _
      have HN3 : Hid (Below w2.heap.size w2 w' ∧ Grows (Value.int .i64) 2 w2.heap.size v' (Y ++ [(a : Int)]) w') := Lib.hid ⟨(HBO.out.alloc HBO.out.size _).grown hgrow (by have := HBO.out.size; simp; omega) (fun g hg => HG.out.block g hg), Grows.more (news := [(a : Int)]) rfl hown⟩
      have T3 := Lib.hid (T2.out.kept (Turned.of_below HN3.out.1 (Nat.le_refl _)))
      clear hown hgrow
      go_wp2_with fail
      go_at_call 71; refine (l07Children_any w.heap.size a ⟨P, V⟩ _ T3.out.tr n2).mono ?_; rintro e w5 ⟨u, rfl, iu, b5⟩
      have HB5 := Lib.hid (HN3.out.1.trans (b5.mono HN3.out.1.size))
      have HG5 := Lib.hid (HN3.out.2.below b5 (Nat.le_refl _))
      have T5 := Lib.hid (T3.out.kept (Turned.of_below b5 (Nat.le_refl _)))
      simp only at iu
      obtain ⟨L, hLL⟩ : ∃ L, L = chL P a := ⟨_, rfl⟩
      have HLL := Lib.hid hLL
      rw [← hLL] at iu
      by_cases hl0 : L.length = 0
      · obtain ⟨ux, uk, rfl⟩ := iu.len
        rw [hl0]
        have HYN : Hid (Y ++ [(a : Int)] = wayF P V P.length 0) := Lib.hid (by rw [← HYE.out, wayF_stop (by rw [← hLL]; exact hl0)])
        clear iu b5 hl0 hLL
        go_wp2_with fail
        refine wp_loop_rounds 1 ?_
        rw [rounds_succ]
        go_wp2_with fail
        go_roundg (g2 - 1)
        case measure => omega
        case rel => exact ⟨f, _, _, rfl, HB5.out, HG5.out, Or.inr ⟨rfl, HYN.out⟩⟩
      have hlen : L.length ≤ 64 := by rw [hLL]; exact Nat.le_trans (chN_len P a _) n2
      obtain ⟨_, hz | ⟨bl, ol, cl, rfl, hlp, hge, hbl, hfr, hcl⟩⟩ := iu
      · exact absurd (by rw [hz.1]; rfl) hl0
      have HCL := Lib.hid hcl
      have HYN : Hid ((Y ++ [(a : Int)]) ++ wayF P V f (bcT P V a) = wayF P V P.length 0) := Lib.hid (by rw [← HYE.out, wayF_on (by rw [← hLL]; exact hl0), List.append_assoc]; rfl)
      obtain ⟨j, hj1, hj2, hj3⟩ := bcT_at (V := V) OK.out.p (a := a) (by rw [← hLL]; exact hl0)
      rw [← hLL] at hj1 hj2 hj3
      have HJ2 := Lib.hid hj2
      have HJ3 := Lib.hid hj3
      obtain ⟨d, hd⟩ : ∃ d, bcT P V a = d := ⟨_, rfl⟩
      have HD := Lib.hid hd
      have hdd := bcW_in OK.out.p (w := wT P V) (a := a) (by rw [← hLL]; exact hl0)
      have hde : bcW P (wT P V) a = d := hd
      rw [hde] at hdd
      obtain ⟨hd1, hd2⟩ := hdd
      have HWD : Hid (wT P V d = rt) := Lib.hid (by rw [← hd, ← wT_in OK.out.p ha (by rw [← hLL]; exact hl0)]; exact HWA.out)
      have HED : Hid ((!ev) = evB P d) := Lib.hid (by
        obtain ⟨c, hc, -, -, hce⟩ := chL_at OK.out.p (a := a) (k := j) (by rw [← hLL]; exact hj1)
        rw [← hLL, hj2, hd] at hc
        have : c = d := by omega
        rw [← this, hce, HEVA.out])
      have hd0 : ¬ (d : Int) < 0 := by omega
      clear hcl hfr hLL hj2 hj3 hd hde b5
      go_wp2_with fail
      go_loopg [8, 25] L.length (fun gk s8 i wr => ∃ k : Nat, k ≤ L.length ∧ gk + k = L.length ∧ i = .int .i64 k ∧ ((k ≤ j ∧ s8 = .int .i64 (-1)) ∨ (j < k ∧ s8 = .int .i64 (d : Int))) ∧ Below w5.heap.size w5 wr)
      case atStart => exact ⟨0, Nat.zero_le _, by omega, rfl, Or.inl ⟨Nat.zero_le _, rfl⟩, Below.refl _ _⟩
      case round =>
        obtain ⟨k, hk, hgk, rfl, hs, hB⟩ := hrel
        have HBI := Lib.hid hB
        by_cases hkl : k < L.length
        · obtain ⟨c, hc, hac, hcn, hce⟩ := chL_at OK.out.p (a := a) (k := k) (by rw [← HLL.out]; exact hkl)
          rw [← HLL.out] at hc
          rw [← HEVA.out] at hce
          have y0 : wr.cell? ⟨bl, ol + k, none⟩ = some (.int .i64 (c : Int)) := by rw [← hc, hB.cell (p := ⟨bl, ol + k, none⟩) hbl]; exact HCL.out k hkl
          rcases hs with ⟨hkj, rfl⟩ | ⟨hkj, rfl⟩
          · have HC := Lib.hid (l07Worth_any P V w.heap.size W.heap.size b1 o1 c1 b2 o2 c2 OK.out P.length c wr hcn (by omega) (T5.out.kept (Turned.of_below hB (Nat.le_refl _))))
            rw [hce] at HC
            by_cases hkj2 : k = j
            · subst hkj2
              have hcd : c = d := by have := HJ2.out; rw [HD.out, hc] at this; omega
              subst hcd
              rw [HWD.out] at HC
              clear hB hc hce
              go_wp2_with fail
              go_at_call 73; refine HC.out.mono ?_; rintro e w7 ⟨rfl, b7⟩
              have HB7 := Lib.hid (HBI.out.trans (b7.mono HBI.out.size))
              have y1 := keep_cell y0 b7 (cell_block y0)
              clear b7 y0 HC
              go_wp2_with fail
              go_roundg (gk - 1)
              case measure => omega
              case rel => exact ⟨k + 1, by omega, by omega, by go_num, Or.inr ⟨by omega, rfl⟩, HB7.out⟩
            · obtain ⟨x, hx⟩ : ∃ x, wT P V c = x := ⟨_, rfl⟩
              have hxr : ¬ x = rt := by
                have := HJ3.out k (by omega)
                rw [hc, Int.toNat_natCast, hx, HD.out, HWD.out] at this
                exact this
              have hxr2 : ((x : Int) == rt) = false := by simpa using hxr
              rw [hx] at HC
              clear hB hc hce hx
              go_wp2_with fail
              go_at_call 73; refine HC.out.mono ?_; rintro e w7 ⟨rfl, b7⟩
              have HB7 := Lib.hid (HBI.out.trans (b7.mono HBI.out.size))
              clear b7 y0 HC
              go_wp2_with fail
              go_roundg (gk - 1)
              case measure => omega
              case rel => exact ⟨k + 1, by omega, by omega, by go_num, Or.inl ⟨by omega, rfl⟩, HB7.out⟩
          · clear hB hc hce
            go_wp2_with fail
            go_roundg (gk - 1)
            case measure => omega
            case rel => exact ⟨k + 1, by omega, by omega, by go_num, Or.inr ⟨by omega, rfl⟩, HBI.out⟩
        · obtain rfl : k = L.length := by omega
          rcases hs with ⟨hkj, -⟩ | ⟨hkj, rfl⟩
          · omega
          have HB9 := Lib.hid (HB5.out.trans (hB.mono HB5.out.size))
          have HG9 := Lib.hid (HG5.out.below hB (Nat.le_refl _))
          clear hB
          go_wp2_with fail
          go_roundg (g2 - 1)
          case measure => omega
          case rel => exact ⟨f, _, _, rfl, HB9.out, HG9.out, Or.inl ⟨by omega, d, rfl, hd2, by omega, HED.out, HWD.out, by rw [← HD.out]; exact HYN.out⟩⟩
    · have HR := Lib.hid (hG.si (d := (0 : Int)))
      have HBR := Lib.hid hB
      have HYE := Lib.hid hY
      clear hB hG hY
      obtain ⟨sx, sk, rfl⟩ := HR.out.len
      obtain ⟨yn, hyn⟩ : ∃ yn, yn = Y.length := ⟨_, rfl⟩
      have HYN := Lib.hid hyn
      rw [← hyn] at HR ⊢
      clear hyn
      go_wp2_with fail
      refine bodyPost_ret (v := .tuple #[.int .i64 rt, .slice sx yn sk, .bool true]) (by simp [results, Try.results32, go_sem]) rfl ?_
      rw [HRT.out, ← HYE.out]
      exact ⟨_, rfl, SI.wide HR.out (lo' := w.heap.size) HB2.out.size (Nat.le_refl _) (Nat.le_refl _), HB2.out.trans (HBR.out.mono HB2.out.size)⟩
theorem specBestOfTree_any (v : Value) (T : Tr) (w : World) (hv : TrV w v T) (o : OKTr T) :
    Calls Try.prog 32 #[v] w (SaysIJB (btI T.P T.V) (btL T.P T.V) (treeB T.P T.V) w) := by
  cases h : treeB T.P T.V with
  | true => exact specBt_yes v T w hv o h
  | false =>
    rw [btI_no h, btL_no h]
    have H := Lib.hid h
    obtain ⟨s1, s2, rfl, g1, g2⟩ := hv
    have HA := Lib.hid (TrAt.mk' (T := T) g1 g2 32)
    clear g1 g2 h
    go_enter Try.func32, Try.ntmps32
    go_wp2_with fail
    go_at_call 66; refine (l07Tree_is false _ T _ HA.out o H.out).mono ?_; rintro e w1 ⟨rfl, m, rfl⟩
    go_wp2_with fail
    refine bodyPost_ret (v := .tuple #[.int .i64 0, .slice none 0 0, .bool false]) (by simp [results, Try.results32, go_sem]) rfl ?_
    exact ⟨_, rfl, SI.nil _ (Nat.le_refl _) _ _, below_drewN (below_alloc w _) _⟩
end Go.Proofs.Ytmkbjkjgemipcaa
