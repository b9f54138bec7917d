/- Orders that keep the most jobs on time: the program, whole. -/
import Derived.Test.YtcnfmphokobgiaaOtI
namespace Go.Proofs.Ytcnfmphokobgiaa
open Go.RowKit Go.ChangeShapes Go.WideShapes

theorem implDue_is (t : Bool) (v : Value) (Z : List Ac) (w : World) (hv : AV w v Z) (hn : Z.length ≤ 1048576) (ht : jobsB Z = t) :
    Calls Try.prog 16 #[v] w (SaysJB (dueL Z) t w) := by subst ht; exact implDue_any v Z w hv hn
theorem own_cases {B : Nat} {v : Value} {Y : List Int} {w : World} (h : Grows (Value.int .i64) 2 B v Y w) : (v = .slice none 0 0 ∧ Y = []) ∨ ∃ ad cap, v = .slice (some ad) Y.length cap ∧ LiesC w ad Y := by
  have hs := h.si (d := (0 : Int))
  rcases h.2 with ⟨hv, hz⟩ | ⟨g, cap, cur, rfl, _, hg, _⟩
  · exact Or.inl ⟨hv, List.eq_nil_of_length_eq_zero hz⟩
  · refine Or.inr ⟨⟨g, 0, none⟩, cap, rfl, ?_⟩
    obtain ⟨_, ⟨hz, -⟩ | ⟨b, off, c, e, _, _, hb, _, hcell⟩⟩ := hs
    · subst hz; intro w' _ j u hu; simp at hu
    · injection e with e1 _ _
      injection e1 with e1
      injection e1 with e1 e2 _
      subst e1 e2
      intro w' hw j u hu
      have hj : j < Y.length := by
        have := (List.getElem?_eq_some_iff.1 hu).1
        simpa using this
      rw [Go.WideShapes.add_plain, hw.cell (p := ⟨g, 0 + j, none⟩) hb, hcell j hj]
      rw [← hu]
      simp [List.getD, hj]
theorem ot_pos (Z : List Ac) (Y : List Nat) : ∀ k, 0 < k → 0 < (otS Z Y k).1.length + (otS Z Y k).2.1.length
  | 0, h => by omega
  | k + 1, _ => by
    have U : otS Z Y (k + 1) = if (otS Z Y k).2.2 + (Z.getD (Y.getD k 0) zA).f ≤ (Z.getD (Y.getD k 0) zA).t then ((otS Z Y k).1 ++ [Y.getD k 0], (otS Z Y k).2.1, (otS Z Y k).2.2 + (Z.getD (Y.getD k 0) zA).f)
          else (((otS Z Y k).1 ++ [Y.getD k 0]).filter (fun z => !(z == fstN (lonB2 Z) ((otS Z Y k).1 ++ [Y.getD k 0]) ((otS Z Y k).1 ++ [Y.getD k 0]).length)), (otS Z Y k).2.1 ++ [fstN (lonB2 Z) ((otS Z Y k).1 ++ [Y.getD k 0]) ((otS Z Y k).1 ++ [Y.getD k 0]).length], (otS Z Y k).2.2 + (Z.getD (Y.getD k 0) zA).f - (Z.getD (fstN (lonB2 Z) ((otS Z Y k).1 ++ [Y.getD k 0]) ((otS Z Y k).1 ++ [Y.getD k 0]).length) zA).f) := rfl
    rw [U]
    split
    · simp only [List.length_append, List.length_singleton]; omega
    · simp only [List.length_append, List.length_singleton]; omega
set_option maxRecDepth 100000 in
set_option maxHeartbeats 16000000 in
theorem implOt_yes (v : Value) (Z : List Ac) (w : World) (hv : AV w v Z) (hn : Z.length ≤ 1048576) (h : jobsB Z = true) :
    Calls Try.prog 40 #[v] w (SaysJIB (otL Z) (otI Z) true w) := by
  obtain ⟨i0, hi, hz0, hz1, hz2⟩ := info_parts Try.infoI
  have HV := Lib.hid hv
  have H := Lib.hid h
  have J := Lib.hid (jobsB_ok h)
  have n1 := J.out.n1
  have n2 := J.out.n2
  have HE := Lib.hid (ot_yes h)
  have HD := Lib.hid (dueL_yes h)
  have HYL := Lib.hid (otY_len Z)
  rcases hv with ⟨hz, -⟩ | ⟨b, off, cap, rfl, hpos, hbl, hcell⟩
  · rw [hz] at n1; simp at n1
  have HC := Lib.hid hcell
  clear hcell h hpos
  go_enter Try.func40, Try.ntmps40
  go_wp2_with fail
  go_at_call 16; refine (implDue_is true _ Z _ (HV.out.below (below_alloc w _) (Nat.le_refl _)) hn H.out).mono ?_; rintro e w2 ⟨o, rfl, io, b2⟩
  have BW := Lib.hid ((below_alloc w _).trans (b2.mono (below_alloc w _).size))
  have C0 := Lib.hid ((b2.cell (p := ⟨w.heap.size, 0, none⟩) (by simp)).trans (World.cell?_alloc_new w _ _ 0))
  have HB2 : Hid (w.heap.size < w2.heap.size) := Lib.hid (Nat.lt_of_lt_of_le (by simp) b2.size)
  rw [HD.out] at io
  change SI _ _ _ _ _ _ (intsN (otY Z)) at io
  obtain ⟨_, hz | ⟨b3, off3, cap3, rfl, hpos3, hge3, hbl3, hfr3, hcell3⟩⟩ := io
  · have := congrArg List.length hz.1
    rw [intsN_len, HYL.out, List.length_nil] at this
    omega
  have HC3 := Lib.hid hcell3
  have e3 : (intsN (otY Z)).length = Z.length := by rw [intsN_len, HYL.out]
  rw [e3]
  have E3 := Lib.hid e3
  clear b2 hcell3 hfr3 hpos3 hge3 e3
  go_wp2_with fail
  go_loopg [7, 8, 9, 23] Z.length (fun gk a c s i wr => ∃ k : Nat, k ≤ Z.length ∧ gk + k = Z.length ∧ i = .int .i64 k ∧ s = .int .i64 (otS Z (otY Z) k).2.2 ∧ TwoAt w2 a c (intsN (otS Z (otY Z) k).1) (intsN (otS Z (otY Z) k).2.1) wr ∧ (0 < k → ∃ g, a.ownBlock = some g))
  case atStart => exact ⟨0, Nat.zero_le _, by omega, rfl, rfl, ⟨Below.refl _ _, Grows.nil _ _ _ _, Grows.nil _ _ _ _, fun g e => by cases e⟩, fun e => by omega⟩
  case round =>
    obtain ⟨k, hk, hgk, rfl, rfl, hT, hnz⟩ := hrel
    have ok : OtOk Z (otY Z) k := otS_ok J.out (ordN_nodup (dueK Z) Z.length) (fun _ h => ordN_mem.1 h) k (by rw [ordN_len]; exact hk)
    by_cases hlt : k < Z.length
    · have hx : (otY Z).getD k 0 < Z.length := ordN_lt _ hlt
      have y3 := (show wr.cell? ⟨b3, off3 + k, none⟩ = some (.int .i64 (((otY Z).getD k 0 : Nat) : Int)) by rw [hT.below.cell (p := ⟨b3, off3 + k, none⟩) hbl3, HC3.out k (by rw [E3.out]; exact hlt), intsN_at (by rw [HYL.out]; exact hlt)])
      have ok2 : OtOk Z (otY Z) (k + 1) := otS_ok J.out (ordN_nodup (dueK Z) Z.length) (fun _ h => ordN_mem.1 h) (k + 1) (by rw [ordN_len]; exact hlt)
      have hfx := J.out.ok _ hx
      have f1 := hfx.f1
      have f2 := hfx.f2
      have t1 := hfx.t1
      have t2 := hfx.t2
      have U : Hid (otS Z (otY Z) (k + 1) = if (otS Z (otY Z) k).2.2 + (Z.getD ((otY Z).getD k 0) zA).f ≤ (Z.getD ((otY Z).getD k 0) zA).t then ((otS Z (otY Z) k).1 ++ [(otY Z).getD k 0], (otS Z (otY Z) k).2.1, (otS Z (otY Z) k).2.2 + (Z.getD ((otY Z).getD k 0) zA).f)
          else (((otS Z (otY Z) k).1 ++ [(otY Z).getD k 0]).filter (fun z => !(z == fstN (lonB2 Z) ((otS Z (otY Z) k).1 ++ [(otY Z).getD k 0]) ((otS Z (otY Z) k).1 ++ [(otY Z).getD k 0]).length)), (otS Z (otY Z) k).2.1 ++ [fstN (lonB2 Z) ((otS Z (otY Z) k).1 ++ [(otY Z).getD k 0]) ((otS Z (otY Z) k).1 ++ [(otY Z).getD k 0]).length], (otS Z (otY Z) k).2.2 + (Z.getD ((otY Z).getD k 0) zA).f - (Z.getD (fstN (lonB2 Z) ((otS Z (otY Z) k).1 ++ [(otY Z).getD k 0]) ((otS Z (otY Z) k).1 ++ [(otY Z).getD k 0]).length) zA).f)) := Lib.hid rfl
      have FX : Hid (∀ W, Below w2.heap.size w2 W → ∀ z, z < Z.length → ArcAt W b (off + z * 4) (Z.getD z zA)) := Lib.hid fun W hW z hz => (HC.out z hz).keep (BW.out.trans (hW.mono BW.out.size)) hbl
      have CX : Hid (∀ W, Below w2.heap.size w2 W → W.cell? ⟨w.heap.size, 0, none⟩ = some (.slice (some ⟨b, off, none⟩) Z.length (Z.length + cap))) := Lib.hid fun W hW => (hW.cell (p := ⟨w.heap.size, 0, none⟩) HB2.out).trans C0.out
      have KIN : Hid (∀ y ∈ (otS Z (otY Z) k).1 ++ [(otY Z).getD k 0], y < Z.length) := Lib.hid fun y hy => by
        rcases List.mem_append.1 hy with h | h
        · exact ordN_mem.1 (List.mem_of_mem_take (ok.sub y h))
        · rw [List.mem_singleton] at h; subst h; exact hx
      obtain ⟨-, -, lK, lA, -, s1, s2⟩ := ok
      obtain ⟨-, -, -, -, -, s3, s4⟩ := ok2
      have HT := Lib.hid hT
      have S3 := Lib.hid s3
      have S4 := Lib.hid s4
      clear hT hnz hfx s3 s4
      have A0 := FX.out wr HT.out.below _ hx
      have a0 := A0.c0
      have a1 := A0.c1
      have bx := CX.out wr HT.out.below
      have hsz := HT.out.below.size
      clear A0
      have lx : (((otY Z).getD k 0 : Nat) : Int) < (Z.length : Int) := by omega
      have lk : (k : Int) < (Z.length : Int) := by omega
      generalize hP : otS Z (otY Z) k = P at *
      generalize (otY Z).getD k 0 = x at *
      obtain ⟨K, A, s⟩ := P
      dsimp only at *
      clear hP
      have X0 : Hid (w2.heap.size ≤ w2.heap.size) := Lib.hid (Nat.le_refl _)
      have FXx := Lib.hid (fun W hW => And.intro (FX.out W hW x hx).c0 (FX.out W hW x hx).c1)
      generalize (Z.getD x zA).f = f at *
      generalize (Z.getD x zA).t = t at *
      go_wp2_with (at_builtin; refine wpList_append_own_at _ rfl _ _ 24 rfl w2.heap.size 2 i0 (.int .i64 0) 1 8 Try.underlying24 hi hz0 hz1 hz2 rfl (by decide) _ _ _ rfl (Grows.alloc HT.out.one _) ⟨wr.heap.size, 0, none⟩ 1 1 [.int .i64 (x : Int)] rfl rfl one_new (by intro u hu; simp at hu; subst hu; rfl) (by rw [intsN_len]; unfold maxLen; omega) (by rw [intsN_len]; omega) (by simp; omega) ?_)
      intro v' w' hown hgrow _ hat
      have T2 : Hid (TwoAt w2 v' u8 (intsN (K ++ [x])) (intsN A) w') := Lib.hid (by rw [intsN_snoc]; exact HT.out.more hown hgrow (by simpa using hat))
      have NZ : Hid (∃ g, v'.ownBlock = some g) := Lib.hid (by
        have hl := T2.out.one.2
        rcases hl with ⟨_, hz⟩ | ⟨g, _, _, e, _⟩
        · rw [intsN_len] at hz; simp at hz
        · exact ⟨g, by rw [e]; rfl⟩)
      clear hown hgrow hat a0 a1 bx
      have bx := CX.out w' T2.out.below
      have A1 := FXx.out w' T2.out.below
      obtain ⟨a0, a1⟩ := A1
      by_cases hq : s + f ≤ t
      · have U2 := Lib.hid (U.out.trans (if_pos hq))
        have nq : ¬ (t < s + f) := by omega
        clear U
        go_wp2_with fail
        go_roundg (gk - 1)
        case measure => omega
        case rel => exact ⟨k + 1, by omega, by omega, by go_num, by rw [U2.out], by rw [U2.out]; exact T2.out, fun _ => NZ.out⟩
      · have U2 := Lib.hid (U.out.trans (if_neg hq))
        have nq : t < s + f := by omega
        have hKl : (K ++ [x]).length = K.length + 1 := by simp
        have hin : fstN (lonB2 Z) (K ++ [x]) (K ++ [x]).length < Z.length := fstN_in (fun i hi => KIN.out _ (getD_memN hi)) _ (by omega) (Nat.le_refl _)
        have LA := Lib.hid (longest_any (.slice (some ⟨b, off, none⟩) Z.length (Z.length + cap)) v' Z (K ++ [x]) w.heap.size w' (HV.out.below (BW.out.trans (T2.out.below.mono BW.out.size)) (Nat.le_refl _)) hn (SI.vl (T2.out.one.si (d := (0 : Int)))) (fun i hi => KIN.out _ (getD_memN hi)) (by omega) (by omega) bx)
        have hz := J.out.ok _ hin
        have g1 := hz.f1
        have g2 := hz.f2
        have FZ := Lib.hid (fun W hW => (FX.out W hW _ hin).c0)
        clear U hz
        generalize hK1 : K ++ [x] = K1 at *
        generalize fstN (lonB2 Z) K1 K1.length = z at *
        have lz : (z : Int) < (Z.length : Int) := by omega
        generalize (Z.getD z zA).f = fz at *
        have HK1 := Lib.hid hKl
        clear hK1
        go_wp2_with fail
        go_at_call 85; refine LA.out.mono ?_; rintro e w3 ⟨rfl, q3, rfl⟩
        go_wp2_with fail
        go_at_call 87; refine (without_any Z.length n1 w2.heap.size v' K1 z _ KIN.out (by omega) (by omega) (T2.out.one.drewN q3)).mono ?_; rintro e w4 ⟨y, rfl, hy, hyb, g, hg, tt⟩
        have T4 := Lib.hid ((T2.out.drew q3).cut hy hyb hg tt)
        have NY : Hid (∃ g, y.ownBlock = some g) := Lib.hid ⟨g, by rw [hyb]; exact hg⟩
        clear hy hyb hg tt
        go_wp2_with (at_builtin; refine wpList_append_own_at _ rfl _ _ 24 rfl w2.heap.size 2 i0 (.int .i64 0) 1 8 Try.underlying24 hi hz0 hz1 hz2 rfl (by decide) _ _ _ rfl (Grows.alloc T4.out.two _) ⟨w4.heap.size, 0, none⟩ 1 1 [.int .i64 (z : Int)] rfl rfl one_new (by intro u hu; simp at hu; subst hu; rfl) (by rw [intsN_len]; unfold maxLen; omega) (by rw [intsN_len]; omega) (by have := T4.out.below.size; simp; omega) ?_)
        intro v5 w5 hown hgrow _ hat
        have T5 : Hid (TwoAt w2 y v5 (intsN (K1.filter fun u => !(u == z))) (intsN (A ++ [z])) w5) := Lib.hid (by rw [intsN_snoc]; exact (T4.out.swap.more hown hgrow (by simpa using hat)).swap)
        have z0 := FZ.out w5 T5.out.below
        have bz := CX.out w5 T5.out.below
        clear hown hgrow hat a0 a1 bx
        go_wp2_with fail
        go_roundg (gk - 1)
        case measure => omega
        case rel => exact ⟨k + 1, by omega, by omega, by go_num, by rw [U2.out], by rw [U2.out]; exact T5.out, fun _ => NY.out⟩
    · obtain rfl : k = Z.length := by omega
      have hT' : TwoAt w2 u7 u8 (intsN (otK Z)) (intsN (otA Z)) wr := hT
      have lK : (otK Z).length ≤ Z.length := ok.lK
      have lA : (otA Z).length ≤ Z.length := ok.lA
      have hp : 0 < (otK Z).length + (otA Z).length := ot_pos Z (otY Z) Z.length (by omega)
      obtain ⟨g7, hg7⟩ := hnz (by omega)
      have zK := intsN_len (otK Z)
      have zA' := intsN_len (otA Z)
      have q1 := own_cases hT'.one
      have q2 := own_cases hT'.two
      have BL := Lib.hid (BW.out.trans (hT'.below.mono BW.out.size))
      clear hT hT' ok hnz
      rcases q1 with ⟨rfl, _⟩ | ⟨ad1, cp1, rfl, l1⟩
      · cases hg7
      rcases q2 with ⟨rfl, hA0⟩ | ⟨ad2, cp2, rfl, l2⟩
      · have hcat : intsN (otK Z) ++ intsN (otA Z) = intsN (otK Z) := by rw [hA0, List.append_nil]
        rw [hA0] at zA'
        have hp1 : 0 < (intsN (otK Z)).length := by rw [List.length_nil] at zA'; omega
        have HX := Lib.hid (Box2.mk' wr (.slice (some ad1) (intsN (otK Z)).length cp1) (.slice none 0 0) 24)
        have L1 : Hid (LiesC (wr.alloc (.cells #[.slice (some ad1) (intsN (otK Z)).length cp1, .slice none 0 0] 24)) ad1 (intsN (otK Z))) := Lib.hid fun w' hb => l1 w' ((below_alloc wr _).trans (hb.mono (below_alloc wr _).size))
        have BA := Lib.hid (BL.out.trans ((below_alloc wr (.cells #[.slice (some ad1) (intsN (otK Z)).length cp1, .slice none 0 0] 24)).mono BL.out.size))
        have b1 : (intsN (otK Z)).length ≤ 524288 := by omega
        have HCA := Lib.hid hcat
        have HZK := Lib.hid zK
        clear l1 hcat hA0 zK zA' hg7
        generalize intsN (otK Z) = Y1 at *
        go_wp2_with fail
        go_at_call 88; refine (concatN_any wr.heap.size ad1 cp1 Y1 _ HX.out L1.out b1 hp1).mono ?_; rintro e w12 ⟨z, rfl, iz, b12⟩
        have IZ := Lib.hid (SI.wide iz (lo' := w.heap.size) BA.out.size (Nat.le_refl _) (Nat.le_refl _))
        have BZ := Lib.hid (BA.out.trans (b12.mono BA.out.size))
        obtain ⟨az, cz, rfl⟩ := iz.len
        clear iz b12
        go_wp2_with fail
        refine bodyPost_ret (v := .tuple #[.slice az Y1.length cz, .int .i64 (Y1.length : Int), .bool true]) (by simp [results, Try.results40, go_sem]) rfl ?_
        exact ⟨.slice az Y1.length cz, by rw [HE.out.2, ← HZK.out], by rw [HE.out.1, HCA.out]; exact IZ.out, BZ.out⟩
      · have HX := Lib.hid (Box2.mk' wr (.slice (some ad1) (intsN (otK Z)).length cp1) (.slice (some ad2) (intsN (otA Z)).length cp2) 24)
        have L1 : Hid (LiesC (wr.alloc (.cells #[.slice (some ad1) (intsN (otK Z)).length cp1, .slice (some ad2) (intsN (otA Z)).length cp2] 24)) ad1 (intsN (otK Z))) := Lib.hid fun w' hb => l1 w' ((below_alloc wr _).trans (hb.mono (below_alloc wr _).size))
        have L2 : Hid (LiesC (wr.alloc (.cells #[.slice (some ad1) (intsN (otK Z)).length cp1, .slice (some ad2) (intsN (otA Z)).length cp2] 24)) ad2 (intsN (otA Z))) := Lib.hid fun w' hb => l2 w' ((below_alloc wr _).trans (hb.mono (below_alloc wr _).size))
        have BA := Lib.hid (BL.out.trans ((below_alloc wr (.cells #[.slice (some ad1) (intsN (otK Z)).length cp1, .slice (some ad2) (intsN (otA Z)).length cp2] 24)).mono BL.out.size))
        have b1 : (intsN (otK Z)).length ≤ 524288 := by omega
        have b2 : (intsN (otA Z)).length ≤ 524288 := by omega
        have b4 : 0 < (intsN (otK Z)).length + (intsN (otA Z)).length := by omega
        have HZK := Lib.hid zK
        clear l1 l2 zK zA' hg7
        generalize intsN (otK Z) = Y1 at *
        generalize intsN (otA Z) = Y2 at *
        go_wp2_with fail
        go_at_call 88; refine (concatI_any wr.heap.size ad1 ad2 cp1 cp2 Y1 Y2 _ HX.out L1.out L2.out b1 b2 b4).mono ?_; rintro e w12 ⟨z, rfl, iz, b12⟩
        have IZ := Lib.hid (SI.wide iz (lo' := w.heap.size) BA.out.size (Nat.le_refl _) (Nat.le_refl _))
        have BZ := Lib.hid (BA.out.trans (b12.mono BA.out.size))
        obtain ⟨az, cz, rfl⟩ := iz.len
        clear iz b12
        go_wp2_with fail
        refine bodyPost_ret (v := .tuple #[.slice az (Y1 ++ Y2).length cz, .int .i64 (Y1.length : Int), .bool true]) (by simp [results, Try.results40, go_sem]) rfl ?_
        exact ⟨_, by rw [HE.out.2, HZK.out], by rw [HE.out.1]; exact IZ.out, BZ.out⟩
theorem implOnTimeOrder_any (v : Value) (Z : List Ac) (w : World) (hv : AV w v Z) (o : OKA Z) :
    Calls Try.prog 40 #[v] w (SaysJIB (otL Z) (otI Z) (jobsB Z) w) := by
  cases h : jobsB Z with
  | true => exact implOt_yes v Z w hv o.size h
  | false =>
    have HE := Lib.hid (ot_no h)
    have H := Lib.hid h
    have HV := Lib.hid hv
    obtain ⟨ao, cap, rfl⟩ := hv.long
    clear hv h
    go_enter Try.func40, Try.ntmps40
    go_wp2_with fail
    go_at_call 16; refine (implDue_is false _ Z _ (HV.out.below (below_alloc w _) (Nat.le_refl _)) o.size H.out).mono ?_; rintro e w2 ⟨o', rfl, io, b2⟩
    have BW := Lib.hid ((below_alloc w _).trans (b2.mono (below_alloc w _).size))
    clear io b2
    go_wp2_with fail
    refine bodyPost_ret (v := .tuple #[.slice none 0 0, .int .i64 0, .bool false]) (by simp [results, Try.results40, go_sem]) rfl ?_
    exact ⟨_, by rw [HE.out.2], by rw [HE.out.1]; exact SI.nil _ (Nat.le_refl _) _ _, BW.out⟩
theorem otL_len (Z : List Ac) : (otL Z).length ≤ 1048576 := by
  cases h : jobsB Z with
  | false => rw [(ot_no h).1]; simp
  | true =>
    have J := jobsB_ok h
    have n2 := J.n2
    have ok : OtOk Z (otY Z) Z.length := otS_ok J (ordN_nodup (dueK Z) Z.length) (fun _ h => ordN_mem.1 h) Z.length (by rw [ordN_len]; exact Nat.le_refl _)
    have lK : (otK Z).length ≤ Z.length := ok.lK
    have lA : (otA Z).length ≤ Z.length := ok.lA
    rw [(ot_yes h).1, List.length_append, intsN_len, intsN_len]
    omega
end Go.Proofs.Ytcnfmphokobgiaa
