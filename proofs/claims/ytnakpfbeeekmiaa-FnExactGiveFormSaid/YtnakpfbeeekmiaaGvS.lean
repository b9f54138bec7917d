/- Forms with given literals: the model. -/
import Derived.Test.YtnakpfbeeekmiaaGv0
import Derived.Test.YtnakpfbeeekmiaaFo
import Derived.Test.YtnakpfbeeekmiaaClS
import Derived.Test.YtnakpfbeeekmiaaFmM
import Derived.Deep.AppendLies
namespace Go.Proofs.Ytnakpfbeeekmiaa
open Go.RowKit Go.ChangeShapes Go.WideShapes

theorem Try.infoLL : (Try.prog.info? 25).map (fun i => (i.zero, i.size, i.bytes)) = some (some (.slice none 0 0), 1, 24) := by kernel_rfl
/-- One of the first k literals is given. -/
def hasK (G E : List Int) : Nat → Bool
  | 0 => false
  | k + 1 => hasK G E k || inS G (E.getD k 0)
theorem hasK_any (G E : List Int) : hasK G E E.length = hasG G E := by
  have h : ∀ k, hasK G E k = (List.range k).any fun i => inS G (E.getD i 0) := by
    intro k
    induction k with
    | zero => rfl
    | succ k ih => rw [hasK, ih, List.range_succ, List.any_append]; simp
  rw [h]; rfl
set_option maxRecDepth 100000 in
set_option maxHeartbeats 8000000 in
theorem specGv_yes (v u : Value) (F : Fm) (G : List Int) (w : World) (hv : FmV w v F) (hu : IL w u G) (o : OKFm F) (oG : OKI G) (h : givB F G = true) :
    Calls Try.prog 34 #[v, u] w (SaysFB ⟨F.letters, gvK G F.cs F.cs.length⟩ true w) := by
  obtain ⟨i0, hi, hz0, hz1, hz2⟩ := info_parts Try.infoI
  obtain ⟨j0, hj, hy0, hy1, hy2⟩ := info_parts Try.infoLL
  unfold givB at h
  rw [Bool.and_eq_true] at h
  obtain ⟨h1, h2⟩ := h
  have H1 := Lib.hid h1
  have H2 := Lib.hid h2
  have HOK := Lib.hid (formB_ok h1)
  have n1 := HOK.out.n1
  have n2 := HOK.out.n2
  have hfew := HOK.out.few
  have nG := oG.size
  obtain ⟨s1, rfl, hl⟩ := hv
  have HL : Hid (∀ W, Below w.heap.size w W → LV W s1 F.cs) := Lib.hid fun W b => hl.below b (Nat.le_refl _)
  have HU : Hid (∀ W, Below w.heap.size w W → IL W u G) := Lib.hid fun W b => hu.below b (Nat.le_refl _)
  have HB2 : Hid (∀ A B, Below w.heap.size w ((w.alloc A).alloc B)) := Lib.hid fun A B => (below_alloc w A).alloc (by simp) B
  have HBX : Hid (∀ B, Box2 ((w.alloc (.cells #[.int .i64 F.letters, s1] 29)).alloc B) w.heap.size (.int .i64 F.letters) s1) := Lib.hid fun B => ⟨by go_simp, by go_simp⟩
  have HRS : Hid (∀ A, Res2 ((w.alloc A).alloc (.cells #[.int .i64 0, .slice none 0 0] 29)) (w.heap.size + 1)) := Lib.hid fun A => ⟨⟨.int .i64 0, by go_simp⟩, ⟨.slice none 0 0, by go_simp⟩, fun i => by go_simp⟩
  have HAT : Hid (∀ B, FmAt ((w.alloc (.cells #[.int .i64 F.letters, s1] 29)).alloc B) w.heap.size F) := Lib.hid fun B => ⟨s1, HBX.out B, HL.out _ (HB2.out _ _)⟩
  obtain ⟨ga, gc, rfl⟩ := hu.long
  obtain ⟨fa, fc, rfl⟩ := hl.long
  clear hl hu h1 h2
  go_enter Try.func34, Try.ntmps34
  go_wp2_with fail
  go_at_call 47; refine (l05Is_any w.heap.size F _ (HAT.out _) o).mono ?_; rintro e w4 ⟨rfl, b4⟩
  rw [H1.out]
  have B4 := Lib.hid ((HB2.out _ _).trans (b4.mono (by simp; omega)))
  have X4 := Lib.hid ((HBX.out _).keep b4 (by simp; omega))
  have R4 := Lib.hid ((HRS.out _).keep b4 (by simp))
  clear b4 HBX HRS HAT
  obtain ⟨x0, x1⟩ := X4.out
  go_wp2_with fail
  go_at_call 48; refine (l05Lits_any F.letters _ G _ (HU.out _ B4.out) nG n1 n2).mono ?_; rintro e w5 ⟨rfl, b5⟩
  rw [H2.out]
  have B5 := Lib.hid (B4.out.trans (b5.mono B4.out.size))
  have X5 := Lib.hid (X4.out.keep b5 X4.out.lt)
  have R5 := Lib.hid (R4.out.keep b5 R4.out.lt)
  clear b5 x0 x1 X4 R4 B4
  obtain ⟨x0, x1⟩ := X5.out
  have hs5 : w.heap.size + 1 < w5.heap.size := R5.out.lt
  have hs5' : w.heap.size < w5.heap.size := by omega
  have hw5 : w.heap.size ≤ w5.heap.size := by omega
  have HBW : Hid (∀ W, Below w5.heap.size w5 W → Below w.heap.size w W) := Lib.hid fun W b => B5.out.trans (b.mono hw5)
  have HX : Hid (∀ W, Below w5.heap.size w5 W → W.cell? ⟨w.heap.size, 0, none⟩ = some (.int .i64 F.letters) ∧ W.cell? ⟨w.heap.size, 1, none⟩ = some (.slice fa F.cs.length fc)) := Lib.hid fun W b => by
    obtain ⟨q0, q1⟩ := X5.out.keep b hs5'
    exact ⟨q0, q1⟩
  have F0 := Lib.hid (FoUp.start F.letters (Below.refl w5.heap.size w5))
  have xx := HX.out (w5.alloc (.cells #[.int .i64 F.letters, .slice none 0 0] 29)) (below_alloc _ _)
  obtain ⟨xx0, xx1⟩ := xx
  go_wp2_with fail
  go_loopg [28] F.cs.length (fun gk i wr => ∃ (k : Nat) (s : Value) (U : Nat → Value), k ≤ F.cs.length ∧ gk + k = F.cs.length ∧ i = .int .i64 k ∧ FoUp F.letters (gvK G F.cs k) w5.heap.size s w5 wr U)
  case atStart => exact ⟨0, _, _, Nat.zero_le _, by omega, rfl, F0.out⟩
  case round =>
    clear F0 xx0 xx1 x0 x1
    obtain ⟨k, s, U, hk, hgk, rfl, hF⟩ := hrel
    have HF := Lib.hid hF
    have hww : w5.heap.size ≤ wr.heap.size := hF.out.below.size
    have HBK := Lib.hid hF.out.below
    clear hF
    by_cases hlt : k < F.cs.length
    · have hcl := HOK.out.cl k hlt
      have hEl : (F.cs.getD k []).length ≤ 10 := by have := hcl.len; omega
      have HER := Lib.hid (cl_range hcl)
      have HSL : Hid (∀ W, Below w.heap.size w W → ∃ b off cap D, (Value.slice fa F.cs.length fc) = .slice (some ⟨b, off, none⟩) F.cs.length (F.cs.length + cap) ∧ W.cell? ⟨b, off + k, none⟩ = some D ∧ IL W D (F.cs.getD k [])) := Lib.hid fun W hb => by
        rcases HL.out W hb with ⟨hz, -⟩ | ⟨b, off, cap, D, e, hpos, hbl, hcell⟩
        · rw [hz] at hlt; simp at hlt
        · exact ⟨b, off, cap, D k, e, (hcell k hlt).1, (hcell k hlt).2⟩
      obtain ⟨b, off, cap, D, e, cD, iD⟩ := HSL.out _ (HBW.out _ HBK.out)
      have HCD : Hid (∀ W, Below wr.heap.size wr W → W.cell? ⟨b, off + k, none⟩ = some D ∧ IL W D (F.cs.getD k [])) := Lib.hid fun W hb => ⟨by rw [hb.cell (p := ⟨b, off + k, none⟩) (cell_block cD)]; exact cD, iD.below hb (Nat.le_refl _)⟩
      injection e with e1 _ e3
      subst e1
      have HGY := Lib.hid (@gvK_yes G F.cs k)
      have HGN := Lib.hid (@gvK_no G F.cs k)
      obtain ⟨E, hE⟩ : ∃ E, E = F.cs.getD k [] := ⟨_, rfl⟩
      rw [← hE] at hEl HER HCD HGY HGN
      clear hcl iD e3 HSL hE
      obtain ⟨da, dc, rfl⟩ := (HCD.out wr (Below.refl _ _)).2.long
      have HEC : Hid (∀ W, Below wr.heap.size wr W → ∀ a, a < E.length → ∃ eb eo, da = some ⟨eb, eo, none⟩ ∧ W.cell? ⟨eb, eo + a, none⟩ = some (.int .i64 (E.getD a 0))) := Lib.hid fun W hb a ha => by
        rcases (HCD.out W hb).2 with ⟨hz, -⟩ | ⟨eb, eo, ec, e', -, -, ecell⟩
        · rw [hz] at ha; simp at ha
        · injection e' with e1 _ _
          exact ⟨eb, eo, e1, ecell a ha⟩
      obtain ⟨wA, rfl⟩ : ∃ x : World, x = wr := ⟨_, rfl⟩
      obtain ⟨gA, rfl⟩ : ∃ x : Nat, x = gk := ⟨_, rfl⟩
      have HXA : Hid (∀ W, Below wA.heap.size wA W → W.cell? ⟨w.heap.size, 1, none⟩ = some (.slice (some ⟨b, off, none⟩) F.cs.length fc)) := Lib.hid fun W hb => (HX.out W (HBK.out.trans (hb.mono hww))).2
      have G0 : Hid (Grows (Value.int .i64) 2 wA.heap.size (.slice (some ⟨wA.heap.size, 0, none⟩) 0 0) (rst G (E.take 0)) (wA.alloc (.cells #[] 2))) := Lib.hid (Grows.empty (Value.int .i64) _ _ wA (Nat.le_refl _))
      have xA := HXA.out (wA.alloc (.cells #[] 2)) (below_alloc _ _)
      have cA := (HCD.out (wA.alloc (.cells #[] 2)) (below_alloc _ _)).1
      clear cD
      go_wp2_with fail
      go_loopg [8, 9, 38] E.length (fun gk c h i wi => ∃ a : Nat, a ≤ E.length ∧ gk + a = E.length ∧ i = .int .i64 a ∧ h = .bool (hasK G E a) ∧ Grows (Value.int .i64) 2 wA.heap.size c (rst G (E.take a)) wi ∧ Below wA.heap.size wA wi)
      case atStart => exact ⟨0, Nat.zero_le _, by omega, rfl, rfl, G0.out, below_alloc _ _⟩
      case round =>
        clear G0 xA cA
        obtain ⟨a, ha, hga, rfl, rfl, hG, hB⟩ := hrel
        have HG := Lib.hid hG
        have HB := Lib.hid hB
        clear hG hB
        by_cases hal : a < E.length
        · obtain ⟨eb, eo, rfl, cx⟩ := HEC.out _ HB.out a hal
          have xr := HXA.out _ HB.out
          have cr := (HCD.out _ HB.out).1
          obtain ⟨r1, r2⟩ := HER.out a hal
          have RY := Lib.hid (@rst_yes G E a hal)
          have RN := Lib.hid (@rst_no G E a hal)
          have HK : Hid (hasK G E (a + 1) = (hasK G E a || inS G (E.getD a 0))) := Lib.hid rfl
          have hl := rst_len G (E.take a)
          have htl : (E.take a).length = a := by simp; omega
          rw [htl] at hl
          generalize rst G (E.take a) = T at HG RY RN hl
          generalize E.getD a 0 = x at cx r1 r2 RY RN HK
          generalize hasK G E a = t at HK
          have wx : IntKind.i64.wrap (-x) = -x := IntWalk.i64_in _ (by omega)
          have HI := Lib.hid (HU.out _ (HBW.out _ (HBK.out.trans (HB.out.mono hww))))
          have l1 : (a : Int) < (E.length : Int) := by omega
          have l2 : (k : Int) < (F.cs.length : Int) := by omega
          obtain ⟨t2, ht2⟩ : ∃ t2, inS G x = t2 := ⟨_, rfl⟩
          have HT2 := Lib.hid ht2
          rw [ht2] at HK
          clear ht2 htl
          cases hs : inS G (-x) with
          | true =>
            have HS := Lib.hid hs
            have HN := Lib.hid (RN.out hs)
            clear hs RY RN
            cases t with
            | true =>
              go_wp2_with fail
              go_at_call 69; refine (l00Has_any _ G (-x) _ HI.out nG).mono ?_; rintro e w7 ⟨rfl, rfl⟩
              rw [HS.out]
              go_wp2_with fail
              go_roundg (gk - 1)
              case measure => omega
              case rel => exact ⟨a + 1, by omega, by omega, by go_num, by rw [HK.out]; rfl, by rw [HN.out]; exact HG.out, HB.out⟩
            | false =>
              go_wp2_with fail
              go_at_call 69; refine (l00Has_any _ G x _ HI.out nG).mono ?_; rintro e w7 ⟨rfl, rfl⟩
              rw [HT2.out]
              go_wp2_with fail
              go_at_call 69; refine (l00Has_any _ G (-x) _ HI.out nG).mono ?_; rintro e w7 ⟨rfl, rfl⟩
              rw [HS.out]
              go_wp2_with fail
              go_roundg (gk - 1)
              case measure => omega
              case rel => exact ⟨a + 1, by omega, by omega, by go_num, by rw [HK.out]; rfl, by rw [HN.out]; exact HG.out, HB.out⟩
          | false =>
            have HS := Lib.hid hs
            have HN := Lib.hid (RY.out hs)
            clear hs RY RN
            cases t with
            | true =>
              go_wp2_with fail
              go_at_call 69; refine (l00Has_any _ G (-x) _ HI.out nG).mono ?_; rintro e w7 ⟨rfl, rfl⟩
              rw [HS.out]
              go_wp2_with (at_builtin; (refine wpList_append_own _ rfl _ _ 25 rfl wA.heap.size 2 i0 (.int .i64 0) 1 8 Try.underlying25 hi hz0 hz1 hz2 rfl (by decide) _ _ _ rfl (Grows.alloc HG.out _) ⟨wr.heap.size, 0, none⟩ 1 1 [.int .i64 x] rfl rfl one_new (by intro u hu; simp at hu; subst hu; rfl) (by unfold maxLen; omega) (by omega) (by have := HB.out.size; simp; omega) ?_); intro v' w8 hown hgrow _; (have G8 : Hid (Grows (Value.int .i64) 2 wA.heap.size v' (T ++ [x]) w8) := Lib.hid (Grows.more rfl hown)); (have B8 : Hid (Below wA.heap.size wA w8) := Lib.hid ((HB.out.alloc HB.out.size _).grown hgrow (by have := HB.out.size; simp; omega) (fun q hq => (World.ownsRow.lt HG.out q hq).1))); clear hown hgrow)
              go_roundg (gk - 1)
              case measure => omega
              case rel => exact ⟨a + 1, by omega, by omega, by go_num, by rw [HK.out]; rfl, by rw [HN.out]; exact G8.out, B8.out⟩
            | false =>
              go_wp2_with fail
              go_at_call 69; refine (l00Has_any _ G x _ HI.out nG).mono ?_; rintro e w7 ⟨rfl, rfl⟩
              rw [HT2.out]
              go_wp2_with fail
              go_at_call 69; refine (l00Has_any _ G (-x) _ HI.out nG).mono ?_; rintro e w7 ⟨rfl, rfl⟩
              rw [HS.out]
              go_wp2_with (at_builtin; (refine wpList_append_own _ rfl _ _ 25 rfl wA.heap.size 2 i0 (.int .i64 0) 1 8 Try.underlying25 hi hz0 hz1 hz2 rfl (by decide) _ _ _ rfl (Grows.alloc HG.out _) ⟨wr.heap.size, 0, none⟩ 1 1 [.int .i64 x] rfl rfl one_new (by intro u hu; simp at hu; subst hu; rfl) (by unfold maxLen; omega) (by omega) (by have := HB.out.size; simp; omega) ?_); intro v' w8 hown hgrow _; (have G8 : Hid (Grows (Value.int .i64) 2 wA.heap.size v' (T ++ [x]) w8) := Lib.hid (Grows.more rfl hown)); (have B8 : Hid (Below wA.heap.size wA w8) := Lib.hid ((HB.out.alloc HB.out.size _).grown hgrow (by have := HB.out.size; simp; omega) (fun q hq => (World.ownsRow.lt HG.out q hq).1))); clear hown hgrow)
              go_roundg (gk - 1)
              case measure => omega
              case rel => exact ⟨a + 1, by omega, by omega, by go_num, by rw [HK.out]; rfl, by rw [HN.out]; exact G8.out, B8.out⟩
        · obtain rfl : a = E.length := by omega
          rw [hasK_any]
          have HGE : Hid (Grows (Value.int .i64) 2 wA.heap.size u8 (rst G E) wr) := Lib.hid (by have h := HG.out; rwa [List.take_length] at h)
          have HFK := Lib.hid (HF.out.keep HB.out)
          have hvl := gvK_few G F.cs k
          generalize gvK G F.cs k = T at HF HFK HGY HGN hvl
          generalize rst G E = Z at HGE HGN
          cases hs : hasG G E with
          | true =>
            have HN := Lib.hid (HGY.out hs)
            clear hs HGY HGN
            go_wp2_with fail
            go_roundg (gA - 1)
            case measure => omega
            case rel => exact ⟨k + 1, _, _, by omega, by omega, by go_num, by rw [HN.out]; exact HFK.out⟩
          | false =>
            have HN := Lib.hid (HGN.out hs)
            obtain ⟨c0, c1, c2⟩ := HFK.out.cells
            obtain ⟨za, zc, rfl⟩ := SI.len (d := (0 : Int)) HGE.out.si
            have hlw : w5.heap.size < wr.heap.size := HFK.out.lt
            clear hs HGY HGN
            go_wp2_with (at_builtin; (refine wpList_append_lies _ rfl _ _ 22 rfl w5.heap.size 25 j0 (.slice none 0 0) 1 24 Try.underlying22 hj hy0 hy1 hy2 rfl (by decide) _ _ _ rfl (World.ownsRow.alloc HFK.out.out.own _) ⟨wr.heap.size, 0, none⟩ 1 1 [.slice za Z.length zc] rfl rfl one_new (by intro u hu; simp at hu; subst hu; rfl) (by omega) (by unfold maxLen; omega) (by omega) (by simp; omega) (wr.heap.size + 1) (by simp) ?_); intro g3 cap3 w9 hown hgrow hat hgl; (have HNX := Lib.hid (fun q => FoUp.next HF.out (HB.out.alloc HB.out.size _) (HGE.out.below (below_alloc wr _) (Nat.le_refl _)) hown hgrow (hat.imp id (fun e => by rw [e]; simp)) q)); (have hk9 : w9.cell? ⟨w5.heap.size, 1, none⟩ = some s := by (rw [hgrow.cell_far ⟨w5.heap.size, 1, none⟩ (by simp; omega) (fun e => HFK.out.ne e.symm)]; exact keep_cell c1 (below_alloc wr _) hlw)); (have hf9 : w9.frozen? ⟨w5.heap.size, 1, none⟩ = false := by (rw [hgrow.frozen_far ⟨w5.heap.size, 1, none⟩ (by simp; omega) (fun e => HFK.out.ne e.symm)]; rw [(below_alloc wr _).frozen (p := ⟨w5.heap.size, 1, none⟩) hlw]; exact c2)); clear hown hgrow hat)
            go_roundg (gA - 1)
            case measure => omega
            case rel => exact ⟨k + 1, _, _, by omega, by omega, by go_num, by rw [HN.out]; exact HNX.out 0⟩
    · obtain rfl : k = F.cs.length := by omega
      obtain ⟨sa, sc, rfl⟩ := HF.out.slice
      obtain ⟨c0, c1, c2⟩ := HF.out.cells
      have RR := Lib.hid (R5.out.keep HBK.out hs5)
      obtain ⟨⟨u0, r0⟩, ⟨u1, r1⟩, rf⟩ := RR.out
      have rf0 := rf 0
      have rf1 := rf 1
      have BF := Lib.hid (HBW.out _ HBK.out)
      have hne : ¬ w5.heap.size = w.heap.size + 1 := by omega
      have hne2 : ¬ w.heap.size + 1 = w5.heap.size := by omega
      clear rf
      go_wp2_with fail
      refine bodyPost_ret (v := .tuple #[.agg #[.int .i64 F.letters, .slice sa (gvK G F.cs F.cs.length).length sc], .bool true]) (by simp [results, Try.results34, r0, r1, go_sem]) rfl ?_
      generalize hX : World.setCell _ _ _ = X
      have hT : Turned (w.heap.size + 1) (w.heap.size + 1 + 1) wr X := by
        rw [← hX]
        repeat (refine Turned.setCell ?_ (by simp) (by simp) _)
        exact Turned.refl _ _ _
      clear hX
      exact ⟨_, rfl, HF.out.res hT (by omega) hw5, BF.out.trans ((hT.below (by omega)).mono (by omega))⟩
theorem specGiveForm_any (v : Value) (F : Fm) (u : Value) (G : List Int) (w : World) (hv : FmV w v F) (hu : IL w u G) (o : OKFm F) (oG : OKI G) :
    Calls Try.prog 34 #[v, u] w (SaysFB (gvF F G) (givB F G) w) := by
  cases h : givB F G with
  | true => rw [gvF_yes h]; exact specGv_yes v u F G w hv hu o oG h
  | false =>
    rw [gvF_no h]
    obtain ⟨s1, rfl, hl⟩ := hv
    have HU : Hid (∀ W, Below w.heap.size w W → IL W u G) := Lib.hid fun W b => hu.below b (Nat.le_refl _)
    have HB2 : Hid (∀ A B, Below w.heap.size w ((w.alloc A).alloc B)) := Lib.hid fun A B => (below_alloc w A).alloc (by simp) B
    have HBX : Hid (∀ B, Box2 ((w.alloc (.cells #[.int .i64 F.letters, s1] 29)).alloc B) w.heap.size (.int .i64 F.letters) s1) := Lib.hid fun B => ⟨by go_simp, by go_simp⟩
    have HRS : Hid (∀ A, Res2 ((w.alloc A).alloc (.cells #[.int .i64 0, .slice none 0 0] 29)) (w.heap.size + 1)) := Lib.hid fun A => ⟨⟨.int .i64 0, by go_simp⟩, ⟨.slice none 0 0, by go_simp⟩, fun i => by go_simp⟩
    have HAT : Hid (∀ B, FmAt ((w.alloc (.cells #[.int .i64 F.letters, s1] 29)).alloc B) w.heap.size F) := Lib.hid fun B => ⟨s1, HBX.out B, hl.below (HB2.out _ _) (Nat.le_refl _)⟩
    obtain ⟨ga, gc, rfl⟩ := hu.long
    obtain ⟨fa, fc, rfl⟩ := hl.long
    have nG := oG.size
    unfold givB at h
    clear hl hu
    cases h1 : formB F with
    | false =>
      have H1 := Lib.hid h1
      clear h h1
      go_enter Try.func34, Try.ntmps34
      go_wp2_with fail
      go_at_call 47; refine (l05Is_any w.heap.size F _ (HAT.out _) o).mono ?_; rintro e w4 ⟨rfl, b4⟩
      rw [H1.out]
      have B4 := Lib.hid ((HB2.out _ _).trans (b4.mono (by simp; omega)))
      have R4 := Lib.hid ((HRS.out _).keep b4 (by simp))
      have hr4 := R4.out.lt
      clear b4
      obtain ⟨⟨u0, r0⟩, ⟨u1, r1⟩, rf⟩ := R4.out
      have rf0 := rf 0
      have rf1 := rf 1
      clear rf
      go_wp2_with fail
      refine bodyPost_ret (v := .tuple #[.agg #[.int .i64 0, .slice none 0 0], .bool false]) (by simp [results, Try.results34, r0, r1, go_sem]) rfl ?_
      generalize hX : World.setCell _ _ _ = X
      have hT : Turned (w.heap.size + 1) (w.heap.size + 1 + 1) w4 X := by
        rw [← hX]
        repeat (refine Turned.setCell ?_ (by simp) (by simp) _)
        exact Turned.refl _ _ _
      clear hX
      exact saysFB_no (B4.out.trans ((hT.below (by omega)).mono (by omega)))
    | true =>
      rw [h1, Bool.true_and] at h
      have H1 := Lib.hid h1
      have H2 := Lib.hid h
      have n1 := (formB_ok h1).n1
      have n2 := (formB_ok h1).n2
      clear h h1
      go_enter Try.func34, Try.ntmps34
      go_wp2_with fail
      go_at_call 47; refine (l05Is_any w.heap.size F _ (HAT.out _) o).mono ?_; rintro e w4 ⟨rfl, b4⟩
      rw [H1.out]
      have B4 := Lib.hid ((HB2.out _ _).trans (b4.mono (by simp; omega)))
      have X4 := Lib.hid ((HBX.out _).keep b4 (by simp; omega))
      have R4 := Lib.hid ((HRS.out _).keep b4 (by simp))
      clear b4 HBX HRS HAT
      obtain ⟨x0, x1⟩ := X4.out
      go_wp2_with fail
      go_at_call 48; refine (l05Lits_any F.letters _ G _ (HU.out _ B4.out) nG n1 n2).mono ?_; rintro e w5 ⟨rfl, b5⟩
      rw [H2.out]
      have B5 := Lib.hid (B4.out.trans (b5.mono B4.out.size))
      have R5 := Lib.hid (R4.out.keep b5 R4.out.lt)
      have hr5 := R5.out.lt
      clear b5 x0 x1
      obtain ⟨⟨u0, r0⟩, ⟨u1, r1⟩, rf⟩ := R5.out
      have rf0 := rf 0
      have rf1 := rf 1
      clear rf
      go_wp2_with fail
      refine bodyPost_ret (v := .tuple #[.agg #[.int .i64 0, .slice none 0 0], .bool false]) (by simp [results, Try.results34, r0, r1, go_sem]) rfl ?_
      generalize hX : World.setCell _ _ _ = X
      have hT : Turned (w.heap.size + 1) (w.heap.size + 1 + 1) w5 X := by
        rw [← hX]
        repeat (refine Turned.setCell ?_ (by simp) (by simp) _)
        exact Turned.refl _ _ _
      clear hX
      exact saysFB_no (B5.out.trans ((hT.below (by omega)).mono (by omega)))
end Go.Proofs.Ytnakpfbeeekmiaa
