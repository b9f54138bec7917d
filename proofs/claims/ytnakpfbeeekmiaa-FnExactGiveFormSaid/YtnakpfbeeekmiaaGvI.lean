/- Forms with given literals: the program. -/
import Derived.Test.YtnakpfbeeekmiaaGv0
import Derived.Test.YtnakpfbeeekmiaaFo
import Derived.Test.YtnakpfbeeekmiaaAg
import Derived.Test.YtnakpfbeeekmiaaIxGv
import Derived.Test.YtnakpfbeeekmiaaVf
import Derived.Deep.RegionLawGrows
import Derived.Deep.AppendLies
namespace Go.Proofs.Ytnakpfbeeekmiaa
open Go.RowKit Go.ChangeShapes Go.WideShapes

theorem Try.infoLI : (Try.prog.info? 25).map (fun i => (i.zero, i.size, i.bytes)) = some (some (.slice none 0 0), 1, 24) := by kernel_rfl
theorem gvCl_any (B : Nat) (x : Int) (u : Value) (G : List Int) (w : World) (hc : w.cell? ⟨B, 0, none⟩ = some u) (hu : IL w u G) (hG : G.length ≤ 1048576) :
    Calls Try.prog 70 #[.int .i64 x, .pointer (some ⟨B, 0, none⟩)] w (Says (inS G x) w) := by
  have HU := Lib.hid hu
  clear hu
  go_enter Try.func70, Try.ntmps70
  go_wp2_with fail
  go_at_call 71; refine (contains_any _ G x _ HU.out hG).mono ?_; rintro e w4 ⟨rfl, rfl⟩
  go_wp2_with fail
  go_ret
  exact says rfl (Below.refl _ _)
/-- The boxes of the call: the form that came in, the literals, the result. -/
structure GvBox (B : Nat) (L : Int) (s u : Value) (W : World) : Prop where
  c0 : W.cell? ⟨B, 0, none⟩ = some (.int .i64 L)
  c1 : W.cell? ⟨B, 1, none⟩ = some s
  d0 : W.cell? ⟨B + 1, 0, none⟩ = some u
  r : Res2 W (B + 1 + 1)
theorem GvBox.keep {B C : Nat} {L : Int} {s u : Value} {W W' : World} (h : GvBox B L s u W) (b : Below C W W') (hC : B + 1 + 1 < C) : GvBox B L s u W' :=
  ⟨by rw [b.cell (p := ⟨B, 0, none⟩) (by show B < C; omega)]; exact h.c0, by rw [b.cell (p := ⟨B, 1, none⟩) (by show B < C; omega)]; exact h.c1, by rw [b.cell (p := ⟨B + 1, 0, none⟩) (by show B + 1 < C; omega)]; exact h.d0, h.r.keep b hC⟩
set_option maxRecDepth 100000 in
set_option maxHeartbeats 8000000 in
theorem implGv_yes (v u : Value) (F : Fm) (G : List Int) (w : World) (hv : FmV w v F) (hu : IL w u G) (o : OKFm F) (oG : OKI G) (h : givB F G = true) :
    Calls Try.prog 35 #[v, u] w (SaysFB ⟨F.letters, gvK G F.cs F.cs.length⟩ true w) := by
  obtain ⟨j0, hj, hy0, hy1, hy2⟩ := info_parts Try.infoLI
  unfold givB at h
  rw [Bool.and_eq_true] at h
  obtain ⟨h1, h2⟩ := h
  have H1 := Lib.hid h1
  have H2 := Lib.hid h2
  have HOK := Lib.hid (formB_ok h1)
  have n1 := HOK.out.n1
  have n2 := HOK.out.n2
  have hfew := HOK.out.few
  have nG := oG.size
  obtain ⟨s1, rfl, hl⟩ := hv
  have HL : Hid (∀ W, Below w.heap.size w W → LV W s1 F.cs) := Lib.hid fun W b => hl.below b (Nat.le_refl _)
  have HU : Hid (∀ W, Below w.heap.size w W → IL W u G) := Lib.hid fun W b => hu.below b (Nat.le_refl _)
  have HB3 : Hid (∀ A B C, Below w.heap.size w (((w.alloc A).alloc B).alloc C)) := Lib.hid fun A B C => ((below_alloc w A).alloc (by simp) B).alloc (by simp; omega) C
  have HX0 : Hid (∀ T, GvBox w.heap.size F.letters s1 u (((w.alloc (.cells #[.int .i64 F.letters, s1] 29)).alloc (.cells #[u] T)).alloc (.cells #[.int .i64 0, .slice none 0 0] 29))) := Lib.hid fun T => ⟨by go_simp, by go_simp, by go_simp, ⟨⟨.int .i64 0, by go_simp⟩, ⟨.slice none 0 0, by go_simp⟩, fun i => by go_simp⟩⟩
  obtain ⟨ga, gc, rfl⟩ := hu.long
  obtain ⟨fa, fc, rfl⟩ := hl.long
  clear hl hu h1 h2
  go_enter Try.func35, Try.ntmps35
  go_wp2_with fail
  go_at_call 50; refine (implForm_any _ F _ ⟨_, rfl, HL.out _ (HB3.out _ _ _)⟩ o).mono ?_; rintro e w4 ⟨rfl, b4⟩
  rw [H1.out]
  have B4 := Lib.hid ((HB3.out _ _ _).trans (b4.mono (by simp; omega)))
  have X4 := Lib.hid ((HX0.out _).keep b4 (by simp))
  clear b4 HX0
  obtain ⟨x0, x1, x2, xr⟩ := X4.out
  clear xr
  go_wp2_with fail
  go_at_call 51; refine (areGiven_any F.letters _ G _ (HU.out _ B4.out) oG n1 n2).mono ?_; rintro e w5 ⟨rfl, b5⟩
  rw [H2.out]
  have B5 := Lib.hid (B4.out.trans (b5.mono B4.out.size))
  have X5 := Lib.hid (X4.out.keep b5 X4.out.r.lt)
  clear b5 x0 x1 x2 X4 B4
  obtain ⟨x0, x1, x2, xr⟩ := X5.out
  have hs5 : w.heap.size + 1 + 1 < w5.heap.size := xr.lt
  have hw5 : w.heap.size ≤ w5.heap.size := by omega
  have HBW : Hid (∀ W, Below w5.heap.size w5 W → Below w.heap.size w W) := Lib.hid fun W b => B5.out.trans (b.mono hw5)
  have HX : Hid (∀ W, Below w5.heap.size w5 W → GvBox w.heap.size F.letters (.slice fa F.cs.length fc) (.slice ga G.length gc) W) := Lib.hid fun W b => X5.out.keep b hs5
  have F0 := Lib.hid (FoUp.start F.letters (Below.refl w5.heap.size w5))
  obtain ⟨xx0, xx1, xx2, xxr⟩ := HX.out (w5.alloc (.cells #[.int .i64 F.letters, .slice none 0 0] 29)) (below_alloc _ _)
  clear xr xxr
  go_wp2_with fail
  go_loopg [27] F.cs.length (fun gk i wr => ∃ (k : Nat) (s : Value) (U : Nat → Value), k ≤ F.cs.length ∧ gk + k = F.cs.length ∧ i = .int .i64 k ∧ FoUp F.letters (gvK G F.cs k) w5.heap.size s w5 wr U)
  case atStart => exact ⟨0, _, _, Nat.zero_le _, by omega, rfl, F0.out⟩
  case round =>
    clear F0 xx0 xx1 xx2 x0 x1 x2
    obtain ⟨k, s, U, hk, hgk, rfl, hF⟩ := hrel
    have HF := Lib.hid hF
    have hww : w5.heap.size ≤ wr.heap.size := hF.out.below.size
    have HBK := Lib.hid hF.out.below
    clear hF
    by_cases hlt : k < F.cs.length
    · have hcl := HOK.out.cl k hlt
      have hEl : (F.cs.getD k []).length ≤ 10 := by have := hcl.len; omega
      have HER := Lib.hid (cl_range hcl)
      have HSL : Hid (∀ W, Below w.heap.size w W → ∃ b off cap D, (Value.slice fa F.cs.length fc) = .slice (some ⟨b, off, none⟩) F.cs.length (F.cs.length + cap) ∧ W.cell? ⟨b, off + k, none⟩ = some D ∧ IL W D (F.cs.getD k [])) := Lib.hid fun W hb => by
        rcases HL.out W hb with ⟨hz, -⟩ | ⟨b, off, cap, D, e, hpos, hbl, hcell⟩
        · rw [hz] at hlt; simp at hlt
        · exact ⟨b, off, cap, D k, e, (hcell k hlt).1, (hcell k hlt).2⟩
      obtain ⟨b, off, cap, D, e, cD, iD⟩ := HSL.out _ (HBW.out _ HBK.out)
      have HID : Hid (∀ W, Below wr.heap.size wr W → IL W D (F.cs.getD k [])) := Lib.hid fun W hb => iD.below hb (Nat.le_refl _)
      injection e with e1 _ e3
      subst e1
      have HGY := Lib.hid (@gvK_yes G F.cs k)
      have HGN := Lib.hid (@gvK_no G F.cs k)
      have hvl := gvK_few G F.cs k
      generalize gvK G F.cs k = T at HF HGY HGN hvl
      obtain ⟨E, hE⟩ : ∃ E, E = F.cs.getD k [] := ⟨_, rfl⟩
      rw [← hE] at hEl HER HID HGY HGN
      clear hcl iD e3 HSL hE
      obtain ⟨da, dc, rfl⟩ := (HID.out wr (Below.refl _ _)).long
      have HCLO : Hid (∀ W, Below wr.heap.size wr W → ∀ x, Calls Try.prog 70 #[.int .i64 x, .pointer (some ⟨w.heap.size + 1, 0, none⟩)] W (Says (inS G x) W)) := Lib.hid fun W hb x =>
        gvCl_any _ x _ G W (HX.out W (HBK.out.trans (hb.mono hww))).d0 (HU.out W (HBW.out W (HBK.out.trans (hb.mono hww)))) nG
      have HUG : Hid (∀ W, Below wr.heap.size wr W → IL W (.slice ga G.length gc) G) := Lib.hid fun W hb => HU.out W (HBW.out W (HBK.out.trans (hb.mono hww)))
      have HXR : Hid (∀ W, Below wr.heap.size wr W → W.cell? ⟨w.heap.size + 1, 0, none⟩ = some (.slice ga G.length gc)) := Lib.hid fun W hb => (HX.out W (HBK.out.trans (hb.mono hww))).d0
      obtain ⟨wA, rfl⟩ : ∃ x : World, x = wr := ⟨_, rfl⟩
      cases hs : hasG G E with
      | true =>
        have HS := Lib.hid hs
        have HN := Lib.hid (HGY.out hs)
        clear hs HGY HGN
        go_wp2_with fail
        go_at_call 72; refine (ctGv_any (inS G) (w.heap.size + 1) _ E _ (HID.out _ (Below.refl _ _)) (by omega) (fun k w' _ hb => HCLO.out w' hb _)).mono ?_; rintro e w6 ⟨rfl, b6⟩
        rw [show anyZ (inS G) E = true from HS.out]
        have B6 := Lib.hid b6
        clear b6
        go_wp2_with fail
        go_roundg (gk - 1)
        case measure => omega
        case rel => exact ⟨k + 1, _, _, by omega, by omega, by go_num, by rw [HN.out]; exact HF.out.keep B6.out⟩
      | false =>
        have HS := Lib.hid hs
        have HN := Lib.hid (HGN.out hs)
        clear hs HGY HGN
        go_wp2_with fail
        go_at_call 72; refine (ctGv_any (inS G) (w.heap.size + 1) _ E _ (HID.out _ (Below.refl _ _)) (by omega) (fun k w' _ hb => HCLO.out w' hb _)).mono ?_; rintro e w6 ⟨rfl, b6⟩
        rw [show anyZ (inS G) E = false from HS.out]
        have hw6 : wA.heap.size ≤ w6.heap.size := b6.size
        have HF6 := Lib.hid (HF.out.keep b6)
        have HI6 : Hid (∀ W, Below w6.heap.size w6 W → IL W (.slice da E.length dc) E ∧ IL W (.slice ga G.length gc) G) := Lib.hid fun W hb => ⟨HID.out W (b6.trans (hb.mono hw6)), HUG.out W (b6.trans (hb.mono hw6))⟩
        have c6 := HF6.out.cells.2.1
        have d6 := HXR.out w6 b6
        have hl6 : w5.heap.size < w6.heap.size := HF6.out.lt
        have hl66 : w5.heap.size ≤ w6.heap.size := by omega
        have RO : Hid (∀ W, Below w6.heap.size w6 W → Calls Try.prog 73 #[.slice da E.length dc, .slice ga G.length gc] W (GrownI (rst G E) W)) := Lib.hid fun W hb => restOf_any _ _ E G W (HI6.out W hb).1 (HI6.out W hb).2 (by omega) nG (fun i hi => by have := HER.out i hi; omega)
        generalize rst G E = Z at RO HN
        clear b6
        go_wp2_with fail
        go_region_law (first
          | (go_simp; go_at_call 73; refine (RO.out _ (by first | exact Below.refl _ _ | exact below_drewN (Below.refl _ _) _ | exact (Below.refl _ _).drew)).mono ?_; rintro e w7 ⟨dv, rfl, hd, b7⟩; have B7 : Hid (Below w6.heap.size w6 w7) := Lib.hid (by first | exact b7 | exact (below_drewN (Below.refl w6.heap.size w6) _).trans b7 | exact (Below.refl w6.heap.size w6).drew.trans b7); have D7 : Hid (Grows (Value.int .i64) 2 w6.heap.size dv Z w7) := Lib.hid hd; clear hd b7; obtain ⟨za, zc, rfl⟩ := SI.len (d := (0 : Int)) D7.out.si; have HF7 := Lib.hid (HF6.out.keep B7.out); have c7 := HF7.out.cells.2.1; have d7 : w7.cell? ⟨w.heap.size + 1, 0, none⟩ = some (.slice ga G.length gc) := keep_cell d6 B7.out (cell_block d6); have HOWN : Hid (∀ W, Below w7.heap.size w7 W → W.ownsRow w5.heap.size 25 1 s T.length ((List.range T.length).map U)) := Lib.hid fun W hb => (HF7.out.keep hb).out.own; have hz7 : w6.heap.size ≤ w7.heap.size := B7.out.size; have c7a : ∀ o, (w7.alloc o).cell? ⟨w5.heap.size, 1, none⟩ = some s := fun o => keep_cell c7 (below_alloc w7 o) (Nat.lt_of_lt_of_le hl6 hz7); go_wp2_with fail)
          | (refine step_append_lies _ (by rfl) _ _ _ (by rfl) w5.heap.size 25 j0 _ 1 24 Try.underlying22 hj hy0 hy1 hy2 rfl (by omega) s T.length ((List.range T.length).map U) (by rfl) (HOWN.out _ (by first | exact below_alloc _ _ | exact (below_drewN (Below.refl _ _) _).alloc (Nat.le_refl _) _ | exact below_drewN (below_alloc _ _) _ | exact (Below.refl _ _).drew.alloc (Nat.le_refl _) _ | exact (below_alloc _ _).drew)) ⟨w7.heap.size, 0, none⟩ 1 1 [.slice za Z.length zc] (by rfl) (by rfl) (World.news_of_block (cs := #[_]) (t := 25) (fr := (0, 0)) (heap_alloc_new _ _)) (by simp [Value.oneCell']) (by omega) (by unfold maxLen; omega) (by omega) (by simp; omega) (w7.heap.size + 1) (by simp) ?_; intro gg gcap w9 hown hgrow hat hlt9; obtain ⟨hk9, hf9⟩ := HF7.out.kept (by first | exact below_alloc w7 _ | exact (below_drewN (Below.refl w7.heap.size w7) _).alloc (Nat.le_refl _) _ | exact below_drewN (below_alloc w7 _) _ | exact (Below.refl w7.heap.size w7).drew.alloc (Nat.le_refl _) _ | exact (below_alloc w7 _).drew) hgrow; have HNX := Lib.hid (fun q => FoUp.next HF6.out (by first | exact B7.out.trans ((below_alloc w7 _).mono hz7) | exact B7.out.trans (((below_drewN (Below.refl w7.heap.size w7) _).alloc (Nat.le_refl _) _).mono hz7) | exact B7.out.trans ((below_drewN (below_alloc w7 _) _).mono hz7) | exact B7.out.trans (((Below.refl w7.heap.size w7).drew.alloc (Nat.le_refl _) _).mono hz7) | exact B7.out.trans ((below_alloc w7 _).drew.mono hz7)) (D7.out.below (by first | exact below_alloc w7 _ | exact (below_drewN (Below.refl w7.heap.size w7) _).alloc (Nat.le_refl _) _ | exact below_drewN (below_alloc w7 _) _ | exact (Below.refl w7.heap.size w7).drew.alloc (Nat.le_refl _) _ | exact (below_alloc w7 _).drew) (Nat.le_refl _)) hown hgrow (hat.imp id (fun e => by rw [e]; simp)) q); clear hown hgrow hat hlt9))
        all_goals
          go_wp2_with fail
          go_roundg (gk - 1)
          case measure => omega
          case rel => exact ⟨k + 1, _, _, by omega, by omega, by go_num, by rw [HN.out]; exact HNX.out 0⟩
    · obtain rfl : k = F.cs.length := by omega
      obtain ⟨sa, sc, rfl⟩ := HF.out.slice
      obtain ⟨c0, c1, c2⟩ := HF.out.cells
      obtain ⟨⟨u0, r0⟩, ⟨u1, r1⟩, rf⟩ := (HX.out _ HBK.out).r
      have rf0 := rf 0
      have rf1 := rf 1
      have BF := Lib.hid (HBW.out _ HBK.out)
      have hne : ¬ w5.heap.size = w.heap.size + 1 + 1 := by omega
      have hne2 : ¬ w.heap.size + 1 + 1 = w5.heap.size := by omega
      clear rf
      go_wp2_with fail
      refine bodyPost_ret (v := .tuple #[.agg #[.int .i64 F.letters, .slice sa (gvK G F.cs F.cs.length).length sc], .bool true]) (by simp [results, Try.results35, r0, r1, go_sem]) rfl ?_
      generalize hX : World.setCell _ _ _ = X
      have hT : Turned (w.heap.size + 1 + 1) (w.heap.size + 1 + 1 + 1) wr X := by
        rw [← hX]
        repeat (refine Turned.setCell ?_ (by simp) (by simp) _)
        exact Turned.refl _ _ _
      clear hX
      exact ⟨_, rfl, HF.out.res hT (by omega) hw5, BF.out.trans ((hT.below (by omega)).mono (by omega))⟩
end Go.Proofs.Ytnakpfbeeekmiaa
