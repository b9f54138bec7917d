/- Forms without clauses that others tell: the program. -/
import Derived.Test.YtnakpfbeeekmiaaThT
import Derived.Test.YtnakpfbeeekmiaaFo
import Derived.Test.YtnakpfbeeekmiaaRst
import Derived.Test.YtnakpfbeeekmiaaLiI
import Derived.Deep.RegionLawGrows
import Derived.Deep.AppendLies
namespace Go.Proofs.Ytnakpfbeeekmiaa
open Go.RowKit Go.ChangeShapes Go.WideShapes

theorem Try.infoLT : (Try.prog.info? 25).map (fun i => (i.zero, i.size, i.bytes)) = some (some (.slice none 0 0), 1, 24) := by kernel_rfl
theorem thinK_yes {C : List (List Int)} {k : Nat} (h : toldK C k C.length = true) : thinK C (k + 1) = thinK C k := by rw [thinK, if_pos h]
theorem thinK_go {C : List (List Int)} {k : Nat} (h : toldK C k C.length = false) : thinK C (k + 1) = thinK C k ++ [C.getD k []] := by rw [thinK, if_neg (by rw [h]; simp)]
theorem thinF_yes {F : Fm} (h : formB F = true) : thinF F = ⟨F.letters, thinK F.cs F.cs.length⟩ := by unfold thinF; rw [if_pos h]
theorem thinF_no {F : Fm} (h : formB F = false) : thinF F = ⟨0, []⟩ := by unfold thinF; rw [h]; rfl
set_option maxHeartbeats 1000000 in
theorem cloneT_any (v : Value) (Z : List Int) (w : World) (hv : IL w v Z) (hn : Z.length ≤ 1048576) :
    Calls Try.prog 76 #[v] w (GrownI Z w) := by
  obtain ⟨i0, hi, hz0, hz1, hz2⟩ := info_parts Try.infoI
  rcases hv.lies with ⟨rfl, cap, rfl⟩ | ⟨ad, cap, rfl, hl⟩
  · have hnil := fun (W : World) => Lib.run_eql_slice_nil (P := Try.prog) W 25 2 none 0 cap 0 0 Try.underlying25
    clear hv
    go_enter Try.func76, Try.ntmps76
    go_wp2_with fail
    refine bodyPost_ret (results_tmp rfl _ _ _) rfl ?_
    exact ⟨_, rfl, Grows.nil _ _ _ _, Below.refl _ _⟩
  · have HL := Lib.hid hl
    clear hv hl
    have hnil := fun (W : World) => Lib.run_eql_slice_nil (P := Try.prog) W 25 2 (some ad) Z.length cap 0 0 Try.underlying25
    go_enter Try.func76, Try.ntmps76
    go_wp2_with (at_builtin; refine wpList_append_own _ rfl _ _ 25 rfl w.heap.size 2 i0 (.int .i64 0) 1 8 Try.underlying25 hi hz0 hz1 hz2 rfl (by decide) _ _ _ rfl (Grows.empty (Value.int .i64) _ _ w (Nat.le_refl _)) ad Z.length cap (Z.map (Value.int .i64)) rfl (by simp) ?c1 ?c2 ?c3 ?c4 ?c5 ?_)
    case c1 => exact HL.out _
    case c2 => exact map_oneI Z
    case c3 => simp; unfold maxLen; omega
    case c4 => simp; omega
    case c5 => simp
    intro v' w' hown hgrow _
    have HN : Hid (Grows (Value.int .i64) 2 w.heap.size v' Z w') := Lib.hid (by have h := hown; show World.ownsRow _ _ _ _ _ _ _; simpa using h)
    have HB := Lib.hid ((below_alloc w _).grown hgrow (by simp) (fun k hk => by simp [Value.ownBlock] at hk; omega))
    clear hown hgrow
    go_wp2_with fail
    refine bodyPost_ret (results_tmp rfl _ _ _) rfl ?_
    exact ⟨_, rfl, HN.out, HB.out⟩
/-- The boxes of the call: the form that came in, the result. -/
structure ThBox (B : Nat) (L : Int) (s : Value) (W : World) : Prop where
  c0 : W.cell? ⟨B, 0, none⟩ = some (.int .i64 L)
  c1 : W.cell? ⟨B, 1, none⟩ = some s
  r : Res2 W (B + 1)
theorem ThBox.keep {B C : Nat} {L : Int} {s : Value} {W W' : World} (h : ThBox B L s W) (b : Below C W W') (hC : B + 1 < C) : ThBox B L s W' :=
  ⟨by rw [b.cell (p := ⟨B, 0, none⟩) (by show B < C; omega)]; exact h.c0, by rw [b.cell (p := ⟨B, 1, none⟩) (by show B < C; omega)]; exact h.c1, h.r.keep b hC⟩
set_option maxRecDepth 100000 in
set_option maxHeartbeats 8000000 in
theorem implThinForm_any (v : Value) (F : Fm) (w : World) (hv : FmV w v F) (o : OKFm F) :
    Calls Try.prog 38 #[v] w (SaysFB (thinF F) (formB F) w) := by
  obtain ⟨j0, hj, hy0, hy1, hy2⟩ := info_parts Try.infoLT
  obtain ⟨s1, rfl, hl⟩ := hv
  have HL : Hid (∀ W, Below w.heap.size w W → LV W s1 F.cs) := Lib.hid fun W b => hl.below b (Nat.le_refl _)
  have HB3 : Hid (∀ A B, Below w.heap.size w ((w.alloc A).alloc B)) := Lib.hid fun A B => (below_alloc w A).alloc (by simp) B
  have HX0 : Hid (ThBox w.heap.size F.letters s1 ((w.alloc (.cells #[.int .i64 F.letters, s1] 29)).alloc (.cells #[.int .i64 0, .slice none 0 0] 29))) := Lib.hid ⟨by go_simp, by go_simp, ⟨⟨.int .i64 0, by go_simp⟩, ⟨.slice none 0 0, by go_simp⟩, fun i => by go_simp⟩⟩
  obtain ⟨fa, fc, rfl⟩ := hl.long
  clear hl
  cases h1 : formB F with
  | false =>
    rw [thinF_no h1]
    have H1 := Lib.hid h1
    clear h1
    go_enter Try.func38, Try.ntmps38
    go_wp2_with fail
    go_at_call 50; refine (implForm_any _ F _ ⟨_, rfl, HL.out _ (HB3.out _ _)⟩ o).mono ?_; rintro e w4 ⟨rfl, b4⟩
    rw [H1.out]
    have B4 := Lib.hid ((HB3.out _ _).trans (b4.mono (by simp; omega)))
    have R4 := Lib.hid (HX0.out.keep b4 (by simp)).r
    have hr4 := R4.out.lt
    clear b4
    obtain ⟨⟨u0, r0⟩, ⟨u1, r1⟩, rf⟩ := R4.out
    have rf0 := rf 0
    have rf1 := rf 1
    clear rf
    go_wp2_with fail
    refine bodyPost_ret (v := .tuple #[.agg #[.int .i64 0, .slice none 0 0], .bool false]) (by simp [results, Try.results38, r0, r1, go_sem]) rfl ?_
    generalize hX : World.setCell _ _ _ = X
    have hT : Turned (w.heap.size + 1) (w.heap.size + 1 + 1) w4 X := by
      rw [← hX]
      repeat (refine Turned.setCell ?_ (by simp) (by simp) _)
      exact Turned.refl _ _ _
    clear hX
    exact saysFB_no (B4.out.trans ((hT.below (by omega)).mono (by omega)))
  | true =>
    rw [thinF_yes h1]
    have H1 := Lib.hid h1
    have HOK := Lib.hid (formB_ok h1)
    have hfew := HOK.out.few
    clear h1
    go_enter Try.func38, Try.ntmps38
    go_wp2_with fail
    go_at_call 50; refine (implForm_any _ F _ ⟨_, rfl, HL.out _ (HB3.out _ _)⟩ o).mono ?_; rintro e w4 ⟨rfl, b4⟩
    rw [H1.out]
    have B5 := Lib.hid ((HB3.out _ _).trans (b4.mono (by simp; omega)))
    have X5 := Lib.hid (HX0.out.keep b4 (by simp))
    clear b4 HX0
    obtain ⟨w5, rfl⟩ : ∃ x : World, x = w4 := ⟨_, rfl⟩
    obtain ⟨x0, x1, xr⟩ := X5.out
    have hs5 : w.heap.size + 1 < w5.heap.size := xr.lt
    have hw5 : w.heap.size ≤ w5.heap.size := by omega
    have HBW : Hid (∀ W, Below w5.heap.size w5 W → Below w.heap.size w W) := Lib.hid fun W b => B5.out.trans (b.mono hw5)
    have HX : Hid (∀ W, Below w5.heap.size w5 W → ThBox w.heap.size F.letters (.slice fa F.cs.length fc) W) := Lib.hid fun W b => X5.out.keep b hs5
    have F0 := Lib.hid (FoUp.start F.letters (Below.refl w5.heap.size w5))
    obtain ⟨xx0, xx1, xxr⟩ := HX.out (w5.alloc (.cells #[.int .i64 F.letters, .slice none 0 0] 29)) (below_alloc _ _)
    clear xr xxr
    go_wp2_with fail
    go_loopg [17] F.cs.length (fun gk i wr => ∃ (k : Nat) (s : Value) (U : Nat → Value), k ≤ F.cs.length ∧ gk + k = F.cs.length ∧ i = .int .i64 k ∧ FoUp F.letters (thinK F.cs k) w5.heap.size s w5 wr U)
    case atStart => exact ⟨0, _, _, Nat.zero_le _, by omega, rfl, F0.out⟩
    case round =>
      clear F0 xx0 xx1 x0 x1
      obtain ⟨k, s, U, hk, hgk, rfl, hF⟩ := hrel
      have HF := Lib.hid hF
      have hww : w5.heap.size ≤ wr.heap.size := hF.out.below.size
      have HBK := Lib.hid hF.out.below
      clear hF
      by_cases hlt : k < F.cs.length
      · obtain ⟨b, off, cap, e, hcs⟩ := lv_cellsT (HL.out _ (HBW.out _ HBK.out)) (by omega)
        injection e with e1 _ e3
        subst e1
        obtain ⟨da, dn, dc, cD, hdn, iD⟩ := hcs k hlt
        have HID : Hid (∀ W, Below wr.heap.size wr W → IL W (.slice da dn dc) (F.cs.getD k [])) := Lib.hid fun W hb => iD.below hb (Nat.le_refl _)
        have hEl : (F.cs.getD k []).length ≤ 10 := by have := (HOK.out.cl k hlt).len; have := HOK.out.n2; omega
        have HGY := Lib.hid (@thinK_yes F.cs k)
        have HGN := Lib.hid (@thinK_go F.cs k)
        have hvl := thinK_len F.cs k
        have IT := Lib.hid fun W (hb : Below wr.heap.size wr W) => isTold_any (.agg #[.int .i64 F.letters, .slice (some ⟨b, off, none⟩) F.cs.length fc]) F k W ⟨_, rfl, HL.out W (HBW.out W (HBK.out.trans (hb.mono hww)))⟩ HOK.out hlt
        generalize thinK F.cs k = T at HF HGY HGN hvl
        obtain ⟨E, hE⟩ : ∃ E, E = F.cs.getD k [] := ⟨_, rfl⟩
        rw [← hE] at hEl HID HGN
        obtain ⟨x0, x1, xr⟩ := HX.out _ HBK.out
        clear iD e3 hcs hE hdn xr
        obtain ⟨wA, rfl⟩ : ∃ x : World, x = wr := ⟨_, rfl⟩
        cases hs : toldK F.cs k F.cs.length with
        | true =>
          have HN := Lib.hid (HGY.out hs)
          rw [hs] at IT
          clear hs HGY HGN
          go_wp2_with fail
          go_at_call 75; refine (IT.out _ (Below.refl _ _)).mono ?_; rintro e w6 ⟨rfl, b6⟩
          have B6 := Lib.hid b6
          clear b6 x0 x1
          go_wp2_with fail
          go_roundg (gk - 1)
          case measure => omega
          case rel => exact ⟨k + 1, _, _, by omega, by omega, by go_num, by rw [HN.out]; exact HF.out.keep B6.out⟩
        | false =>
          have HN := Lib.hid (HGN.out hs)
          rw [hs] at IT
          clear hs HGY HGN
          go_wp2_with fail
          go_at_call 75; refine (IT.out _ (Below.refl _ _)).mono ?_; rintro e w6 ⟨rfl, b6⟩
          have hw6 : wA.heap.size ≤ w6.heap.size := b6.size
          have HF6 := Lib.hid (HF.out.keep b6)
          have c6 := HF6.out.cells.2.1
          have hl6 : w5.heap.size < w6.heap.size := HF6.out.lt
          have hl66 : w5.heap.size ≤ w6.heap.size := by omega
          have RO : Hid (∀ W, Below w6.heap.size w6 W → Calls Try.prog 76 #[.slice da dn dc] W (GrownI E W)) := Lib.hid fun W hb => cloneT_any _ E W (HID.out W (b6.trans (hb.mono hw6))) (by omega)
          obtain ⟨Z, hZ⟩ : ∃ Z, E = Z := ⟨_, rfl⟩
          rw [hZ] at RO HN
          clear b6 x0 x1 hZ
          go_wp2_with fail
          go_region_law (first
            | (go_simp; go_at_call 76; refine (RO.out _ (by first | exact Below.refl _ _ | exact below_drewN (Below.refl _ _) _ | exact (Below.refl _ _).drew)).mono ?_; rintro e w7 ⟨dv, rfl, hd, b7⟩; have B7 : Hid (Below w6.heap.size w6 w7) := Lib.hid (by first | exact b7 | exact (below_drewN (Below.refl w6.heap.size w6) _).trans b7 | exact (Below.refl w6.heap.size w6).drew.trans b7); have D7 : Hid (Grows (Value.int .i64) 2 w6.heap.size dv Z w7) := Lib.hid hd; clear hd b7; obtain ⟨za, zc, rfl⟩ := SI.len (d := (0 : Int)) D7.out.si; have HF7 := Lib.hid (HF6.out.keep B7.out); have c7 := HF7.out.cells.2.1; have HOWN : Hid (∀ W, Below w7.heap.size w7 W → W.ownsRow w5.heap.size 25 1 s T.length ((List.range T.length).map U)) := Lib.hid fun W hb => (HF7.out.keep hb).out.own; have hz7 : w6.heap.size ≤ w7.heap.size := B7.out.size; have c7a : ∀ o, (w7.alloc o).cell? ⟨w5.heap.size, 1, none⟩ = some s := fun o => keep_cell c7 (below_alloc w7 o) (Nat.lt_of_lt_of_le hl6 hz7); go_wp2_with fail)
            | (refine step_append_lies _ (by rfl) _ _ _ (by rfl) w5.heap.size 25 j0 _ 1 24 Try.underlying22 hj hy0 hy1 hy2 rfl (by omega) s T.length ((List.range T.length).map U) (by rfl) (HOWN.out _ (by first | exact below_alloc _ _ | exact (below_drewN (Below.refl _ _) _).alloc (Nat.le_refl _) _ | exact below_drewN (below_alloc _ _) _ | exact (Below.refl _ _).drew.alloc (Nat.le_refl _) _ | exact (below_alloc _ _).drew)) ⟨w7.heap.size, 0, none⟩ 1 1 [.slice za Z.length zc] (by rfl) (by rfl) (World.news_of_block (cs := #[_]) (t := 25) (fr := (0, 0)) (heap_alloc_new _ _)) (by simp [Value.oneCell']) (by omega) (by unfold maxLen; omega) (by omega) (by simp; omega) (w7.heap.size + 1) (by simp) ?_; intro gg gcap w9 hown hgrow hat hlt9; obtain ⟨hk9, hf9⟩ := HF7.out.kept (by first | exact below_alloc w7 _ | exact (below_drewN (Below.refl w7.heap.size w7) _).alloc (Nat.le_refl _) _ | exact below_drewN (below_alloc w7 _) _ | exact (Below.refl w7.heap.size w7).drew.alloc (Nat.le_refl _) _ | exact (below_alloc w7 _).drew) hgrow; have HNX := Lib.hid (fun q => FoUp.next HF6.out (by first | exact B7.out.trans ((below_alloc w7 _).mono hz7) | exact B7.out.trans (((below_drewN (Below.refl w7.heap.size w7) _).alloc (Nat.le_refl _) _).mono hz7) | exact B7.out.trans ((below_drewN (below_alloc w7 _) _).mono hz7) | exact B7.out.trans (((Below.refl w7.heap.size w7).drew.alloc (Nat.le_refl _) _).mono hz7) | exact B7.out.trans ((below_alloc w7 _).drew.mono hz7)) (D7.out.below (by first | exact below_alloc w7 _ | exact (below_drewN (Below.refl w7.heap.size w7) _).alloc (Nat.le_refl _) _ | exact below_drewN (below_alloc w7 _) _ | exact (Below.refl w7.heap.size w7).drew.alloc (Nat.le_refl _) _ | exact (below_alloc w7 _).drew) (Nat.le_refl _)) hown hgrow (hat.imp id (fun e => by rw [e]; simp)) q); clear hown hgrow hat hlt9))
          all_goals
            go_wp2_with fail
            go_roundg (gk - 1)
            case measure => omega
            case rel => exact ⟨k + 1, _, _, by omega, by omega, by go_num, by rw [HN.out]; exact HNX.out 0⟩
      · obtain rfl : k = F.cs.length := by omega
        obtain ⟨sa, sc, rfl⟩ := HF.out.slice
        obtain ⟨c0, c1, c2⟩ := HF.out.cells
        obtain ⟨⟨u0, r0⟩, ⟨u1, r1⟩, rf⟩ := (HX.out _ HBK.out).r
        have rf0 := rf 0
        have rf1 := rf 1
        have BF := Lib.hid (HBW.out _ HBK.out)
        have hne : ¬ w5.heap.size = w.heap.size + 1 := by omega
        have hne2 : ¬ w.heap.size + 1 = w5.heap.size := by omega
        clear rf
        go_wp2_with fail
        refine bodyPost_ret (v := .tuple #[.agg #[.int .i64 F.letters, .slice sa (thinK F.cs F.cs.length).length sc], .bool true]) (by simp [results, Try.results38, r0, r1, go_sem]) rfl ?_
        generalize hX : World.setCell _ _ _ = X
        have hT : Turned (w.heap.size + 1) (w.heap.size + 1 + 1) wr X := by
          rw [← hX]
          repeat (refine Turned.setCell ?_ (by simp) (by simp) _)
          exact Turned.refl _ _ _
        clear hX
        exact ⟨_, rfl, HF.out.res hT (by omega) hw5, BF.out.trans ((hT.below (by omega)).mono (by omega))⟩
end Go.Proofs.Ytnakpfbeeekmiaa
