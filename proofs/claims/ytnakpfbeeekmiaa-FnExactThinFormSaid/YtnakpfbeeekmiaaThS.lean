/- Forms without clauses that others tell: the model. -/
import Derived.Test.YtnakpfbeeekmiaaThP
import Derived.Test.YtnakpfbeeekmiaaFo
import Derived.Test.YtnakpfbeeekmiaaConZ
import Derived.Deep.RegionLawGrows
import Derived.Deep.AppendLies
import Derived.Deep.QuietTactic
import Derived.BigQuiet
namespace Go.Proofs.Ytnakpfbeeekmiaa
open Go.RowKit Go.ChangeShapes Go.WideShapes

theorem Try.infoLTS : (Try.prog.info? 25).map (fun i => (i.zero, i.size, i.bytes)) = some (some (.slice none 0 0), 1, 24) := by kernel_rfl
theorem thinS_yes {C : List (List Int)} {k : Nat} (h : toldK C k C.length = true) : thinK C (k + 1) = thinK C k := by rw [thinK, if_pos h]
theorem thinS_go {C : List (List Int)} {k : Nat} (h : toldK C k C.length = false) : thinK C (k + 1) = thinK C k ++ [C.getD k []] := by rw [thinK, if_neg (by rw [h]; simp)]
theorem thinS_is {F : Fm} (h : formB F = true) : thinF F = ⟨F.letters, thinK F.cs F.cs.length⟩ := by unfold thinF; rw [if_pos h]
theorem thinS_no {F : Fm} (h : formB F = false) : thinF F = ⟨0, []⟩ := by unfold thinF; rw [h]; rfl
theorem lv_cellsU {w : World} {v : Value} {L : List (List Int)} (h : LV w v L) (h0 : 0 < L.length) : ∃ b off cap, v = .slice (some ⟨b, off, none⟩) L.length (L.length + cap) ∧ ∀ i, i < L.length → ∃ ad n c, w.cell? ⟨b, off + i, none⟩ = some (.slice ad n c) ∧ n = (L.getD i []).length ∧ IL w (.slice ad n c) (L.getD i []) := by
  rcases h with ⟨rfl, ao, cap, rfl⟩ | ⟨b, off, cap, U, rfl, h2, h3, h4⟩
  · simp at h0
  · refine ⟨b, off, cap, rfl, fun i hi => ?_⟩
    obtain ⟨h5, h6⟩ := h4 i hi
    obtain ⟨ad, c, e⟩ := h6.long
    rw [e] at h5 h6
    exact ⟨ad, _, c, h5, rfl, h6⟩
theorem step_zeroT {P : Program} {w : World} {ops : Array Oper} {o : Oper} {a : Act} {K : Act → World → Prop} {Q : Exit → Act → World → Prop} {E : Prop} (hgd : o.guard = none) (s x : Operand) (t : TypeId)
    (ho : o.op = .call { callee := .builtin .append, args := #[s, x], argTypes := #[t, t] })
    (base : Nat) (e : TypeId) (i : TypeInfo) (z : Value) (size bytes : Nat) (ht : P.underlying t = some (.slice e)) (hi : P.info? e = some i) (hz : i.zero = some z)
    (hsize : i.size = size) (hby : i.bytes = bytes) (hzs : z.cells.size = size) (hsz : 0 < size)
    (v : Value) (n : Nat) (xs : List Value) (hs : a.eval s = v) (hown : w.ownsRow base e size v n xs) (ad : Addr) (c : Nat) (hx : a.eval x = .slice (some ad) 0 c) (h63 : n ≤ maxLen) (hbytes : n * bytes ≤ 140737488355328) (hbase : base ≤ w.heap.size)
    (h : ∀ v' w', w'.ownsRow base e size v' n xs → w.grownBy w' v.ownBlock → K (a.put o.dst v') w') :
    if Region.wanted o (yielded ops a.tmps) = true then Oper.wp P o a w K Q else E := by
  have hw : Region.wanted o (yielded ops a.tmps) = true := by simp [Region.wanted, hgd]
  rw [if_pos hw]
  exact wp_append_own w s x t ho base e i z size bytes ht hi hz hsize hby hzs hsz v n xs hs hown ad 0 c [] hx (by simp) (by intro j u hu; simp at hu) (by simp) (by simpa using h63) (by simpa using hbytes) hbase fun v' w' h2 h3 _ => h v' w' (by simpa using h2) h3
/-- A list is put behind an empty one of the call's own, as one step of a region that draws. -/
theorem step_copyI {ops : Array Oper} {o : Oper} {a : Act} {w : World} {K : Act → World → Prop} {Q : Exit → Act → World → Prop} {E' : Prop} (hgd : o.guard = none) (s x : Operand)
    (ho : o.op = .call { callee := .builtin .append, args := #[s, x], argTypes := #[25, 25] })
    (B : Nat) (v : Value) (hs : a.eval s = v) (hG : Grows (Value.int .i64) 2 B v [] w) (hB : B ≤ w.heap.size) (u : Value) (E : List Int) (hx : a.eval x = u) (hu : IL w u E) (hE : E.length ≤ 64)
    (h : ∀ v' w', Grows (Value.int .i64) 2 B v' E w' → w.grownBy w' v.ownBlock → K (a.put o.dst v') w') :
    if Region.wanted o (yielded ops a.tmps) = true then Oper.wp Try.prog o a w K Q else E' := by
  obtain ⟨i0, hi, hz0, hz1, hz2⟩ := info_parts Try.infoI
  have hw : Region.wanted o (yielded ops a.tmps) = true := by simp [Region.wanted, hgd]
  rcases hu with ⟨rfl, ao, cap, rfl⟩ | ⟨b, off, cap, rfl, hpos, hbl, hcell⟩
  · cases ao with
    | none =>
      rw [if_pos hw]
      have hrun := run_append_nilc (P := Try.prog) (w := w) B 25 o.type 2 i0 1 cap Try.underlying25 hi v 0 [] hG
      unfold Oper.wp
      simp [execOp, ho, resolve, invoke, builtin, hs, hx, hrun, Result.andThen]
      exact h v w hG (World.grownBy.refl _ _)
    | some ad =>
      exact step_zeroT hgd s x _ ho B 2 i0 (.int .i64 0) 1 8 Try.underlying25 hi hz0 hz1 hz2 rfl (by decide) v 0 [] hs hG ad cap hx (by unfold maxLen; omega) (by omega) hB h
  · refine step_append_lies w hgd s x _ ho B 2 i0 (.int .i64 0) 1 8 Try.underlying25 hi hz0 hz1 hz2 rfl (by decide) v 0 [] hs hG ⟨b, off, none⟩ E.length (E.length + cap) (E.map (Value.int .i64)) hx (by simp) (fun j y hy => ?_) (map_oneI E) hpos (by unfold maxLen; omega) (by omega) hB w.heap.size rfl (fun g c w' hown hgr _ _ => h _ w' (by have h2 := hown; show World.ownsRow _ _ _ _ _ _ _; simpa using h2) hgr)
    have hj : j < E.length := by
      have := (List.getElem?_eq_some_iff.1 hy).1
      simpa using this
    rw [Go.WideShapes.add_plain, hcell j hj, ← hy]
    simp [List.getD, hj]
/-- The boxes of the call: the form that came in, the result. -/
structure ThBoxS (B : Nat) (L : Int) (s : Value) (W : World) : Prop where
  c0 : W.cell? ⟨B, 0, none⟩ = some (.int .i64 L)
  c1 : W.cell? ⟨B, 1, none⟩ = some s
  r : Res2 W (B + 1)
theorem ThBoxS.keep {B C : Nat} {L : Int} {s : Value} {W W' : World} (h : ThBoxS B L s W) (b : Below C W W') (hC : B + 1 < C) : ThBoxS B L s W' :=
  ⟨by rw [b.cell (p := ⟨B, 0, none⟩) (by show B < C; omega)]; exact h.c0, by rw [b.cell (p := ⟨B, 1, none⟩) (by show B < C; omega)]; exact h.c1, h.r.keep b hC⟩
set_option maxRecDepth 100000 in
set_option maxHeartbeats 8000000 in
theorem specThinForm_any (v : Value) (F : Fm) (w : World) (hv : FmV w v F) (o : OKFm F) :
    Calls Try.prog 37 #[v] w (SaysFB (thinF F) (formB F) w) := by
  obtain ⟨j0, hj, hy0, hy1, hy2⟩ := info_parts Try.infoLTS
  obtain ⟨s1, rfl, hl⟩ := hv
  have HL : Hid (∀ W, Below w.heap.size w W → LV W s1 F.cs) := Lib.hid fun W b => hl.below b (Nat.le_refl _)
  have HB3 : Hid (∀ A B, Below w.heap.size w ((w.alloc A).alloc B)) := Lib.hid fun A B => (below_alloc w A).alloc (by simp) B
  have HX0 : Hid (ThBoxS w.heap.size F.letters s1 ((w.alloc (.cells #[.int .i64 F.letters, s1] 29)).alloc (.cells #[.int .i64 0, .slice none 0 0] 29))) := Lib.hid ⟨by go_simp, by go_simp, ⟨⟨.int .i64 0, by go_simp⟩, ⟨.slice none 0 0, by go_simp⟩, fun i => by go_simp⟩⟩
  have HAT : Hid (FmAt ((w.alloc (.cells #[.int .i64 F.letters, s1] 29)).alloc (.cells #[.int .i64 0, .slice none 0 0] 29)) w.heap.size F) := Lib.hid ⟨s1, ⟨HX0.out.c0, HX0.out.c1⟩, HL.out _ (HB3.out _ _)⟩
  obtain ⟨fa, fc, rfl⟩ := hl.long
  clear hl
  cases h1 : formB F with
  | false =>
    rw [thinS_no h1]
    have H1 := Lib.hid h1
    clear h1
    go_enter Try.func37, Try.ntmps37
    go_wp2_with fail
    go_at_call 47; refine (l05Is_any w.heap.size F _ HAT.out o).mono ?_; rintro e w4 ⟨rfl, b4⟩
    rw [H1.out]
    have B4 := Lib.hid ((HB3.out _ _).trans (b4.mono (by simp; omega)))
    have R4 := Lib.hid (HX0.out.keep b4 (by simp)).r
    have hr4 := R4.out.lt
    clear b4
    obtain ⟨⟨u0, r0⟩, ⟨u1, r1⟩, rf⟩ := R4.out
    have rf0 := rf 0
    have rf1 := rf 1
    clear rf
    go_wp2_with fail
    refine bodyPost_ret (v := .tuple #[.agg #[.int .i64 0, .slice none 0 0], .bool false]) (by simp [results, Try.results37, r0, r1, go_sem]) rfl ?_
    generalize hX : World.setCell _ _ _ = X
    have hT : Turned (w.heap.size + 1) (w.heap.size + 1 + 1) w4 X := by
      rw [← hX]
      repeat (refine Turned.setCell ?_ (by simp) (by simp) _)
      exact Turned.refl _ _ _
    clear hX
    exact saysFB_no (B4.out.trans ((hT.below (by omega)).mono (by omega)))
  | true =>
    rw [thinS_is h1]
    have H1 := Lib.hid h1
    have HOK := Lib.hid (formB_ok h1)
    have hfew := HOK.out.few
    clear h1
    go_enter Try.func37, Try.ntmps37
    go_wp2_with fail
    go_at_call 47; refine (l05Is_any w.heap.size F _ HAT.out o).mono ?_; rintro e w4 ⟨rfl, b4⟩
    rw [H1.out]
    have B5 := Lib.hid ((HB3.out _ _).trans (b4.mono (by simp; omega)))
    have X5 := Lib.hid (HX0.out.keep b4 (by simp))
    clear b4 HX0 HAT
    obtain ⟨w5, rfl⟩ : ∃ x : World, x = w4 := ⟨_, rfl⟩
    obtain ⟨x0, x1, xr⟩ := X5.out
    have hs5 : w.heap.size + 1 < w5.heap.size := xr.lt
    have hw5 : w.heap.size ≤ w5.heap.size := by omega
    have HBW : Hid (∀ W, Below w5.heap.size w5 W → Below w.heap.size w W) := Lib.hid fun W b => B5.out.trans (b.mono hw5)
    have HX : Hid (∀ W, Below w5.heap.size w5 W → ThBoxS w.heap.size F.letters (.slice fa F.cs.length fc) W) := Lib.hid fun W b => X5.out.keep b hs5
    have F0 := Lib.hid (FoUp.start F.letters (Below.refl w5.heap.size w5))
    obtain ⟨xx0, xx1, xxr⟩ := HX.out (w5.alloc (.cells #[.int .i64 F.letters, .slice none 0 0] 29)) (below_alloc _ _)
    clear xr xxr
    go_wp2_with fail
    go_loopg [17] F.cs.length (fun gk i wr => ∃ (k : Nat) (s : Value) (U : Nat → Value), k ≤ F.cs.length ∧ gk + k = F.cs.length ∧ i = .int .i64 k ∧ FoUp F.letters (thinK F.cs k) w5.heap.size s w5 wr U)
    case atStart => exact ⟨0, _, _, Nat.zero_le _, by omega, rfl, F0.out⟩
    case round =>
      clear F0 xx0 xx1 x0 x1
      obtain ⟨k, s, U, hk, hgk, rfl, hF⟩ := hrel
      have HF := Lib.hid hF
      have hww : w5.heap.size ≤ wr.heap.size := hF.out.below.size
      have HBK := Lib.hid hF.out.below
      clear hF
      by_cases hlt : k < F.cs.length
      · obtain ⟨b, off, cap, e, hcs⟩ := lv_cellsU (HL.out _ (HBW.out _ HBK.out)) (by omega)
        injection e with e1 _ e3
        subst e1
        have HCS : Hid (∀ W j, Below wr.heap.size wr W → j < F.cs.length → ∃ ad n c, W.cell? ⟨b, off + j, none⟩ = some (.slice ad n c) ∧ n = (F.cs.getD j []).length ∧ IL W (.slice ad n c) (F.cs.getD j [])) := Lib.hid fun W j hb hj => by
          obtain ⟨ad, n, c, h1, h2, h3⟩ := hcs j hj
          exact ⟨ad, n, c, keep_cell h1 hb (cell_block h1), h2, h3.below hb (Nat.le_refl _)⟩
        obtain ⟨da, dn, dc, cD, hdn, iD⟩ := hcs k hlt
        have HCD : Hid (∀ W, Below wr.heap.size wr W → W.cell? ⟨b, off + k, none⟩ = some (.slice da dn dc) ∧ IL W (.slice da dn dc) (F.cs.getD k [])) := Lib.hid fun W hb => ⟨keep_cell cD hb (cell_block cD), iD.below hb (Nat.le_refl _)⟩
        have hEl : (F.cs.getD k []).length ≤ 10 := by have := (HOK.out.cl k hlt).len; have := HOK.out.n2; omega
        have hdl : dn ≤ 10 := by omega
        have HDN := Lib.hid hdn
        have HXA : Hid (∀ W, Below wr.heap.size wr W → W.cell? ⟨w.heap.size, 1, none⟩ = some (.slice (some ⟨b, off, none⟩) F.cs.length fc)) := Lib.hid fun W hb => (HX.out W (HBK.out.trans (hb.mono hww))).c1
        have xA := HXA.out wr (Below.refl _ _)
        clear e3 hcs cD iD hdn
        obtain ⟨wA, rfl⟩ : ∃ x : World, x = wr := ⟨_, rfl⟩
        obtain ⟨gA, rfl⟩ : ∃ x : Nat, x = gk := ⟨_, rfl⟩
        go_wp2_with fail
        go_loopg [6, 23] F.cs.length (fun gk tv ix wr => ∃ a : Nat, a ≤ F.cs.length ∧ gk + a = F.cs.length ∧ ix = .int .i64 a ∧ tv = .bool (toldK F.cs k a) ∧ Below wA.heap.size wA wr)
        case atStart => exact ⟨0, Nat.zero_le _, by omega, rfl, rfl, Below.refl _ _⟩
        case round =>
          clear xA
          obtain ⟨a, ha, hga, rfl, rfl, hB⟩ := hrel
          have HB := Lib.hid hB
          clear hB
          by_cases hal : a < F.cs.length
          · obtain ⟨ka, kn, kc, cK, hkn, IK⟩ := HCS.out wr a HB.out hal
            have cD := (HCD.out wr HB.out).1
            have xA := HXA.out wr HB.out
            have hkl : (F.cs.getD a []).length ≤ 10 := by have := (HOK.out.cl a hal).len; have := HOK.out.n2; omega
            have hkn10 : kn ≤ 10 := by omega
            have LP := Lib.hid fun (n9 : Nat) => l05Part_any (.slice ka kn kc) (.slice da dn dc) (F.cs.getD a []) (F.cs.getD k []) (wr.drewN n9) (IK.drewN n9) ((HCD.out wr HB.out).2.drewN n9) (by omega) (by omega)
            have HTK : Hid (toldK F.cs k (a + 1) = (toldK F.cs k a || tel2 F.cs k a)) := Lib.hid rfl
            have HT2 : Hid (tel2 F.cs k a = (!decide (a = k) && (partB (F.cs.getD a []) (F.cs.getD k []) && (decide (kn < dn) || decide (a < k))))) := Lib.hid (by unfold tel2; rw [hkn, HDN.out])
            obtain ⟨t, ht⟩ : ∃ t, toldK F.cs k a = t := ⟨_, rfl⟩
            rw [ht] at HTK ⊢
            clear hkn IK hkl ht
            by_cases hak : a = k
            · subst hak
              have HN : Hid (toldK F.cs a (a + 1) = t) := Lib.hid (by rw [HTK.out, HT2.out]; simp)
              go_wp2_with fail
              go_quiet (fail)
              go_wp2_with fail
              go_roundg (gk - 1)
              case measure => omega
              case rel => exact ⟨a + 1, by omega, by omega, by go_num, by rw [HN.out], below_drewN HB.out _⟩
            · have hne : ((a : Int) != (k : Int)) = true := by rw [bne_iff_ne]; omega
              have hakn : ¬ (a : Int) = (k : Int) := by omega
              cases p : partB (F.cs.getD a []) (F.cs.getD k []) with
              | false =>
                have HN : Hid (toldK F.cs k (a + 1) = t) := Lib.hid (by rw [HTK.out, HT2.out, p]; simp)
                rw [p] at LP
                clear p
                go_wp2_with fail
                go_quiet ((go_at_call 74; with_reducible exact Calls.quiet_of_same ((LP.out _).mono fun _ _ ⟨q1, q2⟩ => ⟨q1, q2.symm⟩)))
                go_wp2_with fail
                go_roundg (gk - 1)
                case measure => omega
                case rel => exact ⟨a + 1, by omega, by omega, by go_num, by rw [HN.out], below_drewN HB.out _⟩
              | true =>
                rw [p] at LP
                have HPT := Lib.hid p
                clear p
                by_cases hl : kn < dn
                · have HN : Hid (toldK F.cs k (a + 1) = true) := Lib.hid (by rw [HTK.out, HT2.out, HPT.out, decide_eq_true hl, decide_eq_false hak]; simp)
                  have hli : (kn : Int) < (dn : Int) := by omega
                  go_wp2_with fail
                  go_quiet ((go_at_call 74; with_reducible exact Calls.quiet_of_same ((LP.out _).mono fun _ _ ⟨q1, q2⟩ => ⟨q1, q2.symm⟩)))
                  go_wp2_with fail
                  go_roundg (gk - 1)
                  case measure => omega
                  case rel => exact ⟨a + 1, by omega, by omega, by go_num, by rw [HN.out], below_drewN HB.out _⟩
                · have hli : ¬ (kn : Int) < (dn : Int) := by omega
                  by_cases hl2 : a < k
                  · have HN : Hid (toldK F.cs k (a + 1) = true) := Lib.hid (by rw [HTK.out, HT2.out, HPT.out, decide_eq_true hl2, decide_eq_false hak]; simp)
                    have hli2 : (a : Int) < (k : Int) := by omega
                    go_wp2_with fail
                    go_quiet ((go_at_call 74; with_reducible exact Calls.quiet_of_same ((LP.out _).mono fun _ _ ⟨q1, q2⟩ => ⟨q1, q2.symm⟩)))
                    go_wp2_with fail
                    go_roundg (gk - 1)
                    case measure => omega
                    case rel => exact ⟨a + 1, by omega, by omega, by go_num, by rw [HN.out], below_drewN HB.out _⟩
                  · have HN : Hid (toldK F.cs k (a + 1) = t) := Lib.hid (by rw [HTK.out, HT2.out, HPT.out, decide_eq_false hl, decide_eq_false hl2, decide_eq_false hak]; simp)
                    have hli2 : ¬ (a : Int) < (k : Int) := by omega
                    go_wp2_with fail
                    go_quiet ((go_at_call 74; with_reducible exact Calls.quiet_of_same ((LP.out _).mono fun _ _ ⟨q1, q2⟩ => ⟨q1, q2.symm⟩)))
                    go_wp2_with fail
                    go_roundg (gk - 1)
                    case measure => omega
                    case rel => exact ⟨a + 1, by omega, by omega, by go_num, by rw [HN.out], below_drewN HB.out _⟩
          · obtain rfl : a = F.cs.length := by omega
            have HGY := Lib.hid (@thinS_yes F.cs k)
            have HGN := Lib.hid (@thinS_go F.cs k)
            have hvl := thinK_len F.cs k
            have HFK := Lib.hid (HF.out.keep HB.out)
            generalize thinK F.cs k = T at HF HFK HGY HGN hvl
            cases hs : toldK F.cs k F.cs.length with
            | true =>
              have HN := Lib.hid (HGY.out hs)
              clear hs HGY HGN
              go_wp2_with fail
              go_roundg (gA - 1)
              case measure => omega
              case rel => exact ⟨k + 1, _, _, by omega, by omega, by go_num, by rw [HN.out]; exact HFK.out⟩
            | false =>
              have HN := Lib.hid (HGN.out hs)
              clear hs HGY HGN
              have HI9 : Hid (∀ W, Below wr.heap.size wr W → IL W (.slice da dn dc) (F.cs.getD k [])) := Lib.hid fun W hb => (HCD.out W (HB.out.trans (hb.mono HB.out.size))).2
              obtain ⟨E, hE⟩ : ∃ E, F.cs.getD k [] = E := ⟨_, rfl⟩
              rw [hE] at HI9 HN hEl
              obtain ⟨c0, c1, c2⟩ := HFK.out.cells
              have hlw : w5.heap.size < wr.heap.size := HFK.out.lt
              have xA := HXA.out wr HB.out
              have cD := (HCD.out wr HB.out).1
              have hxw := cell_block xA
              have hdw := cell_block cD
              have hw5r : w5.heap.size ≤ wr.heap.size := by omega
              have c1a : ∀ o, (wr.alloc o).cell? ⟨w5.heap.size, 1, none⟩ = some s := fun o => keep_cell c1 (below_alloc wr o) hlw
              have xAa : ∀ o, (wr.alloc o).cell? ⟨w.heap.size, 1, none⟩ = some (.slice (some ⟨b, off, none⟩) F.cs.length fc) := fun o => keep_cell xA (below_alloc wr o) hxw
              have cDa : ∀ o, (wr.alloc o).cell? ⟨b, off + k, none⟩ = some (.slice da dn dc) := fun o => keep_cell cD (below_alloc wr o) hdw
              have HEM : Hid (∀ o, (wr.alloc (.cells #[] 2)).ownsRow wr.heap.size 2 1 (.slice (some ⟨wr.heap.size, 0, none⟩) 0 0) 0 [] ∧ o = o) := Lib.hid fun (o : Nat) => ⟨Grows.empty (Value.int .i64) _ _ wr (Nat.le_refl _), rfl⟩
              have HC1 := Lib.hid c1
              have hE64 : E.length ≤ 64 := by omega
              clear hE c0
              go_wp2_with fail
              go_region_law (first
                | (refine step_copyI (by rfl) _ _ (by rfl) wr.heap.size (.slice (some ⟨wr.heap.size, 0, none⟩) 0 0) (by rfl) (by first | exact (HEM.out 0).1 | exact World.ownsRow.drew (HEM.out 0).1) (by simp) (.slice da dn dc) E (by rfl) (HI9.out _ (by first | exact below_alloc wr _ | exact (below_drewN (Below.refl wr.heap.size wr) _).alloc (Nat.le_refl _) _ | exact below_drewN (below_alloc wr _) _ | exact (Below.refl wr.heap.size wr).drew.alloc (Nat.le_refl _) _ | exact (below_alloc wr _).drew)) hE64 ?_; intro v8 w8 hG8 hgr8; have G8 := Lib.hid hG8; have B8 : Hid (Below wr.heap.size wr w8) := Lib.hid (Below.grown (by first | exact below_alloc wr _ | exact (below_drewN (Below.refl wr.heap.size wr) _).alloc (Nat.le_refl _) _ | exact below_drewN (below_alloc wr _) _ | exact (Below.refl wr.heap.size wr).drew.alloc (Nat.le_refl _) _ | exact (below_alloc wr _).drew) hgr8 (by simp) (fun k hk => Nat.le_of_eq (Option.some.inj hk))); obtain ⟨za, zc, rfl⟩ := SI.len (d := (0 : Int)) (Grows.si hG8); have HF8 := Lib.hid (HFK.out.keep B8.out); have c8 : w8.cell? ⟨w5.heap.size, 1, none⟩ = some s := keep_cell HC1.out B8.out hlw; have hz8 : wr.heap.size ≤ w8.heap.size := B8.out.size; have c8a : ∀ o, (w8.alloc o).cell? ⟨w5.heap.size, 1, none⟩ = some s := fun o => keep_cell c8 (below_alloc w8 o) (Nat.lt_of_lt_of_le hlw hz8); have HOWN : Hid (∀ W, Below w8.heap.size w8 W → W.ownsRow w5.heap.size 25 1 s T.length ((List.range T.length).map U)) := Lib.hid (fun W hb => (HF8.out.keep hb).out.own); clear hG8 hgr8)
                | (refine step_append_lies _ (by rfl) _ _ _ (by rfl) w5.heap.size 25 j0 _ 1 24 Try.underlying22 hj hy0 hy1 hy2 rfl (by omega) s T.length ((List.range T.length).map U) (by rfl) (HOWN.out _ (by first | exact below_alloc w8 _ | exact (below_drewN (Below.refl w8.heap.size w8) _).alloc (Nat.le_refl _) _ | exact below_drewN (below_alloc w8 _) _ | exact (Below.refl w8.heap.size w8).drew.alloc (Nat.le_refl _) _ | exact (below_alloc w8 _).drew)) ⟨w8.heap.size, 0, none⟩ 1 1 [.slice za E.length zc] (by rfl) (by rfl) (World.news_of_block (cs := #[_]) (t := 25) (fr := (0, 0)) (heap_alloc_new _ _)) (by simp [Value.oneCell']) (by omega) (by unfold maxLen; omega) (by omega) (by simp; omega) (w8.heap.size + 1) (by simp) ?_; intro gg gcap w9 hown hgrow hat hlt9; obtain ⟨hk9, hf9⟩ := HF8.out.kept (by first | exact below_alloc w8 _ | exact (below_drewN (Below.refl w8.heap.size w8) _).alloc (Nat.le_refl _) _ | exact below_drewN (below_alloc w8 _) _ | exact (Below.refl w8.heap.size w8).drew.alloc (Nat.le_refl _) _ | exact (below_alloc w8 _).drew) hgrow; have HNX := Lib.hid (fun q => FoUp.next HFK.out (by first | exact B8.out.trans ((below_alloc w8 _).mono hz8) | exact B8.out.trans (((below_drewN (Below.refl w8.heap.size w8) _).alloc (Nat.le_refl _) _).mono hz8) | exact B8.out.trans ((below_drewN (below_alloc w8 _) _).mono hz8) | exact B8.out.trans (((Below.refl w8.heap.size w8).drew.alloc (Nat.le_refl _) _).mono hz8) | exact B8.out.trans ((below_alloc w8 _).drew.mono hz8)) (G8.out.below (by first | exact below_alloc w8 _ | exact (below_drewN (Below.refl w8.heap.size w8) _).alloc (Nat.le_refl _) _ | exact below_drewN (below_alloc w8 _) _ | exact (Below.refl w8.heap.size w8).drew.alloc (Nat.le_refl _) _ | exact (below_alloc w8 _).drew) (Nat.le_refl _)) hown hgrow (hat.imp id (fun e => by rw [e]; simp)) q); clear hown hgrow hat hlt9))
              all_goals
                go_wp2_with fail
                go_roundg (gA - 1)
                case measure => omega
                case rel => exact ⟨k + 1, _, _, by omega, by omega, by go_num, by rw [HN.out]; exact HNX.out 0⟩
      · obtain rfl : k = F.cs.length := by omega
        obtain ⟨sa, sc, rfl⟩ := HF.out.slice
        obtain ⟨c0, c1, c2⟩ := HF.out.cells
        obtain ⟨⟨u0, r0⟩, ⟨u1, r1⟩, rf⟩ := (HX.out _ HBK.out).r
        have rf0 := rf 0
        have rf1 := rf 1
        have BF := Lib.hid (HBW.out _ HBK.out)
        have hne : ¬ w5.heap.size = w.heap.size + 1 := by omega
        have hne2 : ¬ w.heap.size + 1 = w5.heap.size := by omega
        clear rf
        go_wp2_with fail
        refine bodyPost_ret (v := .tuple #[.agg #[.int .i64 F.letters, .slice sa (thinK F.cs F.cs.length).length sc], .bool true]) (by simp [results, Try.results37, r0, r1, go_sem]) rfl ?_
        generalize hX : World.setCell _ _ _ = X
        have hT : Turned (w.heap.size + 1) (w.heap.size + 1 + 1) wr X := by
          rw [← hX]
          repeat (refine Turned.setCell ?_ (by simp) (by simp) _)
          exact Turned.refl _ _ _
        clear hX
        exact ⟨_, rfl, HF.out.res hT (by omega) hw5, BF.out.trans ((hT.below (by omega)).mono (by omega))⟩
end Go.Proofs.Ytnakpfbeeekmiaa
