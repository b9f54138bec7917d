/- What two clauses tell without a letter: the program. -/
import Derived.Test.YtnakpfbeeekmiaaRv0
import Derived.Test.YtnakpfbeeekmiaaLo
import Derived.Test.YtnakpfbeeekmiaaHasI
namespace Go.Proofs.Ytnakpfbeeekmiaa
open Go.RowKit Go.ChangeShapes Go.WideShapes Go.Maps
set_option maxRecDepth 100000

theorem jbR_no {w X : World} (hb : Below w.heap.size w X) : SaysJB [] false w (.returned (.tuple #[.slice none 0 0, .bool false])) X := ⟨_, rfl, SI.nil _ (Nat.le_refl _) _ _, hb⟩
set_option maxHeartbeats 4000000 in
theorem canResolve_any (v : Value) (A : List Int) (u : Value) (B : List Int) (x : Int) (w : World) (hv : IL w v A) (hu : IL w u B) (nA : A.length ≤ 1048576) (nB : B.length ≤ 1048576) (hx : 1 ≤ x ∧ x ≤ 10) :
    Calls Try.prog 86 #[v, u, .int .i64 x] w (fun e w' => e = .returned (.bool (cres A B x)) ∧ w = w') := by
  have K1 := Lib.hid (contains_any v A x w hv nA)
  have K2 := Lib.hid (contains_any u B (-x) w hu nB)
  have K3 := Lib.hid (contains_any v A (-x) w hv nA)
  have K4 := Lib.hid (contains_any u B x w hu nB)
  have wx : IntKind.i64.wrap (-x) = -x := IntWalk.i64_in _ (by omega)
  obtain ⟨ao, ac, rfl⟩ := hv.long
  obtain ⟨bo, bc, rfl⟩ := hu.long
  clear hv hu
  obtain ⟨r, hr⟩ : ∃ r, cres A B x = r := ⟨_, rfl⟩
  rw [hr]
  unfold cres at hr
  generalize inS A x = p1 at hr K1
  generalize inS B (-x) = p2 at hr K2
  generalize inS A (-x) = p3 at hr K3
  generalize inS B x = p4 at hr K4
  have HR := Lib.hid hr
  clear hr
  cases p1 with
  | true =>
    cases p2 with
    | true =>
      go_enter Try.func86, Try.ntmps86
      go_wp2_with fail
      go_at_call 71; refine K1.out.mono ?_; rintro e w' ⟨rfl, rfl⟩
      go_wp2_with fail
      go_at_call 71; refine K2.out.mono ?_; rintro e w' ⟨rfl, rfl⟩
      go_wp2_with fail
      go_ret
      exact ⟨by rw [← HR.out]; rfl, rfl⟩
    | false =>
      cases p3 with
      | true =>
        go_enter Try.func86, Try.ntmps86
        go_wp2_with fail
        go_at_call 71; refine K1.out.mono ?_; rintro e w' ⟨rfl, rfl⟩
        go_wp2_with fail
        go_at_call 71; refine K2.out.mono ?_; rintro e w' ⟨rfl, rfl⟩
        go_wp2_with fail
        go_at_call 71; refine K3.out.mono ?_; rintro e w' ⟨rfl, rfl⟩
        go_wp2_with fail
        go_at_call 71; refine K4.out.mono ?_; rintro e w' ⟨rfl, rfl⟩
        go_wp2_with fail
        go_ret
        exact ⟨by rw [← HR.out]; rfl, rfl⟩
      | false =>
        go_enter Try.func86, Try.ntmps86
        go_wp2_with fail
        go_at_call 71; refine K1.out.mono ?_; rintro e w' ⟨rfl, rfl⟩
        go_wp2_with fail
        go_at_call 71; refine K2.out.mono ?_; rintro e w' ⟨rfl, rfl⟩
        go_wp2_with fail
        go_at_call 71; refine K3.out.mono ?_; rintro e w' ⟨rfl, rfl⟩
        go_wp2_with fail
        go_ret
        exact ⟨by rw [← HR.out]; rfl, rfl⟩
  | false =>
    cases p3 with
    | true =>
      go_enter Try.func86, Try.ntmps86
      go_wp2_with fail
      go_at_call 71; refine K1.out.mono ?_; rintro e w' ⟨rfl, rfl⟩
      go_wp2_with fail
      go_at_call 71; refine K3.out.mono ?_; rintro e w' ⟨rfl, rfl⟩
      go_wp2_with fail
      go_at_call 71; refine K4.out.mono ?_; rintro e w' ⟨rfl, rfl⟩
      go_wp2_with fail
      go_ret
      exact ⟨by rw [← HR.out]; rfl, rfl⟩
    | false =>
      go_enter Try.func86, Try.ntmps86
      go_wp2_with fail
      go_at_call 71; refine K1.out.mono ?_; rintro e w' ⟨rfl, rfl⟩
      go_wp2_with fail
      go_at_call 71; refine K3.out.mono ?_; rintro e w' ⟨rfl, rfl⟩
      go_wp2_with fail
      go_ret
      exact ⟨by rw [← HR.out]; rfl, rfl⟩
theorem rsI_no {n : Int} {A B : List Int} {x : Int} (h : (clB n A && (clB n B && (inB x 1 n && cres A B x))) = false) : rsF n A B x = [] ∧ rsB n A B x = false := by
  unfold rsF rsB rsO
  rw [h]
  exact ⟨rfl, rfl⟩
set_option maxHeartbeats 8000000 in
theorem implResolve_any (n : Int) (v : Value) (A : List Int) (u : Value) (B : List Int) (x : Int) (w : World) (hv : IL w v A) (hu : IL w u B) (_ : -9223372036854775808 ≤ n ∧ n ≤ 9223372036854775807) (oA : OKI A) (oB : OKI B) (_ : -9223372036854775808 ≤ x ∧ x ≤ 9223372036854775807) :
    Calls Try.prog 42 #[.int .i64 n, v, u, .int .i64 x] w (SaysJB (rsF n A B x) (rsB n A B x) w) := by
  have hmm := @run_makeMap Try.prog
  have HV : Hid (∀ W, Below w.heap.size w W → IL W v A) := Lib.hid fun W b => hv.below b (Nat.le_refl _)
  have HU : Hid (∀ W, Below w.heap.size w W → IL W u B) := Lib.hid fun W b => hu.below b (Nat.le_refl _)
  have nA := oA.size
  have nB := oB.size
  have C1 := Lib.hid fun W (hb : Below w.heap.size w W) => implClause_any n v A W (HV.out W hb) nA (inI oA.fit.2)
  have C2 := Lib.hid fun W (hb : Below w.heap.size w W) => implClause_any n u B W (HU.out W hb) nB (inI oB.fit.2)
  have CR := Lib.hid fun W (hb : Below w.heap.size w W) (hx : 1 ≤ x ∧ x ≤ 10) => canResolve_any v A u B x W (HV.out W hb) (HU.out W hb) nA nB hx
  obtain ⟨ao, ac, rfl⟩ := hv.long
  obtain ⟨bo, bc, rfl⟩ := hu.long
  clear hv hu
  cases h1 : clB n A with
  | false =>
    obtain ⟨e1, e2⟩ := rsI_no (n := n) (A := A) (B := B) (x := x) (by rw [h1]; rfl)
    rw [e1, e2]
    rw [h1] at C1
    clear h1 e1 e2 hmm
    go_enter Try.func42, Try.ntmps42
    go_wp2_with fail
    go_at_call 85; refine (C1.out _ (Below.refl _ _)).mono ?_; rintro e w4 ⟨rfl, b4⟩
    go_wp2_with fail
    go_ret2
    exact jbR_no b4
  | true =>
    rw [h1] at C1
    cases h2 : clB n B with
    | false =>
      obtain ⟨e1, e2⟩ := rsI_no (n := n) (A := A) (B := B) (x := x) (by rw [h1, h2]; rfl)
      rw [e1, e2]
      rw [h2] at C2
      clear h1 h2 e1 e2 hmm
      go_enter Try.func42, Try.ntmps42
      go_wp2_with fail
      go_at_call 85; refine (C1.out _ (Below.refl _ _)).mono ?_; rintro e w4 ⟨rfl, b4⟩
      have B4 := Lib.hid b4
      clear b4
      go_wp2_with fail
      go_at_call 85; refine (C2.out _ B4.out).mono ?_; rintro e w5 ⟨rfl, b5⟩
      have B5 := Lib.hid (B4.out.trans (b5.mono B4.out.size))
      clear b5
      go_wp2_with fail
      go_ret2
      exact jbR_no B5.out
    | true =>
      rw [h2] at C2
      cases h3 : inB x 1 n with
      | false =>
        obtain ⟨e1, e2⟩ := rsI_no (n := n) (A := A) (B := B) (x := x) (by rw [h1, h2, h3]; rfl)
        rw [e1, e2]
        have H3 := Lib.hid h3
        clear h1 h2 h3 e1 e2 hmm
        go_enter Try.func42, Try.ntmps42
        go_wp2_with fail
        go_at_call 85; refine (C1.out _ (Below.refl _ _)).mono ?_; rintro e w4 ⟨rfl, b4⟩
        have B4 := Lib.hid b4
        clear b4
        go_wp2_with fail
        go_at_call 85; refine (C2.out _ B4.out).mono ?_; rintro e w5 ⟨rfl, b5⟩
        have B5 := Lib.hid (B4.out.trans (b5.mono B4.out.size))
        clear b5
        go_wp2_with fail
        go_at_call 56; refine (isFrom_is false x 1 n _ H3.out).mono ?_; rintro e w6 ⟨rfl, m, rfl⟩
        go_wp2_with fail
        go_ret2
        exact jbR_no (below_drewN B5.out _)
      | true =>
        have H3 := Lib.hid h3
        have hA := clB_ok h1
        have hB := clB_ok h2
        have a1 := hA.len
        have a2 := hB.len
        have a3 := hA.n2
        have hx := inB_ok h3
        have hx1 : 1 ≤ x := hx.1
        have hx2 : x ≤ 10 := by omega
        have lA : A.length ≤ 10 := by omega
        have lB : B.length ≤ 10 := by omega
        cases h4 : cres A B x with
        | false =>
          obtain ⟨e1, e2⟩ := rsI_no (n := n) (A := A) (B := B) (x := x) (by rw [h1, h2, h3, h4]; rfl)
          rw [e1, e2]
          rw [h4] at CR
          clear h1 h2 h3 h4 hA hB a1 a2 a3 hx e1 e2 hmm
          go_enter Try.func42, Try.ntmps42
          go_wp2_with fail
          go_at_call 85; refine (C1.out _ (Below.refl _ _)).mono ?_; rintro e w4 ⟨rfl, b4⟩
          have B4 := Lib.hid b4
          clear b4
          go_wp2_with fail
          go_at_call 85; refine (C2.out _ B4.out).mono ?_; rintro e w5 ⟨rfl, b5⟩
          have B5 := Lib.hid (B4.out.trans (b5.mono B4.out.size))
          clear b5
          go_wp2_with fail
          go_at_call 56; refine (isFrom_is true x 1 n _ H3.out).mono ?_; rintro e w6 ⟨rfl, m, rfl⟩
          have B6 := Lib.hid (below_drewN B5.out m)
          go_wp2_with fail
          go_at_call 86; refine (CR.out _ B6.out ⟨hx1, hx2⟩).mono ?_; rintro e w7 ⟨rfl, rfl⟩
          go_wp2_with fail
          go_ret2
          exact jbR_no B6.out
        | true =>
          rw [h4] at CR
          obtain ⟨r, hr⟩ : ∃ r, joins x (butL x A) B = r := ⟨_, rfl⟩
          have HF : Hid (rsF n A B x = r.getD [] ∧ rsB n A B x = r.isSome) := Lib.hid (by unfold rsF rsB rsO; rw [h1, h2, h3, h4]; exact ⟨by rw [← hr]; rfl, by rw [← hr]; rfl⟩)
          rw [HF.out.1, HF.out.2]
          have HRL := Lib.hid fun (Y : List Int) a b c => by
            have h := res_list hA hB hx1 (Y := Y) a b c
            rw [hr] at h
            exact h
          have RA : Hid (∀ i, i < A.length → InR (A.getD i 0)) := Lib.hid fun i hi => by
            have h := hA.a i hi
            unfold ltr at h
            unfold InR
            split at h <;> omega
          have RB : Hid (∀ i, i < B.length → InR (B.getD i 0)) := Lib.hid fun i hi => by
            have h := hB.a i hi
            unfold ltr at h
            unfold InR
            split at h <;> omega
          have wx : IntKind.i64.wrap (-x) = -x := IntWalk.i64_in _ (by omega)
          have KX : Hid (InR x ∧ InR (-x)) := Lib.hid (by unfold InR; omega)
          clear h1 h2 h3 h4 hA hB a1 a2 a3 hx hr HF
          go_enter Try.func42, Try.ntmps42
          go_wp2_with fail
          go_at_call 85; refine (C1.out _ (Below.refl _ _)).mono ?_; rintro e w4 ⟨rfl, b4⟩
          have B4 := Lib.hid b4
          clear b4
          go_wp2_with fail
          go_at_call 85; refine (C2.out _ B4.out).mono ?_; rintro e w5 ⟨rfl, b5⟩
          have B5 := Lib.hid (B4.out.trans (b5.mono B4.out.size))
          clear b5
          go_wp2_with fail
          go_at_call 56; refine (isFrom_is true x 1 n _ H3.out).mono ?_; rintro e w6 ⟨rfl, m, rfl⟩
          have B6 := Lib.hid (below_drewN B5.out m)
          generalize w5.drewN m = w6 at B6 ⊢
          go_wp2_with fail
          go_at_call 86; refine (CR.out _ B6.out ⟨hx1, hx2⟩).mono ?_; rintro e w7 ⟨rfl, rfl⟩
          have hw6 : w.heap.size ≤ w6.heap.size := B6.out.size
          have HGB : Hid (∀ W, (w6.alloc (.map #[] 0)).grownBy W (some w6.heap.size) → Below w.heap.size w W) := Lib.hid fun W g => (B6.out.alloc hw6 (.map #[] 0)).grown g (Nat.le_trans hw6 (by simp)) (fun k hk => Nat.le_trans hw6 (Nat.le_of_eq (Option.some.inj hk)))
          have S0 := Lib.hid (SetM.made w6)
          have P1 := Lib.hid (putAll_any (fun _ => false) 0 w6.heap.size _ A _ S0.out (HV.out _ (HGB.out _ (World.grownBy.refl _ _))) (by omega) nA RA.out)
          go_wp2_with fail
          clear hmm
          go_at_call 66; refine P1.out.mono ?_; rintro e w7 ⟨rfl, s7, g7⟩
          have S7 := Lib.hid s7
          have G7 := Lib.hid g7
          clear s7 g7 P1 S0
          have P2 := Lib.hid (putAll_any _ _ w6.heap.size _ B _ S7.out (HU.out _ (HGB.out _ G7.out)) (by omega) nB RB.out)
          go_wp2_with fail
          go_at_call 66; refine P2.out.mono ?_; rintro e w8 ⟨rfl, s8, g8⟩
          have S8 := Lib.hid s8
          have G8 := Lib.hid (G7.out.trans g8)
          clear s8 g8 P2
          have HN : Hid (∀ y, (y != -x && (y != x && addK (addK (fun _ => false) A A.length) B B.length y)) = rsS A B x y) := Lib.hid fun y => by
            rw [addK_all, addK_all]; rfl
          obtain ⟨D1, hd1, hh1, ha1⟩ := S8.out.own
          have HD1 := Lib.hid hd1
          have HH1 := Lib.hid (And.intro hh1 ha1)
          clear hd1 hh1 ha1
          go_wp2_with (first
            | (at_delete; refine wpList_delete_own _ rfl _ _ 79 2 rfl 4 keyI Try.underlying79 _ w6.heap.size (0 + A.length + B.length) D1 rfl HD1.out _ _ rfl (keyOf_int_mk Try.underlying2 (wfR KX.out.1)) ?_; intro w9 hown9 hturn9; obtain ⟨D2, hd2, hh2, ha2⟩ := (setM_del HH1.out.1 HH1.out.2 hown9).own; have HD2 := Lib.hid hd2; have HH2 := Lib.hid (And.intro hh2 ha2); have G9 := Lib.hid (G8.out.trans hturn9.grown); clear hown9 hturn9 hd2 hh2 ha2)
            | (at_delete; refine wpList_delete_own _ rfl _ _ 79 2 rfl 4 keyI Try.underlying79 _ w6.heap.size (0 + A.length + B.length) D2 rfl HD2.out _ _ rfl (keyOf_int_mk Try.underlying2 (wfR KX.out.2)) ?_; intro w10 hown10 hturn10; have S10 := Lib.hid ((setM_del HH2.out.1 HH2.out.2 hown10).is HN.out); have G10 := Lib.hid (G9.out.trans hturn10.grown); clear hown10 hturn10))
          have B10 := Lib.hid (HGB.out _ G10.out)
          go_at_call 68; refine (listOf_len (rsS A B x) w6.heap.size (0 + A.length + B.length) _ S10.out (by omega)).mono ?_; rintro e w11 ⟨Y, u, ⟨hY, hYl⟩, rfl, hi11, hb11⟩
          have HY := Lib.hid (HRL.out Y hY.nodup hY.mem hY.up)
          have HI := Lib.hid hi11
          have B11 := Lib.hid (B10.out.trans (hb11.mono B10.out.size))
          have hz10 : w.heap.size ≤ w10.heap.size := B10.out.size
          have CY := Lib.hid (implClause_any n u Y w11 (SI.vl HI.out) (by omega) (inI fun y hy => ((hY.mem y).1 hy).1))
          obtain ⟨ya, yc, rfl⟩ := SI.len (d := (0 : Int)) hi11
          clear hY hi11 hb11
          cases r with
          | some T =>
            obtain ⟨hc, he⟩ := HY.out
            have HT := Lib.hid (he T rfl)
            rw [show clB n Y = true from hc] at CY
            clear hc he
            go_wp2_with fail
            go_at_call 85; refine CY.out.mono ?_; rintro e w12 ⟨rfl, b12⟩
            have B12 := Lib.hid b12
            clear b12
            go_wp2_with fail
            go_ret2
            refine ⟨_, rfl, ?_, B11.out.trans (B12.out.mono B11.out.size)⟩
            show II _ _ _ _ T
            rw [← HT.out]
            exact SI.wide (SI.below HI.out B12.out (Nat.le_refl _)) hz10 B12.out.size (Nat.le_refl _)
          | none =>
            obtain ⟨hc, -⟩ := HY.out
            rw [show clB n Y = false from hc] at CY
            clear hc
            go_wp2_with fail
            go_at_call 85; refine CY.out.mono ?_; rintro e w12 ⟨rfl, b12⟩
            have B12 := Lib.hid b12
            clear b12
            go_wp2_with fail
            go_ret2
            exact jbR_no (B11.out.trans (B12.out.mono B11.out.size))
end Go.Proofs.Ytnakpfbeeekmiaa
