/- The form of at most some letters: the program, for all arguments. -/
import Derived.Test.YtnakpfbeeekmiaaAmI
namespace Go.Proofs.Ytnakpfbeeekmiaa
open Go.RowKit Go.ChangeShapes Go.WideShapes

attribute [local irreducible] popN cmb
set_option maxRecDepth 100000 in
set_option maxHeartbeats 8000000 in
theorem implAm_run (L m : Nat) (t : Bool) (w : World) (h1 : 1 ≤ L) (h2 : L ≤ 10) (hm : m ≤ L) (R : List (List Int)) (hR : cmb L L (m + 1) = R) (ht : decide (R.length ≤ 48) = t) :
    Calls Try.prog 40 #[.int .i64 (L : Int), .int .i64 (m : Int)] w (SaysFB (bif t then ⟨(L : Int), R⟩ else ⟨0, []⟩) t w) := by
  obtain ⟨j0, hj, hy0, hy1, hy2⟩ := info_parts Try.infoLA
  obtain ⟨N, hN⟩ : ∃ N, N = 2 ^ L := ⟨_, rfl⟩
  obtain ⟨p1, p2⟩ := pow10 (L := L) (by omega)
  rw [← hN] at p1 p2
  have HN := Lib.hid hN
  have HK : Hid (amK L (m + 1) N (N - 1) = R) := Lib.hid (by rw [hN, amK_cmb (by omega) (by omega)]; exact hR)
  have HT := Lib.hid ht
  have H1 : Hid ((decide ((1 : Int) ≤ (L : Int)) && decide ((L : Int) ≤ 10)) = true) := Lib.hid (by rw [decide_eq_true (by omega), decide_eq_true (by omega)]; rfl)
  have H2 : Hid ((decide ((0 : Int) ≤ (m : Int)) && decide ((m : Int) ≤ (L : Int))) = true) := Lib.hid (by rw [decide_eq_true (by omega), decide_eq_true (by omega)]; rfl)
  have HSA : Hid (∀ W, Calls Try.prog 81 #[.int .i64 (L : Int)] W (fun e w' => e = .returned (.int .i64 ((N - 1 : Nat) : Int)) ∧ W = w')) := Lib.hid fun W => by rw [hN]; exact setOfAll10 L W h2
  have HRS : Hid (Res2 (w.alloc (.cells #[.int .i64 0, .slice none 0 0] 29)) w.heap.size) := Lib.hid ⟨⟨.int .i64 0, by go_simp⟩, ⟨.slice none 0 0, by go_simp⟩, fun i => by go_simp⟩
  have HB1 : Hid (∀ A, Below w.heap.size w (w.alloc A)) := Lib.hid fun A => below_alloc w A
  have wm : IntKind.i64.wrap ((m : Int) + 1) = ((m + 1 : Nat) : Int) := by rw [IntKind.wrap_i64]; omega
  clear hN hR ht
  go_enter Try.func40, Try.ntmps40
  go_wp2_with fail
  go_at_call 56; refine (isFrom_is true (L : Int) 1 10 _ H1.out).mono ?_; rintro e w4 ⟨rfl, m1, rfl⟩
  go_wp2_with fail
  go_at_call 56; refine (isFrom_is true (m : Int) 0 (L : Int) _ H2.out).mono ?_; rintro e w5 ⟨rfl, m2, rfl⟩
  rw [World.drewN_drewN]
  obtain ⟨w5, hw5⟩ : ∃ x : World, x = (w.alloc (.cells #[.int .i64 0, .slice none 0 0] 29)).drewN (m1 + m2) := ⟨_, rfl⟩
  have B5 : Hid (Below w.heap.size w w5) := Lib.hid (by rw [hw5]; exact below_drewN (HB1.out _) _)
  have R5 : Hid (Res2 w5 w.heap.size) := Lib.hid (by rw [hw5]; exact HRS.out.keep (below_drewN (Below.refl _ _) _) HRS.out.lt)
  rw [← hw5]
  have hs5 : w.heap.size < w5.heap.size := R5.out.lt
  have hw5' : w.heap.size ≤ w5.heap.size := by omega
  have HBW : Hid (∀ W, Below w5.heap.size w5 W → Below w.heap.size w W) := Lib.hid fun W b => B5.out.trans (b.mono hw5')
  have F0 := Lib.hid (FoUp.start (L : Int) (Below.refl w5.heap.size w5))
  clear hw5 HRS HB1
  go_wp2_with fail
  go_at_call 81; refine (HSA.out _).mono ?_; rintro e w6 ⟨rfl, rfl⟩
  go_wp2_with fail
  go_loopg [7] (N - 1) (fun gk i wr => ∃ (j : Nat) (s : Value) (U : Nat → Value), j ≤ N - 1 ∧ gk + j = N - 1 ∧ i = .int .i64 ((N - 1 - j : Nat) : Int) ∧ FoUp (L : Int) (amK L (m + 1) N j) w5.heap.size s w5 wr U)
  case atStart => exact ⟨0, _, _, Nat.zero_le _, by omega, rfl, F0.out⟩
  case round =>
    clear F0
    obtain ⟨j, s, U, hj2, hgj, rfl, hF⟩ := hrel
    have HF := Lib.hid hF
    have hww : w5.heap.size ≤ wr.heap.size := hF.out.below.size
    have hgl : w5.heap.size < wr.heap.size := hF.lt
    have HBK := Lib.hid hF.out.below
    clear hF
    by_cases hlt : j < N - 1
    · have HY := Lib.hid (@amK_yes L (m + 1) N j)
      have HNo := Lib.hid (@amK_no L (m + 1) N j)
      have hfw := amK_few L (m + 1) N j
      obtain ⟨M, hM⟩ : ∃ M, M = N - 1 - j := ⟨_, rfl⟩
      have hM1 : M < 1024 := by omega
      have hM2 : (0 : Int) < (M : Int) := by omega
      rw [← hM] at HY HNo ⊢
      have HMN : Hid (N - 1 - (j + 1) = M - 1) := Lib.hid (by omega)
      have wM : IntKind.i64.wrap ((M : Int) - 1) = ((M - 1 : Nat) : Int) := by rw [IntKind.wrap_i64]; omega
      have CN : Hid (∀ W, Calls Try.prog 82 #[.int .i64 M] W (fun e w' => e = .returned (.int .i64 (popN 48 M)) ∧ W = w')) := Lib.hid fun W => countIn48 M W (by omega)
      have cp := popN_leN 48 M
      generalize hp : popN 48 M = p at HY HNo CN cp
      generalize amK L (m + 1) N j = T at HF HY HNo hfw
      clear hp hM
      by_cases he : p = m + 1
      · have HU := Lib.hid (HY.out he)
        have hpe : ((p : Int) == ((m + 1 : Nat) : Int)) = true := by simp; omega
        have TI : Hid (∀ W, Calls Try.prog 83 #[.int .i64 (L : Int), .int .i64 (M : Int)] W (Made (Value.int .i64) (0 : Int) (trueK L M L) W)) := Lib.hid fun W => trueIn_any L M W h2 hM1
        have TL := trueK_len L M L
        have TR := Lib.hid (true_rng (L := L) (m := M) h2)
        have OP : Hid (∀ W tv, IL W tv (trueK L M L) → Calls Try.prog 59 #[tv] W (GrownI (opp (trueK L M L)) W)) := Lib.hid fun W tv h => oppositesOf_any tv _ W h (by omega) (fun i hi => by have := TR.out i hi; omega)
        generalize opp (trueK L M L) = Z at OP HU
        generalize trueK L M L = Q at TI OP TL
        have c6 := HF.out.cells.2.1
        clear he HY HNo TR
        go_wp2_with fail
        go_at_call 82; refine (CN.out _).mono ?_; rintro e w' ⟨rfl, rfl⟩
        go_wp2_with fail
        go_region_law (first
          | (go_simp; go_at_call 83; refine (TI.out _).mono ?_; rintro e w7 ⟨tv, rfl, ht, b7⟩; have B7 : Hid (Below wr.heap.size wr w7) := Lib.hid (by first | exact b7 | exact (below_drewN (Below.refl wr.heap.size wr) _).trans b7 | exact (Below.refl wr.heap.size wr).drew.trans b7); have IT : Hid (∀ W, Below w7.heap.size w7 W → IL W tv Q) := Lib.hid (fun W hb => VL.below ht.vl hb (Nat.le_refl _)); clear ht b7; obtain ⟨ta, tc, rfl⟩ := (IT.out w7 (Below.refl _ _)).len; have HF7 := Lib.hid (HF.out.keep B7.out); have c7 := HF7.out.cells.2.1; have hz7 : wr.heap.size ≤ w7.heap.size := B7.out.size; go_wp2_with fail)
          | (go_simp; go_at_call 59; refine (OP.out _ _ (IT.out _ (by first | exact Below.refl _ _ | exact below_drewN (Below.refl _ _) _ | exact (Below.refl _ _).drew))).mono ?_; rintro e w8 ⟨dv, rfl, hd, b8⟩; have B8 : Hid (Below w7.heap.size w7 w8) := Lib.hid (by first | exact b8 | exact (below_drewN (Below.refl w7.heap.size w7) _).trans b8 | exact (Below.refl w7.heap.size w7).drew.trans b8); have D8 : Hid (Grows (Value.int .i64) 2 w7.heap.size dv Z w8) := Lib.hid hd; clear hd b8; obtain ⟨za, zc, rfl⟩ := SI.len (d := (0 : Int)) D8.out.si; have HF8 := Lib.hid (HF7.out.keep B8.out); have c8 := HF8.out.cells.2.1; have HOWN : Hid (∀ W, Below w8.heap.size w8 W → W.ownsRow w5.heap.size 25 1 s T.length ((List.range T.length).map U)) := Lib.hid fun W hb => (HF8.out.keep hb).out.own; have hz8 : w7.heap.size ≤ w8.heap.size := B8.out.size; have c8a : ∀ o, (w8.alloc o).cell? ⟨w5.heap.size, 1, none⟩ = some s := fun o => keep_cell c8 (below_alloc w8 o) (Nat.lt_of_lt_of_le (Nat.lt_of_lt_of_le hgl hz7) hz8); have B88 : Hid (Below wr.heap.size wr w8) := Lib.hid (B7.out.trans (B8.out.mono hz7)); have D88 : Hid (Grows (Value.int .i64) 2 wr.heap.size (.slice za Z.length zc) Z w8) := Lib.hid (D8.out.lower hz7); have hz88 : wr.heap.size ≤ w8.heap.size := Nat.le_trans hz7 hz8; go_wp2_with fail)
          | (refine step_append_lies _ (by rfl) _ _ _ (by rfl) w5.heap.size 25 j0 _ 1 24 Try.underlying22 hj hy0 hy1 hy2 rfl (by omega) s T.length ((List.range T.length).map U) (by rfl) (HOWN.out _ (by first | exact below_alloc _ _ | exact (below_drewN (Below.refl _ _) _).alloc (Nat.le_refl _) _ | exact below_drewN (below_alloc _ _) _ | exact (Below.refl _ _).drew.alloc (Nat.le_refl _) _ | exact (below_alloc _ _).drew)) ⟨w8.heap.size, 0, none⟩ 1 1 [.slice za Z.length zc] (by rfl) (by rfl) (World.news_of_block (cs := #[_]) (t := 25) (fr := (0, 0)) (heap_alloc_new _ _)) (by simp [Value.oneCell']) (by omega) (by unfold maxLen; omega) (by omega) (by simp; omega) (w8.heap.size + 1) (by simp) ?_; intro gg gcap w9 hown hgrow hat hlt9; obtain ⟨hk9, hf9⟩ := HF8.out.kept (by first | exact below_alloc w8 _ | exact (below_drewN (Below.refl w8.heap.size w8) _).alloc (Nat.le_refl _) _ | exact below_drewN (below_alloc w8 _) _ | exact (Below.refl w8.heap.size w8).drew.alloc (Nat.le_refl _) _ | exact (below_alloc w8 _).drew) hgrow; have HNX := Lib.hid (fun q => FoUp.next HF.out (by first | exact B88.out.trans ((below_alloc w8 _).mono hz88) | exact B88.out.trans (((below_drewN (Below.refl w8.heap.size w8) _).alloc (Nat.le_refl _) _).mono hz88) | exact B88.out.trans ((below_drewN (below_alloc w8 _) _).mono hz88) | exact B88.out.trans (((Below.refl w8.heap.size w8).drew.alloc (Nat.le_refl _) _).mono hz88) | exact B88.out.trans ((below_alloc w8 _).drew.mono hz88)) (D88.out.below (by first | exact below_alloc w8 _ | exact (below_drewN (Below.refl w8.heap.size w8) _).alloc (Nat.le_refl _) _ | exact below_drewN (below_alloc w8 _) _ | exact (Below.refl w8.heap.size w8).drew.alloc (Nat.le_refl _) _ | exact (below_alloc w8 _).drew) (Nat.le_refl _)) hown hgrow (hat.imp id (fun e => by rw [e]; simp)) q); clear hown hgrow hat hlt9))
        all_goals
          go_wp2_with fail
          go_roundg (gk - 1)
          case measure => omega
          case rel => exact ⟨j + 1, _, _, by omega, by omega, by rw [HMN.out], by rw [HU.out]; exact HNX.out 0⟩
      · have HU := Lib.hid (HNo.out he)
        have hpe : ((p : Int) == ((m + 1 : Nat) : Int)) = false := by simp; omega
        have hpe2 : ¬ (p : Int) = ((m + 1 : Nat) : Int) := by omega
        clear he HY HNo
        go_wp2_with fail
        go_at_call 82; refine (CN.out _).mono ?_; rintro e w' ⟨rfl, rfl⟩
        go_wp2_with fail
        go_roundg (gk - 1)
        case measure => omega
        case rel => exact ⟨j + 1, _, _, by omega, by omega, by rw [HMN.out], by rw [HU.out]; exact HF.out⟩
    · obtain rfl : j = N - 1 := by omega
      rw [HK.out] at HF
      rw [Nat.sub_self]
      obtain ⟨sa, sc, rfl⟩ := HF.out.slice
      obtain ⟨c0, c1, c2⟩ := HF.out.cells
      obtain ⟨⟨u0, r0⟩, ⟨u1, r1⟩, rf⟩ := R5.out.keep HBK.out hs5
      have rf0 := rf 0
      have rf1 := rf 1
      have BF := Lib.hid (HBW.out _ HBK.out)
      have hne : ¬ w5.heap.size = w.heap.size := by omega
      have hne2 : ¬ w.heap.size = w5.heap.size := by omega
      clear rf
      cases t with
      | true =>
        have hle : R.length ≤ 48 := of_decide_eq_true HT.out
        have hgt : ¬ ((48 : Int) < (R.length : Int)) := by omega
        go_wp2_with fail
        refine bodyPost_ret (v := .tuple #[.agg #[.int .i64 (L : Int), .slice sa R.length sc], .bool true]) (by simp [results, Try.results40, r0, r1, go_sem]) rfl ?_
        generalize hX : World.setCell _ _ _ = X
        have hT : Turned w.heap.size (w.heap.size + 1) wr X := by
          rw [← hX]
          repeat (refine Turned.setCell ?_ (by simp) (by simp) _)
          exact Turned.refl _ _ _
        clear hX
        exact ⟨_, rfl, HF.out.res hT (by omega) hw5', BF.out.trans (hT.below (by omega))⟩
      | false =>
        have hle : ¬ R.length ≤ 48 := of_decide_eq_false HT.out
        have hgt : (48 : Int) < (R.length : Int) := by omega
        go_wp2_with fail
        refine bodyPost_ret (v := .tuple #[.agg #[.int .i64 0, .slice none 0 0], .bool false]) (by simp [results, Try.results40, r0, r1, go_sem]) rfl ?_
        generalize hX : World.setCell _ _ _ = X
        have hT : Turned w.heap.size (w.heap.size + 1) wr X := by
          rw [← hX]
          repeat (refine Turned.setCell ?_ (by simp) (by simp) _)
          exact Turned.refl _ _ _
        clear hX
        exact saysFB_no (BF.out.trans (hT.below (by omega)))
end Go.Proofs.Ytnakpfbeeekmiaa
