/- Bins by the first fit: the program. -/
import Derived.Test.YtbaaocgdpgoggaaFbM
import Derived.Test.YtbaaocgdpgoggaaIxFbC
import Derived.Test.YtbaaocgdpgoggaaCmp
import Derived.StillTailTactics
namespace Go.Proofs.Ytbaaocgdpgoggaa
open Go.RowKit Go.ChangeShapes Go.WideShapes

set_option maxRecDepth 100000 in
set_option maxHeartbeats 2000000 in
theorem fb1_any (v : Value) (S : List Int) (r x y c : Nat) (w : World) (hv : IL w v S) (h : FbOk S r) (hx : x < S.length) (hy : y < S.length) (hc : w.cell? ⟨c, 0, none⟩ = some v) :
    Calls Try.prog 89 #[.int .i64 x, .int .i64 y, .pointer (some ⟨c, 0, none⟩)] w (fun e w' => e = .returned (.int .i64 (cmpI (S.getD y 0) (S.getD x 0))) ∧ ∃ n, w' = w.drewN n) := by
  have n2 := h.n2
  rcases hv with ⟨hz, _⟩ | ⟨b, off, cap, rfl, hpos, hbl, hcell⟩
  · rw [hz] at hx; simp at hx
  have sx := hcell x hx
  have sy := hcell y hy
  have lx : (x : Int) < (S.length : Int) := by omega
  have ly : (y : Int) < (S.length : Int) := by omega
  generalize S.getD x 0 = p at sx ⊢
  generalize S.getD y 0 = q at sy ⊢
  have HCC := Lib.hid fun (W : World) => ((compare_any q p W).mono fun _ _ ⟨h1, h2⟩ => ⟨h1, h2.symm⟩ : Calls Try.prog 90 #[.int .i64 q, .int .i64 p] W (fun e w' => e = .returned (.int .i64 (cmpI q p)) ∧ w' = W))
  generalize cmpI q p = z at HCC ⊢
  clear hcell h hpos
  go_enter Try.func89, Try.ntmps89
  go_wp2_with fail
  go_quiet ((go_at_call 90; with_reducible exact Calls.quiet_of_same (HCC.out _)))
  go_wp2_with fail
  go_ret
  exact ⟨rfl, _, rfl⟩
theorem fb_of (v : Value) (S : List Int) (r c : Nat) (W0 : World) (hv : IL W0 v S) (h : FbOk S r) (hc : W0.cell? ⟨c, 0, none⟩ = some v) :
    CmpOf 89 #[.pointer (some ⟨c, 0, none⟩)] (fun x y => cmpI (S.getD y 0) (S.getD x 0)) S.length W0 := by
  intro W hb x y hx hy
  exact fb1_any v S r x y c W (hv.below hb (Nat.le_refl _)) h hx hy (keep_cell hc hb (cell_block hc))
theorem fb2_any (left : Int) (n cap b off a c t q : Nat) (w : World) (hc : w.cell? ⟨a, 0, none⟩ = some (.slice (some ⟨b, off, none⟩) n cap)) (hd : w.cell? ⟨c, 0, none⟩ = some (.int .i64 t)) (he : w.cell? ⟨b, off + t, none⟩ = some (.int .i64 q)) (ht : t < n) :
    Calls Try.prog 92 #[.int .i64 left, .pointer (some ⟨a, 0, none⟩), .pointer (some ⟨c, 0, none⟩)] w (Says (decide ((q : Int) ≤ left)) w) := by
  have lt : (t : Int) < (n : Int) := by omega
  go_enter Try.func92, Try.ntmps92
  go_wp2_with fail
  go_ret
  exact says rfl (Below.refl _ _)
theorem fi_some {q k : Nat} {L : List Nat} (h : FirstAt (fun left => decide ((q : Int) ≤ left)) (intsN L) k) : fiB q L = k ∧ k < L.length := by
  have hk : k < L.length := by have := h.lt; rwa [intsN_len] at this
  refine ⟨fiB_is hk ?_ fun j hj => ?_, hk⟩
  · have := h.yes
    rw [intsN_at hk] at this
    simpa using this
  · have := h.no j hj
    rw [intsN_at (by omega)] at this
    simpa using this
theorem fi_none {q : Nat} {L : List Nat} (h : NoneAt (fun left => decide ((q : Int) ≤ left)) (intsN L)) : fiB q L = L.length :=
  fiB_none fun j hj => by
    have := h j (by rw [intsN_len]; exact hj)
    rw [intsN_at hj] at this
    simpa using this
set_option maxRecDepth 100000 in
set_option maxHeartbeats 16000000 in
theorem implFb_yes (v : Value) (S : List Int) (r : Nat) (w : World) (hv : IL w v S) (hn : S.length ≤ 1048576) (h : fitsB S r = true) :
    Calls Try.prog 37 #[v, .int .i64 r] w (SaysJIB (fbA S r) (fbN S r) true w) := by
  obtain ⟨i0, hi, hz0, hz1, hz2⟩ := info_parts Try.infoI
  have H := Lib.hid h
  have OK := Lib.hid (fits_fb h)
  have n1 := OK.out.n1
  have n2 := OK.out.n2
  have hr := OK.out.r2
  have HA := Lib.hid (fbA_yes h)
  have HE := Lib.hid (fbN_yes h)
  have HV := Lib.hid hv
  have HOL := Lib.hid (fbO_len S)
  have hmk := run_make_row' (P := Try.prog) 25 2 (.int .i64 0) 8 Try.underlying25 Try.infoI rfl .i64 .i64 S.length (by omega) (by omega)
  have EG := Lib.hid (enters_of Try.func89 (by kernel_rfl) rfl)
  rcases hv with ⟨hz, -⟩ | ⟨b, off, cap, rfl, hpos, hbl, hcell⟩
  · rw [hz] at n1; simp at n1
  have HC := Lib.hid hcell
  rw [HE.out, HA.out]
  obtain ⟨W, hW⟩ : ∃ W, W = w.alloc (.cells #[.slice (some ⟨b, off, none⟩) S.length (S.length + cap)] 25) := ⟨_, rfl⟩
  have HWW := Lib.hid hW
  have HB : Hid (Below w.heap.size w W) := Lib.hid (by rw [hW]; exact below_alloc w _)
  have HS0 := Lib.hid (show W.cell? ⟨w.heap.size, 0, none⟩ = some (.slice (some ⟨b, off, none⟩) S.length (S.length + cap)) from by rw [hW]; exact World.cell?_alloc_new w #[.slice (some ⟨b, off, none⟩) S.length (S.length + cap)] 25 0)
  have hzW : W.heap.size = w.heap.size + 1 := by rw [hW]; simp
  have c0 := HS0.out
  clear hcell h hW
  go_enter Try.func37, Try.ntmps37
  go_wp2_with (rw [← HWW.out])
  go_at_call 87; refine (areForBins_is true _ S r _ (HV.out.below HB.out (Nat.le_refl _)) hn H.out).mono ?_; rintro e w1 ⟨rfl, m1, rfl⟩
  have BD := Lib.hid (below_drewN (Below.refl W.heap.size W) m1)
  obtain ⟨W1, hW1⟩ : ∃ W1, W1 = (W.drewN m1).alloc (.cells (madeCells #[.int .i64 0] S.length) 2) := ⟨_, rfl⟩
  have HW1 := Lib.hid hW1
  have B1 : Hid (Below W.heap.size W W1) := Lib.hid (by rw [hW1]; exact BD.out.alloc (Nat.le_refl _) _)
  have A1 : Hid (Arr (Value.int .i64) 0 W1 W.heap.size 0 (List.replicate S.length 0)) := Lib.hid (by rw [hW1]; exact fb_start (W.drewN m1) S.length)
  have hz1W : W1.heap.size = W.heap.size + 1 := by rw [hW1]; simp
  have B1w := Lib.hid (HB.out.trans (B1.out.mono HB.out.size))
  have HCM := Lib.hid (fb_of _ S r w.heap.size W1 (HV.out.below B1w.out (Nat.le_refl _)) OK.out (keep_cell HS0.out B1.out (by omega)))
  have c1 : W1.cell? ⟨w.heap.size, 0, none⟩ = some (.slice (some ⟨b, off, none⟩) S.length (S.length + cap)) := keep_cell HS0.out B1.out (by omega)
  have HC1 := Lib.hid c1
  clear hW1
  go_wp2_with (rw [← HW1.out])
  go_at_call 88; refine (orderBy_any S.length 89 _ (fun x y => cmpI (S.getD y 0) (S.getD x 0)) _ n1 (by omega) EG.out HCM.out).mono ?_; rintro e w2 ⟨o, rfl, io, b2o⟩
  rw [show ordN (ltC fun x y => cmpI (S.getD y 0) (S.getD x 0)) S.length = fbO S from rfl] at io
  have B2 := Lib.hid (B1w.out.trans (b2o.mono B1w.out.size))
  have hzz : W.heap.size < w2.heap.size := by have := b2o.size; omega
  have HC2 : Hid (w2.cell? ⟨w.heap.size, 0, none⟩ = some (.slice (some ⟨b, off, none⟩) S.length (S.length + cap))) := Lib.hid (keep_cell HC1.out b2o (by omega))
  obtain ⟨B, hBB⟩ : ∃ B, B = w.heap.size + 1 := ⟨_, rfl⟩
  have hBW : B = W.heap.size := by omega
  have ST : Hid (FbAt w2 B S.length (List.replicate S.length 0) (.slice none 0 0) [] w2) := Lib.hid (by rw [hBW]; exact ⟨Turned.refl _ _ _, hzz, A1.out.below b2o (by omega), by simp, Grows.nil _ _ _ _⟩)
  rw [← hBW] at hzz
  rw [← hBB]
  obtain ⟨_, hz | ⟨b3, off3, cap3, rfl, hpos3, hge3, hbl3, hfr3, hcell3⟩⟩ := io
  · have := congrArg List.length hz.1
    rw [intsN_len, HOL.out, List.length_nil] at this
    omega
  have HC3 := Lib.hid hcell3
  have e3 : (intsN (fbO S)).length = S.length := by rw [intsN_len, HOL.out]
  rw [e3]
  have E3 := Lib.hid e3
  have hBw : w.heap.size < B := by omega
  have hb3B : b3 ≠ B := by omega
  clear b2o hcell3 hfr3 hpos3 e3 c0 c1 hmk hBB hBW hzW hz1W
  go_wp2_with fail
  go_loopg [8, 24] S.length (fun gk p i wr => ∃ (k : Nat) (L : List Nat) (Z : List Int), k ≤ S.length ∧ gk + k = S.length ∧ i = .int .i64 k ∧ FbAt w2 B S.length Z p L wr ∧ L.length ≤ k ∧ (∀ j, j < L.length → L.getD j 0 ≤ r) ∧ fbL S r ((fbO S).drop k) L = fbL S r (fbO S) [] ∧ fbZ S r ((fbO S).drop k) L Z = fbZ S r (fbO S) [] (List.replicate S.length 0))
  case atStart => exact ⟨0, [], _, Nat.zero_le _, by omega, rfl, ST.out, by simp, fun j hj => by simp at hj, rfl, rfl⟩
  case round =>
    obtain ⟨k, L, Z, hk, hgk, rfl, hF, hLl, hmo, hEL, hEZ⟩ := hrel
    have HF := Lib.hid hF
    have HEL := Lib.hid hEL
    have HEZ := Lib.hid hEZ
    have HMO := Lib.hid hmo
    have HLL := Lib.hid hLl
    have tt := hF.turned
    have hsz := hF.turned.size
    clear hEL hEZ hmo
    by_cases hlt : k < S.length
    · have hin := fbO_lt hlt
      have y3 := (show wr.cell? ⟨b3, off3 + k, none⟩ = some (.int .i64 (((fbO S).getD k 0 : Nat) : Int)) from keep_cell' ((HC3.out k (by rw [E3.out]; exact hlt)).trans (by rw [intsN_at (by rw [HOL.out]; exact hlt)])) tt (by omega))
      have y1 := (show wr.cell? ⟨b, off + (fbO S).getD k 0, none⟩ = some (.int .i64 (S.getD ((fbO S).getD k 0) 0)) from keep_cell' ((B2.out.cell (p := ⟨b, off + (fbO S).getD k 0, none⟩) hbl).trans (HC.out _ hin)) tt (by omega))
      have y2 := (show wr.cell? ⟨w.heap.size, 0, none⟩ = some (.slice (some ⟨b, off, none⟩) S.length (S.length + cap)) from keep_cell' HC2.out tt (by omega))
      obtain ⟨s1, s2, s3⟩ := OK.out.s _ hin
      have HKT : Hid (k < (fbO S).length) := Lib.hid (by rw [HOL.out]; exact hlt)
      rw [s1] at y1
      obtain ⟨t, ht⟩ : ∃ t, (fbO S).getD k 0 = t := ⟨_, rfl⟩
      have HT := Lib.hid ht
      rw [ht] at y1 y3 s2 s3 hin
      obtain ⟨q, hq⟩ : ∃ q, szN S t = q := ⟨_, rfl⟩
      have HSQ := Lib.hid hq
      rw [hq] at y1 s2 s3
      have HQR := Lib.hid s3
      have ht2 : (t : Int) < (S.length : Int) := by omega
      have hwl : w.heap.size < wr.heap.size := by omega
      have hblr : b < wr.heap.size := by omega
      obtain ⟨w4, hw4⟩ : ∃ w4, w4 = wr.alloc (.cells #[.int .i64 (t : Int)] 2) := ⟨_, rfl⟩
      have HW4 := Lib.hid hw4
      have B4 : Hid (Below wr.heap.size wr w4) := Lib.hid (by rw [hw4]; exact below_alloc _ _)
      have hz4 : w4.heap.size = wr.heap.size + 1 := by rw [hw4]; simp
      have HD4 : Hid (w4.cell? ⟨wr.heap.size, 0, none⟩ = some (.int .i64 (t : Int))) := Lib.hid (by rw [hw4]; exact World.cell?_alloc_new wr #[.int .i64 (t : Int)] 2 0)
      have F4 := Lib.hid (hF.below B4.out)
      have HA4 := Lib.hid (keep_cell y2 B4.out hwl)
      have HB4 := Lib.hid (keep_cell y1 B4.out hblr)
      have HI4 := Lib.hid (F4.out.il)
      have HCL : Hid (∀ j w', j < (intsN L).length → Below w4.heap.size w4 w' → Calls Try.prog 92 #[.int .i64 ((intsN L).getD j 0), .pointer (some ⟨w.heap.size, 0, none⟩), .pointer (some ⟨wr.heap.size, 0, none⟩)] w' (Says (decide ((q : Int) ≤ (intsN L).getD j 0)) w')) := Lib.hid fun j w' _ hb =>
        fb2_any _ S.length _ b off w.heap.size wr.heap.size t q w' (keep_cell HA4.out hb (by omega)) (keep_cell HD4.out hb (by omega)) (keep_cell HB4.out hb (by omega)) hin
      clear hF hw4 s1 ht hq tt
      go_wp2_with (rw [← HW4.out])
      go_at_call 91; refine (ixFbC_any (fun left => decide ((q : Int) ≤ left)) w.heap.size wr.heap.size _ (intsN L) _ HI4.out (by rw [intsN_len]; have := HLL.out; omega) HCL.out).mono ?_; rintro e w5 ⟨⟨k5, hf, rfl⟩ | ⟨hf, rfl⟩, b5⟩
      · obtain ⟨hf1, hf2⟩ := fi_some hf
        subst hf1
        have HWD : Hid (wideL r q L = L) := Lib.hid (by unfold wideL; rw [if_pos hf2])
        obtain ⟨g7, c7, rfl, hg1, hg2⟩ := Grows.lit HF.out.own (by omega)
        have F5 := Lib.hid (F4.out.below b5)
        obtain ⟨m7, hm0⟩ : ∃ m7, m7 = L.length := ⟨_, rfl⟩
        have HM7 : Hid (m7 = (wideL r q L).length) := Lib.hid (by rw [HWD.out]; exact hm0)
        have K7 : Hid (FbAt w2 B S.length Z (.slice (some ⟨g7, 0, none⟩) m7 c7) (wideL r q L) w5) := Lib.hid (by rw [HWD.out, hm0]; exact F5.out)
        have d0 := keep_cell HA4.out b5 (by omega)
        have d1 := keep_cell HD4.out b5 (by omega)
        have d2 := keep_cell HB4.out b5 (by omega)
        have hgc : g7 ≠ wr.heap.size := by omega
        have hgw : g7 ≠ w.heap.size := by omega
        have hgb : g7 ≠ b := by omega
        have hcB : wr.heap.size ≠ B := by omega
        rw [← hm0]
        clear b5 hf hf2 y1 y2 y3 hm0
        have hm7 : m7 = (wideL r q L).length := HM7.out
        have hbin := wideL_in r q L
        have hroom := wideL_room (L := L) HQR.out
        have hmost := wideL_most (q := q) HMO.out
        have x0 := K7.out.at hm7 hbin
        have x1 := K7.out.free hm7 (fiB q L)
        have z0 := K7.out.arr.cell0 (i := t) (by rw [K7.out.zl]; exact hin)
        have z1 := K7.out.arr.free t
        have hx9 := hmost _ hbin
        have hll := wideL_len r q L
        have K8 := Lib.hid (K7.out.left (j := fiB q L) (x := (wideL r q L).getD (fiB q L) 0 - q) hm7)
        have hgB : g7 ≠ B := by have := (World.ownsRow.lt K7.out.own g7 rfl).1; have := K7.out.lt; omega
        have hBg : B ≠ g7 := fun e => hgB e.symm
        have HPUT : Hid ((wideL r q L).set (fiB q L) ((wideL r q L).getD (fiB q L) 0 - q) = putB r q L) := Lib.hid rfl
        rw [HPUT.out] at K8
        have HLB : Hid ((putB r q L).length ≤ k + 1) := Lib.hid (Nat.le_trans (putB_len r q L) (by have := HLL.out; omega))
        have HMB := Lib.hid (putB_most (q := q) HMO.out)
        have hbm : fiB q L < m7 := by rw [hm7]; exact hbin
        obtain ⟨x, hx⟩ : ∃ x, (wideL r q L).getD (fiB q L) 0 = x := ⟨_, rfl⟩
        obtain ⟨z, hz⟩ : ∃ z, z = Z.getD t 0 := ⟨_, rfl⟩
        rw [hx] at x0 K8 hroom hx9
        rw [← hz] at z0
        have HON := Lib.hid (show fbL S r ((fbO S).drop (k + 1)) (putB r q L) = fbL S r (fbO S) [] from by rw [← HEL.out, fbL_on HKT.out, HT.out, HSQ.out])
        have HOZ := Lib.hid (show fbZ S r ((fbO S).drop (k + 1)) (putB r q L) (Z.set t (fiB q L : Nat)) = fbZ S r (fbO S) [] (List.replicate S.length 0) from by rw [← HEZ.out, fbZ_on HKT.out, HT.out, HSQ.out])
        generalize fiB q L = bin at x0 x1 K8 hbin hbm HOZ
        have hbm2 : (bin : Int) < (m7 : Int) := by omega
        have wx : IntKind.i64.wrap ((x : Int) - (q : Int)) = ((x - q : Nat) : Int) := by rw [show (x : Int) - (q : Int) = ((x - q : Nat) : Int) by omega]; exact IntWalk.i64_in _ (by omega)
        generalize x - q = xq at wx K8
        have K9 := Lib.hid ((K8.out.bin (i := t) (x := (bin : Int)) hin).drew 1)
        clear hx hz hbin hroom hmost hx9 hll hm7 hbm HPUT
        have hbn : ¬ (bin : Int) = -1 := by omega
        have hbn2 : ((bin : Int) == -1) = false := by simp
        go_wp2_with fail
        refine wp_region_still_tail 10 (by kernel_rfl) (by kernel_rfl) ?_
        simp only [List.take_succ_cons, List.take_zero, List.drop_succ_cons, List.drop_zero]
        repeat still_step
        refine wpStill_nil ?_
        change wpList _ _ _ _ _ w5.drew
        go_wp2_with fail
        go_roundg (gk - 1)
        case measure => omega
        case rel => exact ⟨k + 1, _, _, by omega, by omega, by go_num, K9.out, HLB.out, HMB.out, HON.out, HOZ.out⟩
      · have hf2 := fi_none hf
        have HWD : Hid (wideL r q L = L ++ [r]) := Lib.hid (by unfold wideL; rw [if_neg (by omega)])
        have F5 := Lib.hid (F4.out.below b5)
        have d0 := keep_cell HA4.out b5 (by omega)
        have d1 := keep_cell HD4.out b5 (by omega)
        have d2 := keep_cell HB4.out b5 (by omega)
        have h5 := b5.size
        obtain ⟨pa, pn, pc, rfl, hpn⟩ := HF.out.lit
        have HIL := Lib.hid (intsN_len L)
        have HPN : Hid (fiB q L = pn) := Lib.hid (by rw [hf2, hpn])
        have HO1 : Hid (some wr.heap.size ≠ (Value.slice pa pn pc).ownBlock) := Lib.hid fun e => by have := (World.ownsRow.lt HF.out.own _ e.symm).2; omega
        have HO2 : Hid (∀ z, z < w2.heap.size → some z ≠ (Value.slice pa pn pc).ownBlock) := Lib.hid fun z hz e => by have := (World.ownsRow.lt HF.out.own _ e.symm).1; omega
        have D0 := Lib.hid d0
        have D1 := Lib.hid d1
        have D2 := Lib.hid d2
        have hbz2 : b < w2.heap.size := Nat.lt_of_lt_of_le hbl B2.out.size
        clear b5 hf hf2 y1 y2 y3 hpn
        go_wp2_with (at_builtin; refine wpList_append_own_at _ rfl _ _ 25 rfl w2.heap.size 2 i0 (.int .i64 0) 1 8 Try.underlying25 hi hz0 hz1 hz2 rfl (by decide) _ _ _ rfl (Grows.alloc F5.out.own _) ⟨w5.heap.size, 0, none⟩ 1 1 [.int .i64 (r : Int)] rfl rfl ?c1 ?c2 ?c3 ?c4 ?c5 ?_)
        case c1 => exact one_new
        case c2 => intro u hu; simp at hu; subst hu; rfl
        case c3 => have := HIL.out; have := HLL.out; unfold maxLen; omega
        case c4 => have := HIL.out; have := HLL.out; omega
        case c5 => simp; omega
        intro v' w' hown hgrow _ hat
        have F7 := F5.out.more hown hgrow
        obtain ⟨g7, c7, rfl, hg1, hg2⟩ := Grows.lit F7.own (by simp)
        have hal : w5.heap.size < (w5.alloc (.cells #[.int .i64 (r : Int)] 2)).heap.size := by simp
        have e0 : w'.cell? ⟨w.heap.size, 0, none⟩ = _ := hgrow.cell (keep_cell D0.out (below_alloc w5 _) (by omega)) (HO2.out _ (by show w.heap.size < _; omega))
        have e1 : w'.cell? ⟨wr.heap.size, 0, none⟩ = _ := hgrow.cell (keep_cell D1.out (below_alloc w5 _) (by omega)) HO1.out
        have e2 : w'.cell? ⟨b, off + t, none⟩ = _ := hgrow.cell (keep_cell D2.out (below_alloc w5 _) (by omega)) (HO2.out _ hbz2)
        have hgc : g7 ≠ wr.heap.size := by
          rcases hat with e | e
          · intro q2
            subst q2
            exact HO1.out e
          · have e' : some g7 = some (w5.heap.size + 1) := e
            injection e' with e'
            omega
        have hgw : g7 ≠ w.heap.size := by omega
        have hgb : g7 ≠ b := by omega
        have hcB : wr.heap.size ≠ B := by omega
        obtain ⟨m7, hm0⟩ : ∃ m7, m7 = (L ++ [r]).length := ⟨_, rfl⟩
        have HM7 : Hid (m7 = (wideL r q L).length) := Lib.hid (by rw [HWD.out]; exact hm0)
        have K7 : Hid (FbAt w2 B S.length Z (.slice (some ⟨g7, 0, none⟩) m7 c7) (wideL r q L) w') := Lib.hid (by rw [HWD.out, hm0]; exact F7)
        rw [← hm0]
        clear hown hgrow hat F7 d0 d1 d2 hm0 hal
        have hm7 : m7 = (wideL r q L).length := HM7.out
        have hbin := wideL_in r q L
        have hroom := wideL_room (L := L) HQR.out
        have hmost := wideL_most (q := q) HMO.out
        have x0 := K7.out.at hm7 hbin
        have x1 := K7.out.free hm7 (fiB q L)
        have z0 := K7.out.arr.cell0 (i := t) (by rw [K7.out.zl]; exact hin)
        have z1 := K7.out.arr.free t
        have hx9 := hmost _ hbin
        have hll := wideL_len r q L
        have K8 := Lib.hid (K7.out.left (j := fiB q L) (x := (wideL r q L).getD (fiB q L) 0 - q) hm7)
        have hgB : g7 ≠ B := by have := (World.ownsRow.lt K7.out.own g7 rfl).1; have := K7.out.lt; omega
        have hBg : B ≠ g7 := fun e => hgB e.symm
        have HPUT : Hid ((wideL r q L).set (fiB q L) ((wideL r q L).getD (fiB q L) 0 - q) = putB r q L) := Lib.hid rfl
        rw [HPUT.out] at K8
        have HLB : Hid ((putB r q L).length ≤ k + 1) := Lib.hid (Nat.le_trans (putB_len r q L) (by have := HLL.out; omega))
        have HMB := Lib.hid (putB_most (q := q) HMO.out)
        have hbm : fiB q L < m7 := by rw [hm7]; exact hbin
        obtain ⟨x, hx⟩ : ∃ x, (wideL r q L).getD (fiB q L) 0 = x := ⟨_, rfl⟩
        obtain ⟨z, hz⟩ : ∃ z, z = Z.getD t 0 := ⟨_, rfl⟩
        rw [hx] at x0 K8 hroom hx9
        rw [← hz] at z0
        have HON := Lib.hid (show fbL S r ((fbO S).drop (k + 1)) (putB r q L) = fbL S r (fbO S) [] from by rw [← HEL.out, fbL_on HKT.out, HT.out, HSQ.out])
        have HOZ := Lib.hid (show fbZ S r ((fbO S).drop (k + 1)) (putB r q L) (Z.set t (fiB q L : Nat)) = fbZ S r (fbO S) [] (List.replicate S.length 0) from by rw [← HEZ.out, fbZ_on HKT.out, HT.out, HSQ.out])
        generalize fiB q L = bin at x0 x1 K8 hbin hbm HOZ HPN
        have hbm2 : (bin : Int) < (m7 : Int) := by omega
        have wx : IntKind.i64.wrap ((x : Int) - (q : Int)) = ((x - q : Nat) : Int) := by rw [show (x : Int) - (q : Int) = ((x - q : Nat) : Int) by omega]; exact IntWalk.i64_in _ (by omega)
        generalize x - q = xq at wx K8
        have K9 := Lib.hid ((K8.out.bin (i := t) (x := (bin : Int)) hin).drew 1)
        clear hx hz hbin hroom hmost hx9 hll hm7 hbm HPUT
        obtain rfl := HPN.out
        go_wp2_with fail
        refine wp_region_still_tail 10 (by kernel_rfl) (by kernel_rfl) ?_
        simp only [List.take_succ_cons, List.take_zero, List.drop_succ_cons, List.drop_zero]
        repeat still_step
        refine wpStill_nil ?_
        change wpList _ _ _ _ _ w'.drew
        go_wp2_with fail
        go_roundg (gk - 1)
        case measure => omega
        case rel => exact ⟨k + 1, _, _, by omega, by omega, by go_num, K9.out, HLB.out, HMB.out, HON.out, HOZ.out⟩
    · obtain rfl : k = S.length := by omega
      have hL2 : L = fbL S r (fbO S) [] := by rw [← HEL.out, fbL_end (HOL.out).symm]
      have hZ2 : Z = fbZ S r (fbO S) [] (List.replicate S.length 0) := by rw [← HEZ.out, fbZ_end (HOL.out).symm]
      have HL2 := Lib.hid hL2
      have HZ2 := Lib.hid hZ2
      have BR := Lib.hid (B2.out.trans (tt.below (Nat.le_of_lt hzz) |>.mono (by omega)))
      have hzl := hF.zl
      have hBr : B < wr.heap.size := by omega
      have HR := Lib.hid (hF.arr.si (lo := w.heap.size) (by omega) hBr)
      obtain ⟨pa, pn, pc, rfl, hpn⟩ := hF.lit
      have HPN := Lib.hid hpn
      rw [hzl] at HR
      clear hF hL2 hZ2 tt hpn hzl HEL HEZ HF
      go_wp2_with fail
      refine bodyPost_ret (v := .tuple #[.slice (some ⟨B, 0, none⟩) S.length S.length, .int .i64 (pn : Int), .bool true]) (by simp [results, Try.results37, go_sem]) rfl ?_
      rw [← HZ2.out, ← HL2.out, ← HPN.out]
      exact ⟨_, rfl, HR.out, BR.out⟩
theorem fits_nat {S : List Int} {r : Int} (h : fitsB S r = true) : ∃ q : Nat, r = (q : Int) := ⟨r.toNat, by have := inB_ok (fits_ok h).2.1; omega⟩
theorem implFirstBins_any (v : Value) (S : List Int) (r : Int) (w : World) (hv : IL w v S) (o : OKI S) (_ : -9223372036854775808 ≤ r ∧ r ≤ 9223372036854775807) :
    Calls Try.prog 37 #[v, .int .i64 r] w (SaysJIB (fbA S r) (fbN S r) (fitsB S r) w) := by
  have hn := o.size
  cases h1 : fitsB S r with
  | false =>
    rw [fbA_no h1, fbN_no h1]
    have HV := Lib.hid (fun o => hv.below (below_alloc w o) (Nat.le_refl _))
    obtain ⟨ao, cap, rfl⟩ := hv.long
    have H1 := Lib.hid h1
    clear h1 hv
    go_enter Try.func37, Try.ntmps37
    go_wp2_with fail
    go_at_call 87; refine (areForBins_is false _ S r _ (HV.out _) hn H1.out).mono ?_; rintro e w' ⟨rfl, m, rfl⟩
    go_wp2_with fail
    refine bodyPost_ret (v := .tuple #[.slice none 0 0, .int .i64 0, .bool false]) (by simp [results, Try.results37, go_sem]) rfl ?_
    exact ⟨_, rfl, SI.nil _ (Nat.le_refl _) _ _, below_drewN (below_alloc _ _) _⟩
  | true =>
    obtain ⟨q, rfl⟩ := fits_nat h1
    exact implFb_yes v S q w hv hn h1
end Go.Proofs.Ytbaaocgdpgoggaa
