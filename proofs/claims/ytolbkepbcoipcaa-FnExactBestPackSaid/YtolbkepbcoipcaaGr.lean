/- Rows of best gains: the program's side. -/
import Derived.Test.YtolbkepbcoipcaaBest
import Derived.Test.YtolbkepbcoipcaaLl
namespace Go.Proofs.Ytolbkepbcoipcaa
open Go.RowKit Go.ChangeShapes Go.WideShapes

/-- The rows of gains, k of them. -/
structure GrAt (S G : List Int) (r : Nat) (w : World) (k : Nat) (v : Value) (vs : List Value) (wr : World) : Prop where
  below : Below w.heap.size w wr
  lls : LLs w.heap.size v vs (k + 1) (fun j => allF (bestG S G j) (r + 1)) wr
/-- What gainRows answers. -/
def SaysGr (S G : List Int) (r : Nat) (w : World) (e : Ending) (w' : World) : Prop := ∃ v vs, e = .returned v ∧ GrAt S G r w S.length v vs w'
set_option maxRecDepth 100000 in
set_option maxHeartbeats 8000000 in
theorem gainRows_any (v u : Value) (S G : List Int) (r : Nat) (w : World) (hv : IL w v S) (hu : IL w u G) (OK : CanOk S G (r : Int)) :
    Calls Try.prog 45 #[v, u, .int .i64 r] w (SaysGr S G r w) := by
  obtain ⟨i0, hi, hz0, hz1, hz2⟩ := info_parts Try.infoI
  obtain ⟨j0, ji, jz0, jz1, jz2⟩ := info_parts Try.infoII
  have OKH := Lib.hid OK
  have r1 := OK.r1
  have l1 := OK.s.l1
  have l2 := OK.s.l2
  have hgl := OK.l
  have BI := Lib.hid (bestG_in (S := S) (G := G) (fun i hi => OK.g i (by omega)))
  rcases hv with ⟨rfl, ao, cap, rfl⟩ | ⟨b, off, cap, rfl, hpos, hbl, hcell⟩
  · simp at l1
  rcases hu with ⟨rfl, ao, cap, rfl⟩ | ⟨b2, off2, cap2, rfl, hpos2, hbl2, hcell2⟩
  · simp at hgl; omega
  have HC := Lib.hid hcell
  have HD := Lib.hid hcell2
  have HGL := Lib.hid hgl
  clear hcell hcell2 OK hgl
  go_enter Try.func45, Try.ntmps45
  go_wp2_with (at_make; refine wpList_make_full _ rfl _ _ 22 rfl w.heap.size 2 i0 (.int .i64 0) 1 Try.underlying22 hi hz0 hz1 _ _ _ _ (r + 1) rfl rfl rfl rfl (by rw [hz2]; omega) (by unfold maxLen; omega) (Nat.le_refl _) ?_; intro w2 hown hgrow; have bm := (Below.refl w.heap.size w).grown hgrow (Nat.le_refl _) (fun g hg => by cases hg); have hA := Lib.hid (show RowAt w w.heap.size (List.replicate (r + 1) 0) w2 from ⟨bm, (hown.lt _ rfl).2, Nat.le_refl _, Arr.made_i hown⟩); clear hown hgrow bm)
  have H0 : Hid (GrAt S G r w 0 (.slice (some ⟨w2.heap.size, 0, none⟩) 1 1) [.slice (some ⟨w.heap.size, 0, none⟩) (r + 1) (r + 1)] (w2.alloc (.cells #[.slice (some ⟨w.heap.size, 0, none⟩) (r + 1) (r + 1)] 22))) := Lib.hid ⟨hA.out.below.trans ((below_alloc w2 _).mono hA.out.below.size), LLs.one (b := w.heap.size) (by
    have h := hA.out.arr.ii1 (cap := 0) (by rw [List.length_replicate]; omega) hA.out.lt
    rw [List.length_replicate, best0 S G] at h
    exact h) (Nat.le_refl _) hA.out.below.size⟩
  clear hA
  go_loopg [7, 18] S.length (fun gk v i wr => ∃ k : Nat, k ≤ S.length ∧ gk + k = S.length ∧ i = .int .i64 k ∧ ∃ vs, GrAt S G r w k v vs wr)
  case atStart => exact ⟨0, Nat.zero_le _, by omega, rfl, _, H0.out⟩
  case round =>
    clear H0
    obtain ⟨k, hk, hgk, rfl, vs, hat⟩ := hrel
    have HA := Lib.hid hat
    by_cases hlt : k < S.length
    · have hkG : k < G.length := by rw [HGL.out]; omega
      obtain ⟨s, hs⟩ := nat_of (show 0 ≤ S.getD k 0 from by have := (OKH.out.s.a k hlt).1; omega)
      have s1 : 1 ≤ s := by have := (OKH.out.s.a k hlt).1; omega
      have s2 : s ≤ 1000 := by have := (OKH.out.s.a k hlt).2; omega
      obtain ⟨y, hy⟩ : ∃ y, y = G.getD k 0 := ⟨_, rfl⟩
      have y1 : 0 ≤ y := by rw [hy]; exact (OKH.out.g k hkG).1
      have y2 : y ≤ 1000 := by rw [hy]; exact (OKH.out.g k hkG).2
      have HS := Lib.hid hs
      have HY := Lib.hid hy
      have x1 : wr.cell? ⟨b, off + k, none⟩ = some (.int .i64 (s : Int)) := by rw [HA.out.below.cell (p := ⟨b, off + k, none⟩) hbl, ← hs]; exact HC.out k hlt
      obtain ⟨rb, ro, rc, rfl, rb1, rb2, rcell⟩ := hat.lls.cell (Nat.succ_pos _)
      have x3 := rcell k (by omega)
      have RC := Lib.hid rcell
      obtain ⟨qb, hq1, hq2, hq3⟩ := hat.lls.rows k (by omega)
      obtain ⟨ob, oo, oc, hu0, ob1, ob2, ob3, oarr⟩ := hq1.lies (by rw [allF_len]; omega)
      rw [hu0, allF_len] at x3
      have HU0 := Lib.hid hu0
      have OA := Lib.hid oarr
      have HOL := Lib.hid hq1.il
      rw [hu0, allF_len] at HOL
      have ob4 : ob < wr.heap.size := Nat.lt_of_lt_of_le ob2 ob3
      clear hs hy hat rcell hu0 oarr hq1 hq2 hq3 ob1 ob2 ob3
      have hki : (k : Int) < ((k + 1 : Nat) : Int) := by omega
      have hki2 : (k : Int) < (k : Int) + 1 := by omega
      go_wp2_with fail
      go_at_call 59; refine (cloneI_any _ _ _ HOL.out (by rw [allF_len]; omega)).mono ?_; rintro e w3 ⟨nv, rfl, i3, b3⟩
      obtain ⟨nb, no, nc, rfl, nb1, nb2, -, narr⟩ := II.lies i3 (by rw [allF_len]; omega)
      rw [allF_len]
      have HS2 := Lib.hid (show mix (bestG S G k) (bestG S G (k + 1)) (r + 1) s = allF (bestG S G k) (r + 1) from mix_done fun x hx => (best_no HS.out (by omega)).symm)
      have N0 := Lib.hid (show RowO wr nb no (allF (bestG S G k) (r + 1)) w3 from ⟨b3, nb2, nb1, narr⟩)
      have X2 : Hid (∀ wx, Below wr.heap.size wr wx → wx.cell? ⟨b2, off2 + k, none⟩ = some (.int .i64 y)) := Lib.hid fun wx hb => by
        rw [(HA.out.below.trans (hb.mono HA.out.below.size)).cell (p := ⟨b2, off2 + k, none⟩) hbl2, HY.out]; exact HD.out k hkG
      have X3 : Hid (∀ wx, Below wr.heap.size wr wx → wx.cell? ⟨rb, ro + k, none⟩ = some (.slice (some ⟨ob, oo, none⟩) (r + 1) (r + 1 + oc))) := Lib.hid fun wx hb => by
        rw [hb.cell (p := ⟨rb, ro + k, none⟩) rb2]; exact x3
      clear i3 b3 narr nb1 nb2 x1 x3
      go_wp2_with fail
      obtain ⟨wo, rfl⟩ : ∃ x : World, x = wr := ⟨_, rfl⟩
      obtain ⟨g2, rfl⟩ : ∃ x : Nat, x = gk := ⟨_, rfl⟩
      go_loopg [11] (r + 1) (fun gk i wr => ∃ q : Nat, s ≤ q ∧ gk + q = r + 1 + s ∧ i = .int .i64 q ∧ RowO wo nb no (mix (bestG S G k) (bestG S G (k + 1)) (r + 1) q) wr)
      case atStart => exact ⟨s, Nat.le_refl _, rfl, rfl, N0.out.to HS2.out.symm⟩
      case round =>
        clear N0
        obtain ⟨q, hsq, hgq, rfl, hin⟩ := hrel
        have HI := Lib.hid hin
        have HGQ := Lib.hid hgq
        clear hin hgq
        by_cases hqr : q ≤ r
        · obtain ⟨p, hp⟩ : ∃ p : Nat, q = s + p := ⟨q - s, by omega⟩
          have hf := HI.out.arr.free
          have e1 := HI.out.arr.cells q (by rw [mix_len]; omega)
          rw [mix_new (by omega) (Nat.le_refl _)] at e1
          have e2 : wr.cell? ⟨ob, oo + p, none⟩ = some (.int .i64 (bestG S G k p)) := by
            rw [HI.out.below.cell (p := ⟨ob, oo + p, none⟩) ob4, OA.out.cells p (by rw [allF_len]; omega), allF_at (by omega)]
          have x2 := X2.out wr HI.out.below
          have x3 := X3.out wr HI.out.below
          have fa := BI.out k (by omega) q
          have fb := BI.out k (by omega) p
          have hN : (mix (bestG S G k) (bestG S G (k + 1)) (r + 1) q).set q (max (bestG S G k q) (bestG S G k p + y)) = mix (bestG S G k) (bestG S G (k + 1)) (r + 1) (q + 1) := by
            rw [← mix_up, best_yes HS.out hsq, show q - s = p by omega, ← HY.out]
          have HN1 : Hid (bestG S G k q ≤ bestG S G k p + y → (mix (bestG S G k) (bestG S G (k + 1)) (r + 1) q).set q (bestG S G k p + y) = mix (bestG S G k) (bestG S G (k + 1)) (r + 1) (q + 1)) := Lib.hid fun h => by rw [← hN, Int.max_eq_right h]
          have HN2 : Hid (bestG S G k p + y ≤ bestG S G k q → (mix (bestG S G k) (bestG S G (k + 1)) (r + 1) q).set q (bestG S G k q) = mix (bestG S G k) (bestG S G (k + 1)) (r + 1) (q + 1)) := Lib.hid fun h => by rw [← hN, Int.max_eq_left h]
          clear hN
          have HLEN : Hid (q < (mix (bestG S G k) (bestG S G (k + 1)) (r + 1) q).length) := Lib.hid (by rw [mix_len]; omega)
          generalize bestG S G k q = a at e1 fa HN1 HN2
          generalize bestG S G k p = c at e2 fb HN1 HN2
          obtain ⟨a1, a2⟩ := fa
          obtain ⟨c1, c2⟩ := fb
          have a3 : a ≤ 16000 := by omega
          have c3 : c ≤ 16000 := by omega
          have hz3 : decide ((q : Int) ≤ (r : Int)) = true := by simp; omega
          have wa : IntKind.i64.wrap ((q : Int) - (s : Int)) = (p : Int) := by rw [show (q : Int) - (s : Int) = (p : Int) by omega]; exact IntWalk.i64_in _ (by omega)
          have wb : IntKind.i64.wrap (c + y) = c + y := IntWalk.i64_in _ (by omega)
          have lp : (p : Int) < ((r + 1 : Nat) : Int) := by omega
          have lq : (q : Int) < ((r + 1 : Nat) : Int) := by omega
          have lp2 : (p : Int) < (r : Int) + 1 := by omega
          have lq2 : (q : Int) < (r : Int) + 1 := by omega
          have hfz1 := hf (no + q)
          have HQR := Lib.hid hqr
          clear hp hf a2 c2
          go_wp2_with fail
          refine wp_region_still_tail 22 (by kernel_rfl) (by kernel_rfl) ?_
          simp only [List.take_succ_cons, List.take_zero, List.drop_succ_cons, List.drop_zero]
          repeat still_step
          all_goals
            refine wpStill_nil ?_
            change wpList _ _ _ _ _ wr.drew
            go_wp2_with fail
          all_goals
            go_roundg (gk - 1)
            case measure => have := HGQ.out; omega
            case rel => exact ⟨q + 1, by omega, by have := HGQ.out; omega, by go_num, by first | exact ((HI.out.drew _).set HLEN.out _).to (HN1.out (by omega)) | exact ((HI.out.drew _).set HLEN.out _).to (HN2.out (by omega))⟩
        · have HE := Lib.hid (show mix (bestG S G k) (bestG S G (k + 1)) (r + 1) q = allF (bestG S G (k + 1)) (r + 1) from mix_end (by omega))
          have hz3 : decide ((q : Int) ≤ (r : Int)) = false := by simp; omega
          have BW := Lib.hid (HA.out.below.trans (HI.out.below.mono HA.out.below.size))
          have HA2 := Lib.hid (HA.out.lls.below HI.out.below)
          have NEW : Hid (II nb (nb + 1) wr (.slice (some ⟨nb, no, none⟩) (r + 1) (r + 1 + nc)) (allF (bestG S G (k + 1)) (r + 1))) := Lib.hid (by
            have h := (HI.out.to HE.out).arr.ii1 (cap := nc) (by rw [allF_len]; omega) HI.out.lt
            rw [allF_len] at h
            exact h)
          have HNE : Hid ((Value.slice (some ⟨rb, ro, none⟩) (k + 1) (k + 1 + rc)).ownBlock ≠ some nb) := Lib.hid (fun e => by
            simp only [Value.ownBlock, Option.some.injEq] at e
            have := HI.out.ge
            omega)
          have HLO := Lib.hid (Nat.le_trans HA.out.below.size HI.out.ge)
          clear rb1 rb2 ob4 hsq
          go_wp2_with (at_builtin; refine wpList_append_own_at _ rfl _ _ 44 rfl w.heap.size 22 j0 (.slice none 0 0) 1 24 Try.underlying44 ji jz0 jz1 jz2 rfl (by decide) _ _ _ rfl (Grows.alloc HA2.out.grows _) ⟨wr.heap.size, 0, none⟩ 1 1 [.slice (some ⟨nb, no, none⟩) (r + 1) (r + 1 + nc)] rfl rfl ?c1 ?c2 ?c3 ?c4 ?c5 ?_)
          case c1 => exact one_new
          case c2 => intro u hu; simp at hu; subst hu; rfl
          case c3 => rw [HA2.out.len]; unfold maxLen; omega
          case c4 => rw [HA2.out.len]; omega
          case c5 => have := BW.out.size; simp; omega
          intro v' w' hown hgrow _ hat
          have HN : Hid (GrAt S G r w (k + 1) v' (vs ++ [.slice (some ⟨nb, no, none⟩) (r + 1) (r + 1 + nc)]) w') := Lib.hid ⟨(BW.out.alloc BW.out.size _).grown hgrow (by have := BW.out.size; simp; omega) (fun g hg => HA2.out.grows.block g hg), HA2.out.push NEW.out HLO.out HNE.out (by simpa using hown) hgrow (by simpa using hat)⟩
          clear hown hgrow hat
          go_wp2_with fail
          go_roundg (g2 - 1)
          case measure => omega
          case rel => exact ⟨k + 1, by omega, by omega, by go_num, _, HN.out⟩
    · obtain rfl : k = S.length := by omega
      clear hat
      go_wp2_with fail
      refine bodyPost_ret (results_tmp rfl _ _ _) rfl ?_
      exact ⟨_, _, rfl, HA.out⟩
set_option maxHeartbeats 1000000 in
theorem implBestGains_any (v : Value) (S : List Int) (u : Value) (G : List Int) (r : Int) (w : World) (hv : IL w v S) (hu : IL w u G) (o : OKI S) (o2 : OKI G) (_ : -9223372036854775808 ≤ r ∧ r ≤ 9223372036854775807) :
    Calls Try.prog 21 #[v, u, .int .i64 r] w (SaysJB (gainL S G r) (canB S G r) w) := by
  have hn := o.size
  have hm := o2.size
  have HV := Lib.hid hv
  have HU := Lib.hid hu
  obtain ⟨ao, cap, rfl⟩ := hv.long
  obtain ⟨ao2, cap2, rfl⟩ := hu.long
  clear hv hu
  unfold gainL
  cases h1 : canB S G r with
  | false =>
    have H1 := Lib.hid h1
    clear h1
    go_enter Try.func21, Try.ntmps21
    go_wp2_with fail
    go_at_call 44; refine (areThings_is false _ _ S G r _ HV.out HU.out hn hm H1.out).mono ?_; rintro e w' ⟨rfl, m, rfl⟩
    have HB := Lib.hid (below_drewN (Below.refl w.heap.size w) m)
    go_wp2_with fail
    refine bodyPost_ret (results_tmp2 rfl _ _ _) rfl ?_
    exact ⟨_, rfl, SI.nil _ (Nat.le_refl _) _ _, HB.out⟩
  | true =>
    have H1 := Lib.hid h1
    have OK := Lib.hid (canB_ok h1)
    clear h1
    obtain ⟨q, rfl⟩ : ∃ q : Nat, r = (q : Int) := nat_of OK.out.r0
    go_enter Try.func21, Try.ntmps21
    go_wp2_with fail
    go_at_call 44; refine (areThings_is true _ _ S G q _ HV.out HU.out hn hm H1.out).mono ?_; rintro e w' ⟨rfl, m, rfl⟩
    go_wp2_with fail
    go_at_call 45; refine (gainRows_any _ _ S G q _ (VL.drewN HV.out _) (VL.drewN HU.out _) OK.out).mono ?_; rintro e w2 ⟨v2, vs, rfl, g⟩
    have I := Lib.hid g
    obtain ⟨rb, ro, rc, rfl, -, -, rcell⟩ := g.lls.cell (Nat.succ_pos _)
    have x3 := rcell S.length (by omega)
    have hlt : (S.length : Int) < ((S.length + 1 : Nat) : Int) := by omega
    have hlt2 : (S.length : Int) < (S.length : Int) + 1 := by omega
    obtain ⟨z, hz⟩ : ∃ z, z = vs.getD S.length undef := ⟨_, rfl⟩
    rw [← hz] at x3
    have HZ := Lib.hid hz
    clear g rcell hz
    go_wp2_with fail
    refine bodyPost_ret (results_tmp2 rfl _ _ _) rfl ?_
    obtain ⟨b, h1, h2, -⟩ := I.out.lls.rows S.length (by omega)
    rw [← HZ.out] at h1
    exact ⟨_, rfl, SI.wide h1 h2 h1.1 (Nat.le_refl _), (below_drewN (Below.refl w.heap.size w) m).trans I.out.below⟩
end Go.Proofs.Ytolbkepbcoipcaa
