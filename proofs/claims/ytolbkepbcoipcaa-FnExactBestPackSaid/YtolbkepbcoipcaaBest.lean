/- The best gains by the model. -/
import Derived.Test.YtolbkepbcoipcaaCan
import Derived.StillTailTactics
namespace Go.Proofs.Ytolbkepbcoipcaa
open Go.RowKit Go.ChangeShapes Go.WideShapes

theorem best_step {S G : List Int} {i r s n : Nat} (hs : S.getD i 0 = (s : Int)) (h : s ≤ r) :
    (mix (bestG S G (i + 1)) (bestG S G i) n (r + 1)).set r (max (bestG S G i r) (bestG S G i (r - s) + G.getD i 0)) = mix (bestG S G (i + 1)) (bestG S G i) n r := by
  rw [← best_yes hs h]; exact mix_set
theorem best_done {S G : List Int} {i r s n : Nat} (hs : S.getD i 0 = (s : Int)) (h : r ≤ s) : mix (bestG S G (i + 1)) (bestG S G i) n r = allF (bestG S G (i + 1)) n :=
  mix_done fun x hx => best_no hs (by omega)
theorem best0 (S G : List Int) (n : Nat) : List.replicate n (0 : Int) = allF (bestG S G 0) n := rep_allF fun _ _ => rfl
/-- A call that hands back a list of numbers of its own. -/
abbrev MadeI (Z : List Int) (w : World) (e : Ending) (w' : World) : Prop := Made (Value.int .i64) (0 : Int) Z w e w'
set_option maxRecDepth 100000 in
set_option maxHeartbeats 8000000 in
theorem l04Gains_any (v u : Value) (S G : List Int) (n r : Nat) (w : World) (hv : IL w v S) (hu : IL w u G) (OK : CanOk S G (r : Int)) (hn : n ≤ S.length) :
    Calls Try.prog 43 #[v, u, .int .i64 n, .int .i64 r] w (MadeI (allF (bestG S G n) (r + 1)) w) := by
  obtain ⟨i0, hi, hz0, hz1, hz2⟩ := info_parts Try.infoI
  have OKH := Lib.hid OK
  have r1 := OK.r1
  have l1 := OK.s.l1
  have l2 := OK.s.l2
  have hgl := OK.l
  have BI := Lib.hid (bestG_in (S := S) (G := G) (fun i hi => OK.g i (by omega)))
  rcases hv with ⟨rfl, ao, cap, rfl⟩ | ⟨b, off, cap, rfl, hpos, hbl, hcell⟩
  · simp at l1
  rcases hu with ⟨rfl, ao, cap, rfl⟩ | ⟨b2, off2, cap2, rfl, hpos2, hbl2, hcell2⟩
  · simp at hgl; omega
  have HC := Lib.hid hcell
  have HD := Lib.hid hcell2
  have HGL := Lib.hid hgl
  clear hcell hcell2 OK hgl
  go_enter Try.func43, Try.ntmps43
  go_wp2_with (at_make; refine wpList_make_full _ rfl _ _ 22 rfl w.heap.size 2 i0 (.int .i64 0) 1 Try.underlying22 hi hz0 hz1 _ _ _ _ (r + 1) rfl rfl rfl rfl (by rw [hz2]; omega) (by unfold maxLen; omega) (Nat.le_refl _) ?_; intro w2 hown hgrow; have bm := (Below.refl w.heap.size w).grown hgrow (Nat.le_refl _) (fun g hg => by cases hg); have hA := Lib.hid (show RowAt w w.heap.size (List.replicate (r + 1) 0) w2 from ⟨bm, (hown.lt _ rfl).2, Nat.le_refl _, Arr.made_i hown⟩); clear hown hgrow bm)
  go_loopg [10] n (fun gk i wr => ∃ k : Nat, k ≤ n ∧ gk + k = n ∧ i = .int .i64 k ∧ RowAt w w.heap.size (allF (bestG S G k) (r + 1)) wr)
  case atStart => exact ⟨0, Nat.zero_le _, by omega, rfl, hA.out.to (best0 S G _)⟩
  case round =>
    clear hA
    obtain ⟨k, hk, hgk, rfl, hat⟩ := hrel
    have HA := Lib.hid hat
    clear hat
    by_cases hlt : k < n
    · have hkS : k < S.length := by omega
      have hkG : k < G.length := by rw [HGL.out]; omega
      obtain ⟨s, hs⟩ := nat_of (show 0 ≤ S.getD k 0 from by have := (OKH.out.s.a k hkS).1; omega)
      have s1 : 1 ≤ s := by have := (OKH.out.s.a k hkS).1; omega
      have s2 : s ≤ 1000 := by have := (OKH.out.s.a k hkS).2; omega
      obtain ⟨y, hy⟩ : ∃ y, y = G.getD k 0 := ⟨_, rfl⟩
      have y1 : 0 ≤ y := by rw [hy]; exact (OKH.out.g k hkG).1
      have y2 : y ≤ 1000 := by rw [hy]; exact (OKH.out.g k hkG).2
      have HS := Lib.hid hs
      have HY := Lib.hid hy
      clear hs hy
      go_wp2_with fail
      obtain ⟨wo, rfl⟩ : ∃ x : World, x = wr := ⟨_, rfl⟩
      obtain ⟨g2, rfl⟩ : ∃ x : Nat, x = gk := ⟨_, rfl⟩
      go_loopg [11] (r + 1) (fun gk i wr => ∃ q : Nat, q ≤ r ∧ gk = q + 1 ∧ i = .int .i64 q ∧ RowAt w w.heap.size (mix (bestG S G (k + 1)) (bestG S G k) (r + 1) (q + 1)) wr)
      case atStart => exact ⟨r, Nat.le_refl _, rfl, rfl, HA.out.to (mix_start _ _ _).symm⟩
      case round =>
        obtain ⟨q, hq, rfl, rfl, hin⟩ := hrel
        have HI := Lib.hid hin
        have x1 : wr.cell? ⟨b, off + k, none⟩ = some (.int .i64 (s : Int)) := by rw [hin.below.cell (p := ⟨b, off + k, none⟩) hbl, ← HS.out]; exact HC.out k hkS
        have x2 : wr.cell? ⟨b2, off2 + k, none⟩ = some (.int .i64 y) := by rw [hin.below.cell (p := ⟨b2, off2 + k, none⟩) hbl2, HY.out]; exact HD.out k hkG
        clear hin
        by_cases hqs : s ≤ q
        · obtain ⟨p, hp⟩ : ∃ p : Nat, q = s + p := ⟨q - s, by omega⟩
          have hf := HI.out.arr.free
          have e1 := HI.out.cell (i := q) (by rw [mix_len]; omega)
          have e2 := HI.out.cell (i := p) (by rw [mix_len]; omega)
          rw [mix_old (by omega) (by omega)] at e1
          rw [mix_old (by omega) (by omega)] at e2
          have fa := BI.out k (by omega) q
          have fb := BI.out k (by omega) p
          have HN : Hid ((mix (bestG S G (k + 1)) (bestG S G k) (r + 1) (q + 1)).set q (max (bestG S G k q) (bestG S G k p + y)) = mix (bestG S G (k + 1)) (bestG S G k) (r + 1) q) := Lib.hid (by have := best_step (S := S) (G := G) (i := k) (r := q) (n := r + 1) HS.out hqs; rw [show q - s = p by omega, ← HY.out] at this; exact this)
          have HLEN : Hid (q < (mix (bestG S G (k + 1)) (bestG S G k) (r + 1) (q + 1)).length) := Lib.hid (by rw [mix_len]; omega)
          generalize bestG S G k q = a at e1 fa HN
          generalize bestG S G k p = c at e2 fb HN
          obtain ⟨a1, a2⟩ := fa
          obtain ⟨c1, c2⟩ := fb
          have a3 : a ≤ 16000 := by omega
          have c3 : c ≤ 16000 := by omega
          have hz3 : decide ((s : Int) ≤ (q : Int)) = true := by simp; omega
          have wa : IntKind.i64.wrap ((q : Int) - (s : Int)) = (p : Int) := by rw [show (q : Int) - (s : Int) = (p : Int) by omega]; exact IntWalk.i64_in _ (by omega)
          have wb : IntKind.i64.wrap (c + y) = c + y := IntWalk.i64_in _ (by omega)
          have lp : (p : Int) < ((r + 1 : Nat) : Int) := by omega
          have lq : (q : Int) < ((r + 1 : Nat) : Int) := by omega
          have lp2 : (p : Int) < (r : Int) + 1 := by omega
          have lq2 : (q : Int) < (r : Int) + 1 := by omega
          have hfz1 := hf q
          clear hp hf a2 c2
          go_wp2_with fail
          refine wp_region_still_tail 22 (by kernel_rfl) (by kernel_rfl) ?_
          simp only [List.take_succ_cons, List.take_zero, List.drop_succ_cons, List.drop_zero]
          repeat still_step
          still_call ((l00Max_is a (c + y) _).mono fun _ _ ⟨h1, h2⟩ => ⟨h1, h2.symm⟩)
          repeat still_step
          refine wpStill_nil ?_
          change wpList _ _ _ _ _ wr.drew
          all_goals
            go_wp2_with fail
            go_roundg q
            case measure => omega
            case rel => exact ⟨q - 1, by omega, by omega, by rw [show (q : Int) - 1 = ((q - 1 : Nat) : Int) by omega], by rw [Nat.sub_add_cancel (by omega)]; exact ((HI.out.drew _).set HLEN.out _).to HN.out⟩
        · have HDN := Lib.hid (best_done (S := S) (G := G) (i := k) (r := q + 1) (n := r + 1) HS.out (by omega))
          have hz3 : decide ((s : Int) ≤ (q : Int)) = false := by simp; omega
          go_wp2_with fail
          go_roundg (g2 - 1)
          case measure => omega
          case rel => exact ⟨k + 1, by omega, by omega, by go_num, HI.out.to HDN.out⟩
    · obtain rfl : k = n := by omega
      go_wp2_with fail
      refine bodyPost_ret (results_tmp rfl _ _ _) rfl ?_
      refine ⟨_, rfl, ?_, HA.out.below⟩
      have h := HA.out.arr.si HA.out.ge HA.out.lt
      rw [allF_len] at h
      exact h
set_option maxHeartbeats 1000000 in
theorem specBestGains_any (v : Value) (S : List Int) (u : Value) (G : List Int) (r : Int) (w : World) (hv : IL w v S) (hu : IL w u G) (o : OKI S) (o2 : OKI G) (_ : -9223372036854775808 ≤ r ∧ r ≤ 9223372036854775807) :
    Calls Try.prog 20 #[v, u, .int .i64 r] w (SaysJB (gainL S G r) (canB S G r) w) := by
  have hn := o.size
  have hm := o2.size
  have HV := Lib.hid hv
  have HU := Lib.hid hu
  obtain ⟨ao, cap, rfl⟩ := hv.long
  obtain ⟨ao2, cap2, rfl⟩ := hu.long
  clear hv hu
  unfold gainL
  cases h1 : canB S G r with
  | false =>
    have H1 := Lib.hid h1
    clear h1
    go_enter Try.func20, Try.ntmps20
    go_wp2_with fail
    go_at_call 42; refine (l04Can_is false _ _ S G r _ HV.out HU.out hn hm H1.out).mono ?_; rintro e w' ⟨rfl, m, rfl⟩
    have HB := Lib.hid (below_drewN (Below.refl w.heap.size w) m)
    go_wp2_with fail
    refine bodyPost_ret (results_tmp2 rfl _ _ _) rfl ?_
    exact ⟨_, rfl, SI.nil _ (Nat.le_refl _) _ _, HB.out⟩
  | true =>
    have H1 := Lib.hid h1
    have OK := Lib.hid (canB_ok h1)
    clear h1
    obtain ⟨q, rfl⟩ : ∃ q : Nat, r = (q : Int) := nat_of OK.out.r0
    go_enter Try.func20, Try.ntmps20
    go_wp2_with fail
    go_at_call 42; refine (l04Can_is true _ _ S G q _ HV.out HU.out hn hm H1.out).mono ?_; rintro e w' ⟨rfl, m, rfl⟩
    go_wp2_with fail
    go_at_call 43; refine (l04Gains_any _ _ S G S.length q _ (VL.drewN HV.out _) (VL.drewN HU.out _) OK.out (Nat.le_refl _)).mono ?_; rintro e w2 ⟨v2, rfl, i, b⟩
    have I := Lib.hid i
    have B := Lib.hid ((below_drewN (Below.refl w.heap.size w) m).trans b)
    clear i b
    go_wp2_with fail
    refine bodyPost_ret (results_tmp2 rfl _ _ _) rfl ?_
    exact ⟨_, rfl, I.out, B.out⟩
end Go.Proofs.Ytolbkepbcoipcaa
