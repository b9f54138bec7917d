/- Ways to fill a room: both sides. -/
import Derived.Test.YtolbkepbcoipcaaSizes
import Derived.Test.YtolbkepbcoipcaaMix
import Derived.Test.YtolbkepbcoipcaaRowA
import Derived.Deep.LoopGhost
import Derived.BigRegion
import Derived.Deep.RegionWith
namespace Go.Proofs.Ytolbkepbcoipcaa
open Go.RowKit Go.ChangeShapes Go.WideShapes

theorem isRoom_is (t : Bool) (r : Int) (w : World) (h : inB r 0 1000 = t) :
    Calls Try.prog 41 #[.int .i64 r] w (Tells t w) := by
  have H := Lib.hid (show (decide (0 ≤ r) && decide (r ≤ 1000)) = t from h)
  clear h
  go_enter Try.func41, Try.ntmps41
  go_wp2_with fail
  go_at_call 38; refine (isFrom_is t r 0 1000 _ H.out).mono ?_; rintro e w' ⟨rfl, m, rfl⟩
  go_wp2_with fail
  go_ret
  exact tells _ rfl
/-- What the inner loop holds: r is the next place. -/
theorem fill_step {S : List Int} {i r s n : Nat} (hs : S.getD i 0 = (s : Int)) (h : s ≤ r) :
    (mix (fillW S (i + 1)) (fillW S i) n (r + 1)).set r (fillW S i r + fillW S i (r - s)) = mix (fillW S (i + 1)) (fillW S i) n r := by
  rw [← fill_yes hs h]; exact mix_set
theorem fill_done {S : List Int} {i r s n : Nat} (hs : S.getD i 0 = (s : Int)) (h : r ≤ s) : mix (fillW S (i + 1)) (fillW S i) n r = allF (fillW S (i + 1)) n :=
  mix_done fun x hx => fill_no hs (by omega)
set_option maxRecDepth 100000 in
set_option maxHeartbeats 8000000 in
theorem implFill_yes (v : Value) (S : List Int) (r : Nat) (w : World) (hv : IL w v S) (hn : S.length ≤ 1048576) (h1 : sizesB S = true) (h2 : inB (r : Int) 0 1000 = true) :
    Calls Try.prog 19 #[v, .int .i64 r] w (SaysIB (fillW S S.length r) true w) := by
  obtain ⟨i0, hi, hz0, hz1, hz2⟩ := info_parts Try.infoI
  have H1 := Lib.hid h1
  have H2 := Lib.hid h2
  have OK := Lib.hid (sizesB_ok h1)
  have HV := Lib.hid hv
  have r1 := (inB_ok h2).2
  have l1 := OK.out.l1
  have l2 := OK.out.l2
  rcases hv with ⟨rfl, ao, cap, rfl⟩ | ⟨b, off, cap, rfl, hpos, hbl, hcell⟩
  · simp at l1
  have HC := Lib.hid hcell
  clear h1 h2 hcell
  go_enter Try.func19, Try.ntmps19
  go_wp2_with fail
  go_at_call 14; refine (implSizes_is true _ S _ HV.out hn H1.out).mono ?_; rintro e w' ⟨rfl, m, rfl⟩
  go_wp2_with fail
  go_at_call 41; refine (isRoom_is true r _ H2.out).mono ?_; rintro e w' ⟨rfl, m2, rfl⟩
  have B0 := Lib.hid (below_drewN (Below.refl w.heap.size w) (m + m2))
  go_wp2_with (at_make; refine wpList_make_full _ rfl _ _ 22 rfl w.heap.size 2 i0 (.int .i64 0) 1 Try.underlying22 hi hz0 hz1 _ _ _ _ (r + 1) rfl rfl rfl rfl (by rw [hz2]; omega) (by unfold maxLen; omega) (by simp) ?_; intro w2 hown hgrow; have bm := B0.out.grown hgrow (Nat.le_refl _) (fun g hg => by cases hg); have hA := Lib.hid (show RowAt w w.heap.size (List.replicate (r + 1) 0) w2 from ⟨bm, (hown.lt _ rfl).2, Nat.le_refl _, Arr.made_i hown⟩); clear hown hgrow bm; have y1 := hA.out.cell (i := 0) (by simp); have hfz := hA.out.arr.free 0)
  go_loopg [25] S.length (fun gk i wr => ∃ k : Nat, k ≤ S.length ∧ gk + k = S.length ∧ i = .int .i64 k ∧ RowAt w w.heap.size (allF (fillW S k) (r + 1)) wr)
  case atStart => exact ⟨0, Nat.zero_le _, by omega, rfl, (hA.out.set (by simp) _).to (fill0 S r)⟩
  case round =>
    clear hA
    obtain ⟨k, hk, hgk, rfl, hat⟩ := hrel
    have HA := Lib.hid hat
    clear hat
    by_cases hlt : k < S.length
    · obtain ⟨s, hs⟩ := nat_of (show 0 ≤ S.getD k 0 from by have := (OK.out.a k hlt).1; omega)
      have s1 : 1 ≤ s := by have := (OK.out.a k hlt).1; omega
      have s2 : s ≤ 1000 := by have := (OK.out.a k hlt).2; omega
      have x1 : wr.cell? ⟨b, off + k, none⟩ = some (.int .i64 (s : Int)) := by rw [HA.out.below.cell (p := ⟨b, off + k, none⟩) hbl, ← hs]; exact HC.out k hlt
      have HS := Lib.hid hs
      clear hs
      go_wp2_with fail
      obtain ⟨wo, rfl⟩ : ∃ x : World, x = wr := ⟨_, rfl⟩
      obtain ⟨g2, rfl⟩ : ∃ x : Nat, x = gk := ⟨_, rfl⟩
      clear x1
      go_loopg [9] (r + 1) (fun gk i wr => ∃ q : Nat, q ≤ r ∧ gk = q + 1 ∧ i = .int .i64 q ∧ RowAt w w.heap.size (mix (fillW S (k + 1)) (fillW S k) (r + 1) (q + 1)) wr)
      case atStart => exact ⟨r, Nat.le_refl _, rfl, rfl, HA.out.to (mix_start _ _ _).symm⟩
      case round =>
        obtain ⟨q, hq, rfl, rfl, hin⟩ := hrel
        have HI := Lib.hid hin
        clear hin
        by_cases hqs : s ≤ q
        · obtain ⟨p, hp⟩ : ∃ p : Nat, q = s + p := ⟨q - s, by omega⟩
          have hf := HI.out.arr.free
          have e1 := HI.out.cell (i := q) (by rw [mix_len]; omega)
          have e2 := HI.out.cell (i := p) (by rw [mix_len]; omega)
          rw [mix_old (by omega) (by omega)] at e1
          rw [mix_old (by omega) (by omega)] at e2
          have fa := fillW_in (S := S) k q
          have fb := fillW_in (S := S) k p
          have f2 := two_le (i := k) (by omega)
          have HN : Hid ((mix (fillW S (k + 1)) (fillW S k) (r + 1) (q + 1)).set q (fillW S k q + fillW S k p) = mix (fillW S (k + 1)) (fillW S k) (r + 1) q) := Lib.hid (by have := fill_step (S := S) (i := k) (r := q) (n := r + 1) HS.out hqs; rw [show q - s = p by omega] at this; exact this)
          have HLEN : Hid (q < (mix (fillW S (k + 1)) (fillW S k) (r + 1) (q + 1)).length) := Lib.hid (by rw [mix_len]; omega)
          generalize fillW S k q = a at e1 fa HN
          generalize fillW S k p = c at e2 fb HN
          obtain ⟨a1, a2⟩ := fa
          obtain ⟨c1, c2⟩ := fb
          have a3 : a ≤ 65536 := by omega
          have c3 : c ≤ 65536 := by omega
          have hz3 : decide ((s : Int) ≤ (q : Int)) = true := by simp; omega
          have wa : IntKind.i64.wrap ((q : Int) - (s : Int)) = (p : Int) := by rw [show (q : Int) - (s : Int) = (p : Int) by omega]; exact IntWalk.i64_in _ (by omega)
          have wb : IntKind.i64.wrap (a + c) = a + c := IntWalk.i64_in _ (by omega)
          have lp : (p : Int) < ((r + 1 : Nat) : Int) := by omega
          have lq : (q : Int) < ((r + 1 : Nat) : Int) := by omega
          have hfz1 := hf q
          clear hp hf a2 c2 f2
          go_wp2_with fail
          go_region_with (fail)
          all_goals
            go_wp2_with fail
            go_roundg q
            case measure => omega
            case rel => exact ⟨q - 1, by omega, by omega, by rw [show (q : Int) - 1 = ((q - 1 : Nat) : Int) by omega], by rw [Nat.sub_add_cancel (by omega)]; exact ((HI.out.drew _).set HLEN.out _).to HN.out⟩
        · have HD := Lib.hid (fill_done (S := S) (i := k) (r := q + 1) (n := r + 1) HS.out (by omega))
          have hz3 : decide ((s : Int) ≤ (q : Int)) = false := by simp; omega
          go_wp2_with fail
          go_roundg (g2 - 1)
          case measure => omega
          case rel => exact ⟨k + 1, by omega, by omega, by go_num, HI.out.to HD.out⟩
    · obtain rfl : k = S.length := by omega
      have e1 := HA.out.cell (i := r) (by rw [allF_len]; omega)
      rw [allF_at (by omega)] at e1
      have g1 : (r : Int) < ((r + 1 : Nat) : Int) := by omega
      obtain ⟨z, hz⟩ : ∃ z, z = fillW S S.length r := ⟨_, rfl⟩
      rw [← hz] at e1
      have HZ := Lib.hid hz
      clear hz
      go_wp2_with fail
      go_ret2
      exact saysIB HZ.out HA.out.below
theorem implWaysToFill_any (v : Value) (S : List Int) (r : Int) (w : World) (hv : IL w v S) (o : OKI S) (_ : -9223372036854775808 ≤ r ∧ r ≤ 9223372036854775807) :
    Calls Try.prog 19 #[v, .int .i64 r] w (SaysIB (fillI S r) (fillB S r) w) := by
  have hn := o.size
  unfold fillI fillB
  cases h1 : sizesB S with
  | false =>
    have H1 := Lib.hid h1
    have HV := Lib.hid hv
    obtain ⟨ao, cap, rfl⟩ := hv.long
    clear h1 hv
    go_enter Try.func19, Try.ntmps19
    go_wp2_with fail
    go_at_call 14; refine (implSizes_is false _ S _ HV.out hn H1.out).mono ?_; rintro e w' ⟨rfl, m, rfl⟩
    have HB := Lib.hid (below_drewN (Below.refl w.heap.size w) m)
    go_wp2_with fail
    go_ret2
    exact saysIB rfl HB.out
  | true =>
    cases h2 : inB r 0 1000 with
    | false =>
      have H1 := Lib.hid h1
      have H2 := Lib.hid h2
      have HV := Lib.hid hv
      obtain ⟨ao, cap, rfl⟩ := hv.long
      clear h1 h2 hv
      go_enter Try.func19, Try.ntmps19
      go_wp2_with fail
      go_at_call 14; refine (implSizes_is true _ S _ HV.out hn H1.out).mono ?_; rintro e w' ⟨rfl, m, rfl⟩
      go_wp2_with fail
      go_at_call 41; refine (isRoom_is false r _ H2.out).mono ?_; rintro e w' ⟨rfl, m2, rfl⟩
      have HB := Lib.hid (below_drewN (Below.refl w.heap.size w) (m + m2))
      go_wp2_with fail
      go_ret2
      exact saysIB rfl HB.out
    | true =>
      obtain ⟨q, rfl⟩ : ∃ q : Nat, r = (q : Int) := nat_of (inB_ok h2).1
      exact implFill_yes v S q w hv hn h1 h2
set_option maxRecDepth 100000 in
set_option maxHeartbeats 8000000 in
theorem specFill_yes (v : Value) (S : List Int) (r : Nat) (w : World) (hv : IL w v S) (hn : S.length ≤ 1048576) (h1 : sizesB S = true) (h2 : inB (r : Int) 0 1000 = true) :
    Calls Try.prog 18 #[v, .int .i64 r] w (SaysIB (fillW S S.length r) true w) := by
  obtain ⟨i0, hi, hz0, hz1, hz2⟩ := info_parts Try.infoI
  have H1 := Lib.hid h1
  have H2 := Lib.hid h2
  have OK := Lib.hid (sizesB_ok h1)
  have HV := Lib.hid hv
  have r1 := (inB_ok h2).2
  have l1 := OK.out.l1
  have l2 := OK.out.l2
  rcases hv with ⟨rfl, ao, cap, rfl⟩ | ⟨b, off, cap, rfl, hpos, hbl, hcell⟩
  · simp at l1
  have HC := Lib.hid hcell
  clear h1 h2 hcell
  go_enter Try.func18, Try.ntmps18
  go_wp2_with fail
  go_at_call 34; refine (l04Sizes_is true _ S _ HV.out hn H1.out).mono ?_; rintro e w' ⟨rfl, m, rfl⟩
  go_wp2_with fail
  go_at_call 40; refine (l00In_is true r 0 1000 _ H2.out).mono ?_; rintro e w' ⟨rfl, m2, rfl⟩
  have B0 := Lib.hid (below_drewN (Below.refl w.heap.size w) (m + m2))
  go_wp2_with (at_make; refine wpList_make_full _ rfl _ _ 22 rfl w.heap.size 2 i0 (.int .i64 0) 1 Try.underlying22 hi hz0 hz1 _ _ _ _ (r + 1) rfl rfl rfl rfl (by rw [hz2]; omega) (by unfold maxLen; omega) (by simp) ?_; intro w2 hown hgrow; have bm := B0.out.grown hgrow (Nat.le_refl _) (fun g hg => by cases hg); have hA := Lib.hid (show RowAt w w.heap.size (List.replicate (r + 1) 0) w2 from ⟨bm, (hown.lt _ rfl).2, Nat.le_refl _, Arr.made_i hown⟩); clear hown hgrow bm; have y1 := hA.out.cell (i := 0) (by simp); have hfz := hA.out.arr.free 0)
  go_loopg [7] S.length (fun gk i wr => ∃ k : Nat, k ≤ S.length ∧ gk + k = S.length ∧ i = .int .i64 k ∧ RowAt w w.heap.size (allF (fillW S k) (r + 1)) wr)
  case atStart => exact ⟨0, Nat.zero_le _, by omega, rfl, (hA.out.set (by simp) _).to (fill0 S r)⟩
  case round =>
    clear hA
    obtain ⟨k, hk, hgk, rfl, hat⟩ := hrel
    have HA := Lib.hid hat
    clear hat
    by_cases hlt : k < S.length
    · obtain ⟨s, hs⟩ := nat_of (show 0 ≤ S.getD k 0 from by have := (OK.out.a k hlt).1; omega)
      have s1 : 1 ≤ s := by have := (OK.out.a k hlt).1; omega
      have s2 : s ≤ 1000 := by have := (OK.out.a k hlt).2; omega
      have x1 : wr.cell? ⟨b, off + k, none⟩ = some (.int .i64 (s : Int)) := by rw [HA.out.below.cell (p := ⟨b, off + k, none⟩) hbl, ← hs]; exact HC.out k hlt
      have HS := Lib.hid hs
      clear hs
      go_wp2_with fail
      obtain ⟨wo, rfl⟩ : ∃ x : World, x = wr := ⟨_, rfl⟩
      obtain ⟨g2, rfl⟩ : ∃ x : Nat, x = gk := ⟨_, rfl⟩
      clear x1
      go_loopg [8] (r + 1) (fun gk i wr => ∃ q : Nat, q ≤ r ∧ gk = q + 1 ∧ i = .int .i64 q ∧ RowAt w w.heap.size (mix (fillW S (k + 1)) (fillW S k) (r + 1) (q + 1)) wr)
      case atStart => exact ⟨r, Nat.le_refl _, rfl, rfl, HA.out.to (mix_start _ _ _).symm⟩
      case round =>
        obtain ⟨q, hq, rfl, rfl, hin⟩ := hrel
        have HI := Lib.hid hin
        have x1 : wr.cell? ⟨b, off + k, none⟩ = some (.int .i64 (s : Int)) := by rw [hin.below.cell (p := ⟨b, off + k, none⟩) hbl, ← HS.out]; exact HC.out k hlt
        clear hin
        by_cases hqs : s ≤ q
        · obtain ⟨p, hp⟩ : ∃ p : Nat, q = s + p := ⟨q - s, by omega⟩
          have hf := HI.out.arr.free
          have e1 := HI.out.cell (i := q) (by rw [mix_len]; omega)
          have e2 := HI.out.cell (i := p) (by rw [mix_len]; omega)
          rw [mix_old (by omega) (by omega)] at e1
          rw [mix_old (by omega) (by omega)] at e2
          have fa := fillW_in (S := S) k q
          have fb := fillW_in (S := S) k p
          have f2 := two_le (i := k) (by omega)
          have HN : Hid ((mix (fillW S (k + 1)) (fillW S k) (r + 1) (q + 1)).set q (fillW S k q + fillW S k p) = mix (fillW S (k + 1)) (fillW S k) (r + 1) q) := Lib.hid (by have := fill_step (S := S) (i := k) (r := q) (n := r + 1) HS.out hqs; rw [show q - s = p by omega] at this; exact this)
          have HLEN : Hid (q < (mix (fillW S (k + 1)) (fillW S k) (r + 1) (q + 1)).length) := Lib.hid (by rw [mix_len]; omega)
          generalize fillW S k q = a at e1 fa HN
          generalize fillW S k p = c at e2 fb HN
          obtain ⟨a1, a2⟩ := fa
          obtain ⟨c1, c2⟩ := fb
          have a3 : a ≤ 65536 := by omega
          have c3 : c ≤ 65536 := by omega
          have hz3 : decide ((s : Int) ≤ (q : Int)) = true := by simp; omega
          have wa : IntKind.i64.wrap ((q : Int) - (s : Int)) = (p : Int) := by rw [show (q : Int) - (s : Int) = (p : Int) by omega]; exact IntWalk.i64_in _ (by omega)
          have wb : IntKind.i64.wrap (a + c) = a + c := IntWalk.i64_in _ (by omega)
          have lp : (p : Int) < ((r + 1 : Nat) : Int) := by omega
          have lq : (q : Int) < ((r + 1 : Nat) : Int) := by omega
          have hfz1 := hf q
          clear hp hf a2 c2 f2
          go_wp2_with fail
          go_region_with (fail)
          all_goals
            go_wp2_with fail
            go_roundg q
            case measure => omega
            case rel => exact ⟨q - 1, by omega, by omega, by rw [show (q : Int) - 1 = ((q - 1 : Nat) : Int) by omega], by rw [Nat.sub_add_cancel (by omega)]; exact ((HI.out.drew _).set HLEN.out _).to HN.out⟩
        · have HD := Lib.hid (fill_done (S := S) (i := k) (r := q + 1) (n := r + 1) HS.out (by omega))
          have hz3 : decide ((s : Int) ≤ (q : Int)) = false := by simp; omega
          go_wp2_with fail
          go_roundg (g2 - 1)
          case measure => omega
          case rel => exact ⟨k + 1, by omega, by omega, by go_num, HI.out.to HD.out⟩
    · obtain rfl : k = S.length := by omega
      have e1 := HA.out.cell (i := r) (by rw [allF_len]; omega)
      rw [allF_at (by omega)] at e1
      have g1 : (r : Int) < ((r + 1 : Nat) : Int) := by omega
      obtain ⟨z, hz⟩ : ∃ z, z = fillW S S.length r := ⟨_, rfl⟩
      rw [← hz] at e1
      have HZ := Lib.hid hz
      clear hz
      go_wp2_with fail
      go_ret2
      exact saysIB HZ.out HA.out.below
theorem specWaysToFill_any (v : Value) (S : List Int) (r : Int) (w : World) (hv : IL w v S) (o : OKI S) (_ : -9223372036854775808 ≤ r ∧ r ≤ 9223372036854775807) :
    Calls Try.prog 18 #[v, .int .i64 r] w (SaysIB (fillI S r) (fillB S r) w) := by
  have hn := o.size
  unfold fillI fillB
  cases h1 : sizesB S with
  | false =>
    have H1 := Lib.hid h1
    have HV := Lib.hid hv
    obtain ⟨ao, cap, rfl⟩ := hv.long
    clear h1 hv
    go_enter Try.func18, Try.ntmps18
    go_wp2_with fail
    go_at_call 34; refine (l04Sizes_is false _ S _ HV.out hn H1.out).mono ?_; rintro e w' ⟨rfl, m, rfl⟩
    have HB := Lib.hid (below_drewN (Below.refl w.heap.size w) m)
    go_wp2_with fail
    go_ret2
    exact saysIB rfl HB.out
  | true =>
    cases h2 : inB r 0 1000 with
    | false =>
      have H1 := Lib.hid h1
      have H2 := Lib.hid h2
      have HV := Lib.hid hv
      obtain ⟨ao, cap, rfl⟩ := hv.long
      clear h1 h2 hv
      go_enter Try.func18, Try.ntmps18
      go_wp2_with fail
      go_at_call 34; refine (l04Sizes_is true _ S _ HV.out hn H1.out).mono ?_; rintro e w' ⟨rfl, m, rfl⟩
      go_wp2_with fail
      go_at_call 40; refine (l00In_is false r 0 1000 _ H2.out).mono ?_; rintro e w' ⟨rfl, m2, rfl⟩
      have HB := Lib.hid (below_drewN (Below.refl w.heap.size w) (m + m2))
      go_wp2_with fail
      go_ret2
      exact saysIB rfl HB.out
    | true =>
      obtain ⟨q, rfl⟩ : ∃ q : Nat, r = (q : Int) := nat_of (inB_ok h2).1
      exact specFill_yes v S q w hv hn h1 h2
end Go.Proofs.Ytolbkepbcoipcaa
