/- Jobs put on machines, long ones first: both sides. -/
import Derived.Test.YtcnfmphokobgiaaLpM
import Derived.Test.YtcnfmphokobgiaaLpS
import Derived.Test.YtcnfmphokobgiaaLpI
import Derived.Test.YtcnfmphokobgiaaOrdS
import Derived.Test.YtcnfmphokobgiaaDsc
namespace Go.Proofs.Ytcnfmphokobgiaa
open Go.RowKit Go.ChangeShapes Go.WideShapes

/-- The long ones first. -/
def negK (Z : List Ac) (i : Nat) : Int := - (Z.getD i zA).f
def lfT (Z : List Ac) : List Int := intsN (ordN (ltK (negK Z)) Z.length)
theorem lfT_tour (Z : List Ac) : TourOk (lfT Z) Z.length := by
  refine ⟨by unfold lfT; rw [intsN_len, ordN_len], fun i hi => ?_⟩
  have h := ordN_lt (ltK (negK Z)) hi
  have e : (lfT Z).getD i 0 = (((ordN (ltK (negK Z)) Z.length).getD i 0 : Nat) : Int) := intsN_at (by rw [ordN_len]; exact hi)
  unfold tN
  rw [e]
  omega
theorem allF_upL (f : Nat → Int) (n : Nat) : allF f (n + 1) = allF f n ++ [f n] := by unfold allF; rw [List.range_succ, List.map_append]; rfl
theorem ord_allL (f : Nat → Int) (n : Nat) : ordN (ltK fun i => (allF f n).getD i 0) n = ordN (ltK f) n :=
  ordN_congr fun x y hx hy => by show decide ((allF f n).getD x 0 < (allF f n).getD y 0) = decide (f x < f y); rw [allF_at hx, allF_at hy]
theorem lon_read (v : Value) (Z : List Ac) (i : Nat) (w : World) (hv : AV w v Z) (hn : Z.length ≤ 1048576) (hi : i < Z.length) :
    Calls Try.prog 65 #[v, .int .i64 i] w (fun e w' => e = .returned (.int .i64 (Z.getD i zA).f) ∧ w' = w) := by
  rcases hv with ⟨rfl, _⟩ | ⟨b, off, cap, rfl, hpos, hbl, hcell⟩
  · simp at hi
  have c := (hcell i hi).c0
  have hli : (i : Int) < (Z.length : Int) := by omega
  clear hcell
  generalize (Z.getD i zA).f = q at c
  go_enter Try.func65, Try.ntmps65
  go_wp2_with fail
  go_ret
  exact ⟨rfl, rfl⟩
set_option maxHeartbeats 1000000 in
theorem lon_cmp (v : Value) (Z : List Ac) (c : Nat) (x y : Nat) (w : World) (hv : AV w v Z) (hn : Z.length ≤ 1048576) (hx : x < Z.length) (hy : y < Z.length) (hc : w.cell? ⟨c, 0, none⟩ = some (.func (.func 65) #[v] #[])) :
    Calls Try.prog 114 #[.int .i64 x, .int .i64 y, .pointer (some ⟨c, 0, none⟩)] w (fun e w' => e = .returned (.int .i64 (cmpI (Z.getD y zA).f (Z.getD x zA).f)) ∧ ∃ q, w' = w.drewN q) := by
  have HX := Lib.hid fun (n : Nat) => lon_read v Z x (w.drewN n) (hv.dn n) hn hx
  have HY := Lib.hid fun (n : Nat) => lon_read v Z y (w.drewN n) (hv.dn n) hn hy
  generalize (Z.getD x zA).f = kx at HX ⊢
  generalize (Z.getD y zA).f = ky at HY ⊢
  have HCC := Lib.hid (compare_any ky kx)
  generalize cmpI ky kx = r at HCC ⊢
  obtain ⟨ao, cap, rfl⟩ := hv.long
  clear hv
  go_enter Try.func114, Try.ntmps114
  go_wp2_with fail
  go_quiet (first | (go_at_call 65; first | (with_reducible exact Calls.quiet_of_same (HX.out _)) | (with_reducible exact Calls.quiet_of_same (HY.out _))) | (go_at_call 109; exact Calls.quiet_of_same ((HCC.out _).mono fun _ _ ⟨h1, h2⟩ => ⟨h1, h2.symm⟩)))
  go_wp2_with fail
  go_ret
  exact ⟨rfl, _, rfl⟩
theorem lon_of (v : Value) (Z : List Ac) (c : Nat) (w : World) (hv : AV w v Z) (hn : Z.length ≤ 1048576) (hc : w.cell? ⟨c, 0, none⟩ = some (.func (.func 65) #[v] #[])) :
    CmpOf 114 #[.pointer (some ⟨c, 0, none⟩)] (fun x y => cmpI (Z.getD y zA).f (Z.getD x zA).f) Z.length w := fun W hb x y hx hy =>
  lon_cmp v Z c x y W (hv.below hb (Nat.le_refl _)) hn hx hy (by rw [hb.cell (p := ⟨c, 0, none⟩) (cell_block hc)]; exact hc)
def lfL (Z : List Ac) (m : Int) : List Int := if macB Z m then lpP Z (lfT Z) m.toNat Z.length else []
def lfI (Z : List Ac) (m : Int) : Int := if macB Z m then lpM Z (lfT Z) m.toNat Z.length else 0
theorem lf_no {Z : List Ac} {m : Int} (h : macB Z m = false) : lfL Z m = [] ∧ lfI Z m = 0 := by unfold lfL lfI; rw [h]; exact ⟨rfl, rfl⟩
theorem lf_yes {Z : List Ac} {m : Int} (h : macB Z m = true) : lfL Z m = lpP Z (lfT Z) m.toNat Z.length ∧ lfI Z m = lpM Z (lfT Z) m.toNat Z.length := by unfold lfL lfI; rw [if_pos h, if_pos h]; exact ⟨rfl, rfl⟩
theorem lfL_len (Z : List Ac) (m : Int) : (lfL Z m).length ≤ 1048576 := by
  cases h : macB Z m with
  | false => rw [(lf_no h).1]; simp
  | true => rw [(lf_yes h).1, lpP_len]; have := (macB_ok h).1.n2; omega
set_option maxRecDepth 100000 in
set_option maxHeartbeats 4000000 in
theorem specLf_yes (v : Value) (Z : List Ac) (m : Int) (w : World) (hv : AV w v Z) (hn : Z.length ≤ 1048576) (h : macB Z m = true) :
    Calls Try.prog 24 #[v, .int .i64 m] w (SaysJIB (lfL Z m) (lfI Z m) true w) := by
  obtain ⟨i0, hi, hz0, hz1, hz2⟩ := info_parts Try.infoI
  have HV := Lib.hid hv
  have H := Lib.hid h
  obtain ⟨hJ, hm, m1, m8⟩ := macB_ok h
  have HE := Lib.hid (lf_yes h)
  have J := Lib.hid hJ
  have n2 := hJ.n2
  generalize m.toNat = M at hm m1 m8 HE
  subst hm
  have HAL := Lib.hid (allF_len (negK Z))
  have HT := Lib.hid (lfT_tour Z)
  have HOF : Hid (intsN (ordN (ltK fun i => (allF (negK Z) Z.length).getD i 0) Z.length) = lfT Z) := Lib.hid (by rw [ord_allL]; rfl)
  obtain ⟨ao, cap, rfl⟩ := hv.long
  have HCC : Hid (∀ k, k < Z.length → ∃ b off, ao = some ⟨b, off, none⟩ ∧ b < w.heap.size ∧ ArcAt w b (off + k * 4) (Z.getD k zA)) := Lib.hid fun k hk => by
    rcases HV.out with ⟨hz, _⟩ | ⟨b, off, cap2, e, hpos, hbl, hcell⟩
    · rw [hz] at hk; simp at hk
    · injection e with e1 e2 e3
      exact ⟨b, off, e1, hbl, hcell k hk⟩
  clear hv h hJ
  go_enter Try.func24, Try.ntmps24
  go_wp2_with fail
  go_at_call 59; refine (l06Mach_is true _ Z (M : Int) _ HV.out hn H.out).mono ?_; rintro e w1 ⟨rfl, q, rfl⟩
  obtain ⟨w1, hw1⟩ : ∃ x, x = w.drewN q := ⟨_, rfl⟩
  rw [← hw1]
  have B1 : Hid (Below w.heap.size w w1) := Lib.hid (by rw [hw1]; exact below_drewN (Below.refl _ _) q)
  have HG0 := Lib.hid (Grows.empty (Value.int .i64) 2 w1.heap.size w1 (Nat.le_refl _))
  have HB0 := Lib.hid (below_alloc w1 (.cells #[] 2))
  clear hw1
  go_wp2_with fail
  go_loopg [7, 8] Z.length (fun gk s i wr => ∃ k : Nat, k ≤ Z.length ∧ gk + k = Z.length ∧ i = .int .i64 k ∧ Below w1.heap.size w1 wr ∧ Grows (Value.int .i64) 2 w1.heap.size s (allF (negK Z) k) wr)
  case atStart => exact ⟨0, Nat.zero_le _, by omega, rfl, HB0.out, HG0.out⟩
  case round =>
    clear HG0 HB0
    obtain ⟨k, hk, hgk, rfl, hB, hG⟩ := hrel
    have HB := Lib.hid hB
    have HG := Lib.hid hG
    have HUP := Lib.hid (allF_upL (negK Z) k)
    clear hG
    by_cases hlt : k < Z.length
    · obtain ⟨b, off, hao, hbl, hat⟩ := HCC.out k hlt
      have c1 : wr.cell? ⟨b, off + k * 4, none⟩ = some (.int .i64 (Z.getD k zA).f) := ((hat.keep B1.out hbl).keep hB (Nat.lt_of_lt_of_le hbl B1.out.size)).c0
      have hj := J.out.ok k hlt
      have f1 := hj.f1
      have f2 := hj.f2
      have HNK : Hid (negK Z k = - (Z.getD k zA).f) := Lib.hid rfl
      rw [HNK.out] at HUP
      generalize (Z.getD k zA).f = q at c1 HUP f1 f2
      have wn : IntKind.i64.wrap (-q) = -q := IntWalk.i64_in _ (by omega)
      subst hao
      clear hB hat hj
      go_wp2_with (at_builtin; refine wpList_append_own _ rfl _ _ 24 rfl w1.heap.size 2 i0 (.int .i64 0) 1 8 Try.underlying24 hi hz0 hz1 hz2 rfl (by decide) _ _ _ rfl (Grows.alloc HG.out _) ⟨wr.heap.size, 0, none⟩ 1 1 [.int .i64 (-q)] rfl rfl ?c1 ?c2 ?c3 ?c4 ?c5 ?_)
      case c1 => exact one_new
      case c2 => intro u hu; simp at hu; subst hu; rfl
      case c3 => rw [HAL.out]; unfold maxLen; omega
      case c4 => rw [HAL.out]; omega
      case c5 => have := HB.out.size; simp; omega
      intro v' w' hown hgrow _
      have HN2 : Hid (Below w1.heap.size w1 w' ∧ Grows (Value.int .i64) 2 w1.heap.size v' (allF (negK Z) (k + 1)) w') := Lib.hid ⟨(HB.out.alloc HB.out.size _).grown hgrow (by have := HB.out.size; simp; omega) (fun g hg => HG.out.block g hg), by rw [HUP.out]; exact Grows.more (news := [-q]) rfl hown⟩
      clear hown hgrow c1
      go_wp2_with fail
      go_roundg (gk - 1)
      case measure => omega
      case rel => exact ⟨k + 1, by omega, by omega, by go_num, HN2.out.1, HN2.out.2⟩
    · obtain rfl : k = Z.length := by omega
      have I1 := Lib.hid (HG.out.si (d := (0 : Int))).vl
      have h1 := (HG.out.si (d := (0 : Int))).len
      obtain ⟨a1, c1, rfl⟩ := h1
      have B2' : Hid (Below w.heap.size w wr) := Lib.hid (B1.out.trans (HB.out.mono B1.out.size))
      clear hB
      go_wp2_with fail
      go_at_call 61; refine (l06Order_any _ (allF (negK Z) Z.length) _ I1.out (by rw [HAL.out]; omega)).mono ?_; rintro e w4 ⟨v4, rfl, i4, b4⟩
      rw [HAL.out, HOF.out] at i4
      have I4 := Lib.hid i4.vl
      have B3 := Lib.hid (B2'.out.trans (b4.mono B2'.out.size))
      have h4 := i4.len
      obtain ⟨a4, c4, rfl⟩ := h4
      clear i4 b4
      go_wp2_with fail
      go_at_call 60; refine (l06List_any _ _ Z (lfT Z) M _ (HV.out.below B3.out (Nat.le_refl _)) I4.out J.out HT.out m1 m8).mono ?_; rintro e w2 ⟨v2, rfl, i2, b2⟩
      rw [← HE.out.2]
      rw [← HE.out.1] at i2
      have I2 := Lib.hid (SI.wide i2 (lo' := w.heap.size) B3.out.size (Nat.le_refl _) (Nat.le_refl _))
      have B2 := Lib.hid (B3.out.trans (b2.mono B3.out.size))
      have h2 := i2.len
      obtain ⟨a2, c2, rfl⟩ := h2
      clear i2 b2
      go_wp2_with fail
      refine bodyPost_ret (v := .tuple #[.slice a2 (lfL Z (M : Int)).length c2, .int .i64 (lfI Z (M : Int)), .bool true]) (by simp [results, Try.results24, go_sem]) rfl ?_
      exact ⟨_, rfl, I2.out, B2.out⟩
theorem specLongFirst_any (v : Value) (Z : List Ac) (m : Int) (w : World) (hv : AV w v Z) (o : OKA Z) (_ : -9223372036854775808 ≤ m ∧ m ≤ 9223372036854775807) :
    Calls Try.prog 24 #[v, .int .i64 m] w (SaysJIB (lfL Z m) (lfI Z m) (macB Z m) w) := by
  have hn := o.size
  cases h : macB Z m with
  | true => exact specLf_yes v Z m w hv hn h
  | false =>
    rw [(lf_no h).1, (lf_no h).2]
    have HV := Lib.hid hv
    obtain ⟨ao, cap, rfl⟩ := hv.long
    have H := Lib.hid h
    clear hv h
    go_enter Try.func24, Try.ntmps24
    go_wp2_with fail
    go_at_call 59; refine (l06Mach_is false _ Z m _ HV.out hn H.out).mono ?_; rintro e w1 ⟨rfl, q, rfl⟩
    go_wp2_with fail
    refine bodyPost_ret (v := .tuple #[.slice none 0 0, .int .i64 0, .bool false]) (by simp [results, Try.results24, go_sem]) rfl ?_
    exact ⟨_, rfl, SI.nil _ (Nat.le_refl _) _ _, below_drewN (Below.refl _ _) q⟩
set_option maxHeartbeats 4000000 in
theorem implLongFirst_any (v : Value) (Z : List Ac) (m : Int) (w : World) (hv : AV w v Z) (o : OKA Z) (_ : -9223372036854775808 ≤ m ∧ m ≤ 9223372036854775807) :
    Calls Try.prog 25 #[v, .int .i64 m] w (SaysJIB (lfL Z m) (lfI Z m) (macB Z m) w) := by
  have hn := o.size
  have HV := Lib.hid hv
  obtain ⟨ao, cap, rfl⟩ := hv.long
  clear hv
  cases h : macB Z m with
  | false =>
    rw [(lf_no h).1, (lf_no h).2]
    have H := Lib.hid h
    clear h
    go_enter Try.func25, Try.ntmps25
    go_wp2_with fail
    go_at_call 62; refine (forMach_is false _ Z m _ HV.out hn H.out).mono ?_; rintro e w1 ⟨rfl, b1⟩
    have B1 := Lib.hid b1
    clear b1
    go_wp2_with fail
    refine bodyPost_ret (v := .tuple #[.slice none 0 0, .int .i64 0, .bool false]) (by simp [results, Try.results25, go_sem]) rfl ?_
    exact ⟨_, rfl, SI.nil _ (Nat.le_refl _) _ _, B1.out⟩
  | true =>
    have H := Lib.hid h
    obtain ⟨hJ, hm, m1, m8⟩ := macB_ok h
    have HE := Lib.hid (lf_yes h)
    have J := Lib.hid hJ
    have n2 := hJ.n2
    generalize m.toNat = M at hm m1 m8 HE
    subst hm
    have HT := Lib.hid (lfT_tour Z)
    have EG := Lib.hid (enters_of Try.func114 (by kernel_rfl) rfl)
    have HLT : Hid (intsN (ordN (ltC (fun x y => cmpI (Z.getD y zA).f (Z.getD x zA).f)) Z.length) = lfT Z) := Lib.hid (by
      have e := ltC_desc fun i => (Z.getD i zA).f
      rw [e]; rfl)
    clear h hJ
    go_enter Try.func25, Try.ntmps25
    go_wp2_with fail
    go_at_call 62; refine (forMach_is true _ Z (M : Int) _ HV.out hn H.out).mono ?_; rintro e w1 ⟨rfl, b1⟩
    have B1 := Lib.hid b1
    clear b1
    go_wp2_with fail
    have B2 := Lib.hid (B1.out.trans ((below_alloc w1 (.cells #[.func (.func 65) #[.slice ao Z.length cap] #[]] 68)).mono B1.out.size))
    have HCM := Lib.hid (lon_of _ Z w1.heap.size _ (HV.out.below B2.out (Nat.le_refl _)) hn (World.cell?_alloc_new w1 #[.func (.func 65) #[.slice ao Z.length cap] #[]] 68 0))
    go_at_call 64; refine (descending_any _ _ _ _).mono ?_; rintro e w5 ⟨rfl, rfl⟩
    go_wp2_with fail
    go_at_call 53; refine (orderBy_any Z.length 114 _ (fun x y => cmpI (Z.getD y zA).f (Z.getD x zA).f) _ J.out.n1 (by omega) EG.out HCM.out).mono ?_; rintro e w2 ⟨v2, rfl, i2, b2⟩
    rw [HLT.out] at i2
    have I2 := Lib.hid i2.vl
    have B2 := Lib.hid (B2.out.trans (b2.mono B2.out.size))
    have h2 := i2.len
    obtain ⟨a2, c2, rfl⟩ := h2
    clear i2 b2
    go_wp2_with fail
    go_at_call 63; refine (putOn_any _ _ Z (lfT Z) M _ (HV.out.below B2.out (Nat.le_refl _)) I2.out J.out HT.out m1 m8).mono ?_; rintro e w3 ⟨v3, rfl, i3, b3⟩
    rw [← HE.out.2]
    rw [← HE.out.1] at i3
    have I3 := Lib.hid (SI.wide i3 (lo' := w.heap.size) B2.out.size (Nat.le_refl _) (Nat.le_refl _))
    have B3 := Lib.hid (B2.out.trans (b3.mono B2.out.size))
    have h3 := i3.len
    obtain ⟨a3, c3, rfl⟩ := h3
    clear i3 b3
    go_wp2_with fail
    refine bodyPost_ret (v := .tuple #[.slice a3 (lfL Z (M : Int)).length c3, .int .i64 (lfI Z (M : Int)), .bool true]) (by simp [results, Try.results25, go_sem]) rfl ?_
    exact ⟨_, rfl, I3.out, B3.out⟩
end Go.Proofs.Ytcnfmphokobgiaa
