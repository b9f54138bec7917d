/- Orders by due times: the model. -/
import Derived.Test.YtcnfmphokobgiaaJbS
import Derived.Test.YtcnfmphokobgiaaOrdS
import Derived.Test.YtcnfmphokobgiaaDueI
namespace Go.Proofs.Ytcnfmphokobgiaa
open Go.RowKit Go.ChangeShapes Go.WideShapes

theorem allF_up (f : Nat → Int) (n : Nat) : allF f (n + 1) = allF f n ++ [f n] := by unfold allF; rw [List.range_succ, List.map_append]; rfl
theorem ord_allF (f : Nat → Int) (n : Nat) : ordN (ltK fun i => (allF f n).getD i 0) n = ordN (ltK f) n :=
  ordN_congr fun x y hx hy => by show decide ((allF f n).getD x 0 < (allF f n).getD y 0) = decide (f x < f y); rw [allF_at hx, allF_at hy]
set_option maxRecDepth 100000 in
set_option maxHeartbeats 4000000 in
theorem l06Due_any (v : Value) (Z : List Ac) (w : World) (hv : AV w v Z) (hn : Z.length ≤ 64) :
    Calls Try.prog 50 #[v] w (Made (Value.int .i64) (0 : Int) (intsN (ordN (ltK (dueK Z)) Z.length)) w) := by
  obtain ⟨i0, hi, hz0, hz1, hz2⟩ := info_parts Try.infoI
  have HV := Lib.hid hv
  have HOF := Lib.hid (ord_allF (dueK Z) Z.length)
  have HAL := Lib.hid (allF_len (dueK Z))
  have HE := Lib.hid (Grows.empty (Value.int .i64) 2 w.heap.size w (Nat.le_refl _))
  have HB0 := Lib.hid (below_alloc w (.cells #[] 2))
  obtain ⟨ao, cap, rfl⟩ := hv.long
  have HCC : Hid (∀ k, k < Z.length → ∃ b off, ao = some ⟨b, off, none⟩ ∧ b < w.heap.size ∧ ArcAt w b (off + k * 4) (Z.getD k zA)) := Lib.hid fun k hk => by
    rcases HV.out with ⟨hz, _⟩ | ⟨b, off, cap2, e, hpos, hbl, hcell⟩
    · rw [hz] at hk; simp at hk
    · injection e with e1 e2 e3
      exact ⟨b, off, e1, hbl, hcell k hk⟩
  clear hv
  go_enter Try.func50, Try.ntmps50
  go_wp2_with fail
  go_loopg [3, 4] Z.length (fun gk s i wr => ∃ k : Nat, k ≤ Z.length ∧ gk + k = Z.length ∧ i = .int .i64 k ∧ Below w.heap.size w wr ∧ Grows (Value.int .i64) 2 w.heap.size s (allF (dueK Z) k) wr)
  case atStart => exact ⟨0, Nat.zero_le _, by omega, rfl, HB0.out, HE.out⟩
  case round =>
    clear HE HB0
    obtain ⟨k, hk, hgk, rfl, hB, hG⟩ := hrel
    have HB := Lib.hid hB
    have HG := Lib.hid hG
    have HUP := Lib.hid (allF_up (dueK Z) k)
    clear hG
    by_cases hlt : k < Z.length
    · obtain ⟨b, off, hao, hbl, hat⟩ := HCC.out k hlt
      have c1 : wr.cell? ⟨b, off + k * 4 + 1, none⟩ = some (.int .i64 (dueK Z k)) := (hat.keep hB hbl).c1
      generalize dueK Z k = q at c1 HUP
      subst hao
      clear hB hat
      go_wp2_with (at_builtin; refine wpList_append_own _ rfl _ _ 24 rfl w.heap.size 2 i0 (.int .i64 0) 1 8 Try.underlying24 hi hz0 hz1 hz2 rfl (by decide) _ _ _ rfl (Grows.alloc HG.out _) ⟨wr.heap.size, 0, none⟩ 1 1 [.int .i64 q] rfl rfl ?c1 ?c2 ?c3 ?c4 ?c5 ?_)
      case c1 => exact one_new
      case c2 => intro u hu; simp at hu; subst hu; rfl
      case c3 => rw [HAL.out]; unfold maxLen; omega
      case c4 => rw [HAL.out]; omega
      case c5 => have := HB.out.size; simp; omega
      intro v' w' hown hgrow _
      have HN2 : Hid (Below w.heap.size w w' ∧ Grows (Value.int .i64) 2 w.heap.size v' (allF (dueK Z) (k + 1)) w') := Lib.hid ⟨(HB.out.alloc HB.out.size _).grown hgrow (by have := HB.out.size; simp; omega) (fun g hg => HG.out.block g hg), by rw [HUP.out]; exact Grows.more (news := [q]) rfl hown⟩
      clear hown hgrow c1
      go_wp2_with fail
      go_roundg (gk - 1)
      case measure => omega
      case rel => exact ⟨k + 1, by omega, by omega, by go_num, HN2.out.1, HN2.out.2⟩
    · obtain rfl : k = Z.length := by omega
      have I1 := Lib.hid (HG.out.si (d := (0 : Int))).vl
      have h1 := (HG.out.si (d := (0 : Int))).len
      obtain ⟨a1, c1, rfl⟩ := h1
      clear hB
      go_wp2_with fail
      go_at_call 61; refine (l06Order_any _ (allF (dueK Z) Z.length) _ I1.out (by rw [HAL.out]; exact hn)).mono ?_; rintro e w2 ⟨v2, rfl, i2, b2⟩
      rw [HAL.out, HOF.out] at i2
      have I2 := Lib.hid (SI.wide i2 (lo' := w.heap.size) HB.out.size (Nat.le_refl _) (Nat.le_refl _))
      have B2 := Lib.hid (HB.out.trans (b2.mono HB.out.size))
      obtain ⟨a2, c2, rfl⟩ := i2.len
      clear i2 b2
      go_wp2_with fail
      refine bodyPost_ret (results_tmp rfl _ _ _) rfl ?_
      exact ⟨_, rfl, I2.out, B2.out⟩
theorem specDueOrder_any (v : Value) (Z : List Ac) (w : World) (hv : AV w v Z) (o : OKA Z) : Calls Try.prog 14 #[v] w (SaysJB (dueL Z) (jobsB Z) w) := by
  have HV := Lib.hid hv
  obtain ⟨ao, cap, rfl⟩ := hv.long
  have hn := o.size
  clear hv o
  cases h : jobsB Z with
  | false =>
    have H := Lib.hid h
    have HE := Lib.hid (dueL_no h)
    clear h
    go_enter Try.func14, Try.ntmps14
    go_wp2_with fail
    go_at_call 49; refine (l06Are_is false _ Z _ HV.out hn H.out).mono ?_; rintro e w1 ⟨rfl, m, rfl⟩
    go_wp2_with fail
    go_ret2
    exact ⟨_, rfl, by rw [HE.out]; exact SI.nil _ (Nat.le_refl _) _ _, below_drewN (Below.refl _ _) m⟩
  | true =>
    have H := Lib.hid h
    have HE := Lib.hid (dueL_yes h)
    have J := Lib.hid (jobsB_ok h)
    clear h
    go_enter Try.func14, Try.ntmps14
    go_wp2_with fail
    go_at_call 49; refine (l06Are_is true _ Z _ HV.out hn H.out).mono ?_; rintro e w1 ⟨rfl, m, rfl⟩
    go_wp2_with fail
    go_at_call 50; refine (l06Due_any _ Z _ (HV.out.dn m) (by have := J.out.n2; omega)).mono ?_; rintro e w2 ⟨v2, rfl, i2, b2⟩
    rw [← HE.out] at i2
    have I2 := Lib.hid (show II w.heap.size w2.heap.size w2 v2 (dueL Z) from i2)
    have B2 := Lib.hid (Below.undrew b2)
    obtain ⟨a2, c2, rfl⟩ := i2.len
    clear i2 b2
    go_wp2_with fail
    go_ret2
    exact ⟨_, rfl, I2.out, B2.out⟩
end Go.Proofs.Ytcnfmphokobgiaa
