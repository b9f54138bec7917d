/- The best pack: the program's side. -/
import Derived.Test.YtolbkepbcoipcaaGr
import Derived.Test.YtolbkepbcoipcaaRev
import Derived.Deep.QuietTactic
import Derived.BigQuiet
namespace Go.Proofs.Ytolbkepbcoipcaa
open Go.RowKit Go.ChangeShapes Go.WideShapes

/-- Where the j-th row of gains lies. -/
theorem GrAt.row {S G : List Int} {r : Nat} {w wr : World} {k : Nat} {v : Value} {vs : List Value} (h : GrAt S G r w k v vs wr) {j : Nat} (hj : j ≤ k) :
    ∃ b off cap, vs.getD j undef = .slice (some ⟨b, off, none⟩) (r + 1) (r + 1 + cap) ∧ b < wr.heap.size ∧ ∀ q, q ≤ r → wr.cell? ⟨b, off + q, none⟩ = some (.int .i64 (bestG S G j q)) := by
  obtain ⟨qb, hq1, -, -⟩ := h.lls.rows j (by omega)
  obtain ⟨b, off, cap, e, -, h2, h3, arr⟩ := hq1.lies (by rw [allF_len]; omega)
  rw [allF_len] at e
  refine ⟨b, off, cap, e, by omega, fun q hq => ?_⟩
  rw [arr.cells q (by rw [allF_len]; omega), allF_at (by omega)]
set_option maxRecDepth 100000 in
set_option maxHeartbeats 8000000 in
theorem implPack_yes (v u : Value) (S G : List Int) (r : Nat) (w : World) (hv : IL w v S) (hu : IL w u G) (hn : S.length ≤ 1048576) (hm : G.length ≤ 1048576) (h1 : canB S G (r : Int) = true) :
    Calls Try.prog 33 #[v, u, .int .i64 r] w (SaysJIB (packL S G S.length r).reverse (bestG S G S.length r) true w) := by
  obtain ⟨i0, hi, hz0, hz1, hz2⟩ := info_parts Try.infoI
  have HV := Lib.hid hv
  have HU := Lib.hid hu
  have H1 := Lib.hid h1
  have OK := Lib.hid (canB_ok h1)
  have r1 := OK.out.r1
  have l2 := OK.out.s.l2
  have l1 := OK.out.s.l1
  rcases hv with ⟨rfl, ao, cap, rfl⟩ | ⟨b, off, cap, rfl, hpos, hbl, hcell⟩
  · simp at l1
  have HC := Lib.hid hcell
  obtain ⟨uo, ucap, rfl⟩ := hu.long
  clear hcell hu h1
  go_enter Try.func33, Try.ntmps33
  go_wp2_with fail
  go_at_call 44; refine (areThings_is true _ _ S G r _ HV.out HU.out hn hm H1.out).mono ?_; rintro e w' ⟨rfl, m, rfl⟩
  go_wp2_with fail
  go_at_call 45; refine (gainRows_any _ _ S G r _ (VL.drewN HV.out _) (VL.drewN HU.out _) OK.out).mono ?_; rintro e w2 ⟨v2, vs, rfl, g⟩
  have GR := Lib.hid g
  have B2 := Lib.hid ((below_drewN (Below.refl w.heap.size w) m).trans g.below)
  obtain ⟨rb, ro, rc, rfl, -, rb2, rcell⟩ := g.lls.cell (Nat.succ_pos _)
  have RC := Lib.hid rcell
  clear g rcell
  go_wp2_with fail
  go_loopg [10, 11, 12] (S.length + 1) (fun gk v l i wr => ∃ (k q : Nat) (Zs : List Int), k ≤ S.length ∧ q ≤ r ∧ gk = k + 1 ∧ i = .int .i64 ((k : Int) - 1) ∧ l = .int .i64 q ∧ Zs ++ packL S G k q = packL S G S.length r ∧ Below w2.heap.size w2 wr ∧ Grows (Value.int .i64) 2 w2.heap.size v Zs wr)
  case atStart => exact ⟨S.length, r, [], Nat.le_refl _, Nat.le_refl _, rfl, rfl, rfl, rfl, Below.refl _ _, Grows.nil _ _ _ _⟩
  case round =>
    obtain ⟨k, q, Zs, hk, hq, rfl, rfl, rfl, hZ, hB, hG⟩ := hrel
    have HB := Lib.hid hB
    have HG := Lib.hid hG
    have HZ := Lib.hid hZ
    clear hB hG hZ
    by_cases h0 : k = 0
    · subst h0
      have HZ0 : Hid (Zs = packL S G S.length r) := Lib.hid (by have := HZ.out; simpa [packL] using this)
      have HZL : Hid (Zs.length ≤ 1048576) := Lib.hid (by rw [HZ0.out]; have := packL_len S G S.length r; omega)
      obtain ⟨z, hz⟩ : ∃ z, z = bestG S G S.length r := ⟨_, rfl⟩
      have HZZ := Lib.hid hz
      clear hz
      have HS := Lib.hid (HG.out.si (d := 0))
      obtain ⟨xa, xc, rfl⟩ := HS.out.len
      go_wp2_with fail
      go_at_call 57; refine (reverse_any w2.heap.size wr.heap.size _ Zs _ HS.out HZL.out).mono ?_; rintro e w5 ⟨rfl, i5, t5⟩
      have B5 := Lib.hid (HB.out.trans (t5.below HB.out.size))
      have I5 := Lib.hid (SI.wide i5 (lo' := w.heap.size) (hi' := w5.heap.size) B2.out.size t5.size (Nat.le_refl _))
      obtain ⟨xb, xo, xcap, xe, xl, xcell⟩ := GR.out.row (j := S.length) (Nat.le_refl _)
      have x3 : w5.cell? ⟨rb, ro + S.length, none⟩ = some (.slice (some ⟨xb, xo, none⟩) (r + 1) (r + 1 + xcap)) := by rw [B5.out.cell (p := ⟨rb, ro + S.length, none⟩) rb2, RC.out _ (by omega), xe]
      have x4 : w5.cell? ⟨xb, xo + r, none⟩ = some (.int .i64 z) := by rw [B5.out.cell (p := ⟨xb, xo + r, none⟩) xl, xcell r (Nat.le_refl _), ← HZZ.out]
      have lr : (r : Int) < ((r + 1 : Nat) : Int) := by omega
      have lr2 : (r : Int) < (r : Int) + 1 := by omega
      have ls : (S.length : Int) < ((S.length + 1 : Nat) : Int) := by omega
      have ls2 : (S.length : Int) < (S.length : Int) + 1 := by omega
      clear i5 t5 xe xcell xl
      go_wp2_with fail
      go_quiet (fail)
      go_wp2_with fail
      refine bodyPost_ret (v := .tuple #[.slice xa Zs.length xc, .int .i64 z, .bool true]) (by simp [results, Try.results33, go_sem]) rfl ?_
      rw [← HZ0.out, ← HZZ.out]
      exact ⟨_, rfl, I5.out, B2.out.trans ((below_drewN B5.out _).mono B2.out.size)⟩
    · obtain ⟨m, rfl⟩ : ∃ m, k = m + 1 := ⟨k - 1, by omega⟩
      obtain ⟨s, hs⟩ := nat_of (show 0 ≤ S.getD m 0 from by have := (OK.out.s.a m (by omega)).1; omega)
      have s1 : 1 ≤ s := by have := (OK.out.s.a m (by omega)).1; omega
      have s2 : s ≤ 1000 := by have := (OK.out.s.a m (by omega)).2; omega
      have c1 : ∀ wx, Below w2.heap.size w2 wx → wx.cell? ⟨b, off + m, none⟩ = some (.int .i64 (s : Int)) := fun wx hb => by rw [(B2.out.trans (hb.mono B2.out.size)).cell (p := ⟨b, off + m, none⟩) hbl, ← hs]; exact HC.out m (by omega)
      have C1 := Lib.hid c1
      have HS := Lib.hid hs
      have e1 : ((m + 1 : Nat) : Int) - 1 = (m : Int) := by omega
      rw [e1]
      have hm0 : (m : Int) < (S.length : Int) := by omega
      obtain ⟨xb, xo, xcap, xe, xl, xcell⟩ := GR.out.row (j := m + 1) hk
      obtain ⟨yb, yo, ycap, ye, yl, ycell⟩ := GR.out.row (j := m) (by omega)
      have x3 : wr.cell? ⟨rb, ro + (m + 1), none⟩ = some (.slice (some ⟨xb, xo, none⟩) (r + 1) (r + 1 + xcap)) := by rw [HB.out.cell (p := ⟨rb, ro + (m + 1), none⟩) rb2, RC.out _ (by omega), xe]
      have y3 : wr.cell? ⟨rb, ro + m, none⟩ = some (.slice (some ⟨yb, yo, none⟩) (r + 1) (r + 1 + ycap)) := by rw [HB.out.cell (p := ⟨rb, ro + m, none⟩) rb2, RC.out _ (by omega), ye]
      have x4 : wr.cell? ⟨xb, xo + q, none⟩ = some (.int .i64 (bestG S G (m + 1) q)) := by rw [HB.out.cell (p := ⟨xb, xo + q, none⟩) xl, xcell q hq]
      have y4 : wr.cell? ⟨yb, yo + q, none⟩ = some (.int .i64 (bestG S G m q)) := by rw [HB.out.cell (p := ⟨yb, yo + q, none⟩) yl, ycell q hq]
      have lq : (q : Int) < ((r + 1 : Nat) : Int) := by omega
      have lq2 : (q : Int) < (r : Int) + 1 := by omega
      have lm : (m : Int) < ((S.length + 1 : Nat) : Int) := by omega
      have lm2 : (m : Int) < (S.length : Int) + 1 := by omega
      have lm3 : (m : Int) + 1 < ((S.length + 1 : Nat) : Int) := by omega
      have lm4 : (m : Int) + 1 < (S.length : Int) + 1 := by omega
      have wm : IntKind.i64.wrap ((m : Int) + 1) = (m : Int) + 1 := IntWalk.i64_in _ (by omega)
      have wm2 : (0 : Int) ≤ (m : Int) + 1 := by omega
      have wm3 : ((m : Int) + 1).toNat = m + 1 := by omega
      clear hs c1 e1 h0 xe ye xcell ycell xl yl
      by_cases hgt : bestG S G m q < bestG S G (m + 1) q
      · have hsq : s ≤ q := take_room HS.out hgt
        have HP := Lib.hid (packL_yes HS.out hgt)
        obtain ⟨p, hp⟩ : ∃ p : Nat, q = s + p := ⟨q - s, by omega⟩
        have hd : decide (bestG S G m q < bestG S G (m + 1) q) = true := decide_eq_true hgt
        generalize bestG S G m q = y at y4 hd
        generalize bestG S G (m + 1) q = x at x4 hd
        have wa : IntKind.i64.wrap ((q : Int) - (s : Int)) = (p : Int) := by rw [show (q : Int) - (s : Int) = (p : Int) by omega]; exact IntWalk.i64_in _ (by omega)
        have HPQ := Lib.hid hp
        clear hgt hp
        go_wp2_with fail
        go_quiet (fail)
        clear wm wm2 wm3
        have A5 := Lib.hid (below_drewN HB.out nq)
        have G5 := Lib.hid (HG.out.drewN nq)
        have hzl : Zs.length ≤ 16 := by have := packL_len S G S.length r; rw [← HZ.out] at this; simp at this; omega
        have HZL := Lib.hid hzl
        clear hzl
        go_wp2_with (at_builtin; refine wpList_append_own _ rfl _ _ 22 rfl w2.heap.size 2 i0 (.int .i64 0) 1 8 Try.underlying22 hi hz0 hz1 hz2 rfl (by decide) _ _ _ rfl (Grows.alloc G5.out _) ⟨wr.heap.size, 0, none⟩ 1 1 [.int .i64 (m : Int)] rfl rfl ?c1 ?c2 ?c3 ?c4 ?c5 ?_)
        case c1 => exact one_new
        case c2 => intro u hu; simp at hu; subst hu; rfl
        case c3 => have := HZL.out; unfold maxLen; omega
        case c4 => have := HZL.out; omega
        case c5 => have := A5.out.size; simp at this; simp; omega
        intro v' w' hown hgrow _
        have HN : Hid (Below w2.heap.size w2 w' ∧ Grows (Value.int .i64) 2 w2.heap.size v' (Zs ++ [(m : Int)]) w') := Lib.hid ⟨(A5.out.alloc A5.out.size _).grown hgrow (by have := A5.out.size; simp at this; simp; omega) (fun g hg => G5.out.block g hg), Grows.more (news := [(m : Int)]) rfl hown⟩
        have c2 := C1.out w' HN.out.1
        have HZN : Hid ((Zs ++ [(m : Int)]) ++ packL S G m p = packL S G S.length r) := Lib.hid (by
          rw [← HZ.out, HP.out, List.append_assoc]
          have e : q - s = p := by have := HPQ.out; omega
          rw [e]; rfl)
        clear hown hgrow
        go_wp2_with fail
        go_roundg (m + 1)
        case measure => omega
        case rel => exact ⟨m, p, _, by omega, by have := HPQ.out; omega, rfl, rfl, rfl, HZN.out, HN.out.1, HN.out.2⟩
      · have HP := Lib.hid (packL_no hgt)
        have hd : decide (bestG S G m q < bestG S G (m + 1) q) = false := decide_eq_false hgt
        generalize bestG S G m q = y at y4 hd
        generalize bestG S G (m + 1) q = x at x4 hd
        clear hgt
        go_wp2_with fail
        go_quiet (fail)
        clear wm wm2 wm3
        go_wp2_with fail
        go_roundg (m + 1)
        case measure => omega
        case rel => exact ⟨m, q, Zs, by omega, hq, rfl, rfl, rfl, by rw [← HP.out]; exact HZ.out, below_drewN HB.out _, HG.out.drewN _⟩
set_option maxHeartbeats 1000000 in
theorem implBestPack_any (v : Value) (S : List Int) (u : Value) (G : List Int) (r : Int) (w : World) (hv : IL w v S) (hu : IL w u G) (o : OKI S) (o2 : OKI G) (_ : -9223372036854775808 ≤ r ∧ r ≤ 9223372036854775807) :
    Calls Try.prog 33 #[v, u, .int .i64 r] w (SaysJIB (packA S G r) (packG S G r) (canB S G r) w) := by
  have hn := o.size
  have hm := o2.size
  unfold packA packG
  cases h1 : canB S G r with
  | false =>
    have HV := Lib.hid hv
    have HU := Lib.hid hu
    obtain ⟨ao, cap, rfl⟩ := hv.long
    obtain ⟨ao2, cap2, rfl⟩ := hu.long
    have H1 := Lib.hid h1
    clear h1 hv hu
    go_enter Try.func33, Try.ntmps33
    go_wp2_with fail
    go_at_call 44; refine (areThings_is false _ _ S G r _ HV.out HU.out hn hm H1.out).mono ?_; rintro e w' ⟨rfl, m, rfl⟩
    have HB := Lib.hid (below_drewN (Below.refl w.heap.size w) m)
    go_wp2_with fail
    refine bodyPost_ret (v := .tuple #[.slice none 0 0, .int .i64 0, .bool false]) (by simp [results, Try.results33, go_sem]) rfl ?_
    exact ⟨_, rfl, SI.nil _ (Nat.le_refl _) _ _, HB.out⟩
  | true =>
    obtain ⟨q, rfl⟩ : ∃ q : Nat, r = (q : Int) := nat_of (canB_ok h1).r0
    exact implPack_yes v u S G q w hv hu hn hm h1
end Go.Proofs.Ytolbkepbcoipcaa
