/- The best children of all indices of a tree: the closure, and the first of the best. -/
import Derived.Test.YtmkbjkjgemipcaaBtM
import Derived.Deep.QuietTactic
import Derived.BigQuiet
namespace Go.Proofs.Ytmkbjkjgemipcaa
open Go.RowKit Go.ChangeShapes Go.WideShapes

set_option maxHeartbeats 2000000 in
theorem bestCl_any (n E Wb wo wc p5 pi p2 i c d : Nat) (ev : Bool) (x y : Int) (w : World) (h5 : w.cell? ⟨p5, 0, none⟩ = some (.slice (some ⟨E, 0, none⟩) n n)) (hi : w.cell? ⟨pi, 0, none⟩ = some (.int .i64 (i : Int))) (h2 : w.cell? ⟨p2, 0, none⟩ = some (.slice (some ⟨Wb, wo, none⟩) n wc))
    (he : w.cell? ⟨E, i, none⟩ = some (.bool ev)) (hx : w.cell? ⟨Wb, wo + c, none⟩ = some (.int .i64 x)) (hy : w.cell? ⟨Wb, wo + d, none⟩ = some (.int .i64 y)) (li : i < n) (lc : c < n) (ld : d < n) :
    Calls Try.prog 108 #[.int .i64 c, .int .i64 d, .pointer (some ⟨p5, 0, none⟩), .pointer (some ⟨pi, 0, none⟩), .pointer (some ⟨p2, 0, none⟩)] w (Tells (bw ev x y) w) := by
  have l1 : (i : Int) < (n : Int) := by omega
  have l2 : (c : Int) < (n : Int) := by omega
  have l3 : (d : Int) < (n : Int) := by omega
  cases ev with
  | true =>
    go_enter Try.func108, Try.ntmps108
    go_wp2_with fail
    go_quiet (fail)
    go_wp2_with fail
    go_ret
    exact tells _ rfl
  | false =>
    go_enter Try.func108, Try.ntmps108
    go_wp2_with fail
    go_quiet (fail)
    go_wp2_with fail
    go_ret
    exact tells _ rfl
set_option maxRecDepth 100000 in
set_option maxHeartbeats 4000000 in
theorem firstBest_any (P V : List Int) (ok : TreeOk P V) (E Wb wo wc p5 pi p2 a : Nat) (fw : Nat → Int) (u : Value) (w : World) (ha : a < P.length) (hu : IL w u (chL P a)) (h5 : w.cell? ⟨p5, 0, none⟩ = some (.slice (some ⟨E, 0, none⟩) P.length P.length)) (hi : w.cell? ⟨pi, 0, none⟩ = some (.int .i64 (a : Int))) (h2 : w.cell? ⟨p2, 0, none⟩ = some (.slice (some ⟨Wb, wo, none⟩) P.length wc))
    (he : w.cell? ⟨E, a, none⟩ = some (.bool (evB P a))) (hw : ∀ c, c < P.length → w.cell? ⟨Wb, wo + c, none⟩ = some (.int .i64 (fw c))) (hf : ∀ c, a < c → c < P.length → fw c = wT P V c) (h0 : ¬ (chL P a).length = 0) :
    Calls Try.prog 107 #[u, .func (.func 108) #[] #[.pointer (some ⟨p5, 0, none⟩), .pointer (some ⟨pi, 0, none⟩), .pointer (some ⟨p2, 0, none⟩)]] w (fun e w' => e = .returned (.tuple #[.int .i64 ((bcT P V a : Nat) : Int), .bool true]) ∧ ∃ m, w' = w.drewN m) := by
  have OK := Lib.hid ok
  have n2 := ok.l2
  have HW := Lib.hid hw
  have HF := Lib.hid hf
  have H5 := Lib.hid h5
  have HI := Lib.hid hi
  have H2 := Lib.hid h2
  have HE := Lib.hid he
  obtain ⟨L, hLL⟩ : ∃ L, L = chL P a := ⟨_, rfl⟩
  have HLL := Lib.hid hLL
  have hlen : L.length ≤ 64 := by rw [hLL]; exact Nat.le_trans (chN_len P a _) n2
  rw [← hLL] at hu h0
  rcases hu with ⟨hz, -⟩ | ⟨bl, ol, cl, rfl, hlp, hbl, hcl⟩
  · exact absurd (by rw [hz]; rfl) h0
  have HCL := Lib.hid hcl
  have l0 : (0 : Int) < (L.length : Int) := by omega
  clear hw hf h5 hi h2 he hcl hLL ok
  go_enter Try.func107, Try.ntmps107
  go_wp2_with fail
  go_loopg [6, 11] L.length (fun gk s6 i wr => ∃ (k b : Nat), k ≤ L.length ∧ gk + k = L.length ∧ i = .int .i64 k ∧ s6 = .int .i64 b ∧ (0 < k → a < b ∧ b < P.length ∧ bestC (wT P V) (evB P a) (L.drop k) b = bcT P V a) ∧ ∃ m, wr = w.drewN m)
  case atStart => exact ⟨0, 0, Nat.zero_le _, by omega, rfl, rfl, fun h => by omega, 0, rfl⟩
  case round =>
    obtain ⟨k, b, hk, hgk, rfl, rfl, hb, hwr⟩ := hrel
    have HB := Lib.hid hb
    have HM := Lib.hid (drew_more hwr)
    have HM0 := Lib.hid hwr
    by_cases hkl : k < L.length
    · obtain ⟨c, hc, hac, hcn, -⟩ := chL_at OK.out.p (a := a) (k := k) (by rw [← HLL.out]; exact hkl)
      rw [← HLL.out] at hc
      have HCE := Lib.hid hc
      have y0 : wr.cell? ⟨bl, ol + k, none⟩ = some (.int .i64 (c : Int)) := by rw [← hc]; obtain ⟨m, rfl⟩ := hwr; exact HCL.out k hkl
      by_cases hk0 : k = 0
      · subst hk0
        have HST : Hid (bestC (wT P V) (evB P a) (L.drop (0 + 1)) c = bcT P V a) := Lib.hid (by
          have e := bestC_no (w := wT P V) (ev := evB P a) (b := c) hkl hc (bw_self _ _)
          rw [← e]
          show bestC (wT P V) (evB P a) L c = bestC (wT P V) (evB P a) (chL P a) ((chL P a).getD 0 0).toNat
          rw [← HLL.out, hc, Int.toNat_natCast])
        rw [Nat.add_zero] at y0
        clear hwr hc hb
        go_wp2_with fail
        go_roundg (gk - 1)
        case measure => omega
        case rel => exact ⟨0 + 1, c, by omega, by omega, by go_num, rfl, fun _ => ⟨hac, hcn, HST.out⟩, HM0.out⟩
      · obtain ⟨hb1, hb2, hb3⟩ := hb (by omega)
        have HB3 := Lib.hid hb3
        have hk1 : ((k : Int) == 0) = false := by simp; omega
        have hk2 : ¬ (k : Int) = 0 := by omega
        have HC := Lib.hid (bestCl_any P.length E Wb wo wc p5 pi p2 a c b (evB P a) (fw c) (fw b) wr (by obtain ⟨m, rfl⟩ := hwr; exact H5.out) (by obtain ⟨m, rfl⟩ := hwr; exact HI.out) (by obtain ⟨m, rfl⟩ := hwr; exact H2.out) (by obtain ⟨m, rfl⟩ := hwr; exact HE.out) (by obtain ⟨m, rfl⟩ := hwr; exact HW.out c hcn) (by obtain ⟨m, rfl⟩ := hwr; exact HW.out b hb2) ha hcn hb2)
        rw [HF.out c hac hcn, HF.out b hb1 hb2] at HC
        clear hwr hc hb hb3
        cases hq : bw (evB P a) (wT P V c) (wT P V b) with
        | true =>
          have HG : Hid (bestC (wT P V) (evB P a) (L.drop (k + 1)) c = bcT P V a) := Lib.hid (by rw [← HB3.out]; exact (bestC_yes hkl HCE.out hq).symm)
          rw [hq] at HC
          clear hq
          go_wp2_with fail
          go_at_call 108; refine HC.out.mono ?_; rintro e w' ⟨rfl, m, rfl⟩
          go_wp2_with fail
          go_roundg (gk - 1)
          case measure => omega
          case rel => exact ⟨k + 1, c, by omega, by omega, by go_num, rfl, fun _ => ⟨hac, hcn, HG.out⟩, HM.out _⟩
        | false =>
          have HG : Hid (bestC (wT P V) (evB P a) (L.drop (k + 1)) b = bcT P V a) := Lib.hid (by rw [← HB3.out]; exact (bestC_no hkl HCE.out hq).symm)
          rw [hq] at HC
          clear hq
          go_wp2_with fail
          go_at_call 108; refine HC.out.mono ?_; rintro e w' ⟨rfl, m, rfl⟩
          go_wp2_with fail
          go_roundg (gk - 1)
          case measure => omega
          case rel => exact ⟨k + 1, b, by omega, by omega, by go_num, rfl, fun _ => ⟨hb1, hb2, HG.out⟩, HM.out _⟩
    · obtain rfl : k = L.length := by omega
      have hE : b = bcT P V a := by obtain ⟨-, -, h3⟩ := hb (by omega); rw [← h3, bestC_end rfl]
      have HEE := Lib.hid hE
      clear hwr hb hE
      go_wp2_with fail
      refine bodyPost_ret (v := .tuple #[.int .i64 (b : Int), .bool true]) (by simp [results, Try.results107, go_sem]) rfl ?_
      rw [← HEE.out]
      exact ⟨rfl, HM0.out⟩
theorem firstNone_any (a1 : Option Addr) (k1 g : Nat) (cb : Array Value) (w : World) :
    Calls Try.prog 107 #[.slice a1 0 k1, .func (.func g) #[] cb] w (fun e w' => e = .returned (.tuple #[.int .i64 0, .bool false]) ∧ w = w') := by
  go_enter Try.func107, Try.ntmps107
  go_wp2_with fail
  refine wp_loop_rounds 1 ?_
  rw [rounds_succ]
  go_wp2_with fail
  refine bodyPost_ret (v := .tuple #[.int .i64 0, .bool false]) (by simp [results, Try.results107, go_sem]) rfl ?_
  exact ⟨rfl, rfl⟩
end Go.Proofs.Ytmkbjkjgemipcaa
