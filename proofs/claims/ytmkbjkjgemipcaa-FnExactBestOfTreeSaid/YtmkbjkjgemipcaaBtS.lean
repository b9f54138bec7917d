/- The worth of the indices of a tree: the model. -/
import Derived.Test.YtmkbjkjgemipcaaLkM
import Derived.Test.YtmkbjkjgemipcaaLkS
import Derived.Test.YtmkbjkjgemipcaaBt0
namespace Go.Proofs.Ytmkbjkjgemipcaa
open Go.RowKit Go.ChangeShapes Go.WideShapes

set_option maxRecDepth 100000 in
set_option maxHeartbeats 8000000 in
theorem l07Worth_any (P V : List Int) (gt g b1 o1 c1 b2 o2 c2 : Nat) (ok : TreeOk P V) : ∀ (f a : Nat) (wr : World), a < P.length → P.length ≤ a + f → TrN wr gt g b1 o1 c1 b2 o2 c2 P V →
    Calls Try.prog 73 #[.pointer (some ⟨gt, 0, none⟩), .int .i64 a, .bool (evB P a)] wr (SaysI (wT P V a) wr) := by
  intro f
  induction f with
  | zero => intro a wr h1 h2; omega
  | succ f ih =>
  intro a w ha hf hT
  have IH := Lib.hid ih
  have OK := Lib.hid ok
  have n2 := ok.l2
  have lv := ok.lv
  have HT := Lib.hid hT
  clear ih hT ok
  obtain ⟨ev, hev⟩ : ∃ ev, ev = evB P a := ⟨_, rfl⟩
  have HEV := Lib.hid hev
  rw [← hev]
  clear hev
  go_enter Try.func73, Try.ntmps73
  go_wp2_with fail
  go_at_call 71; refine (l07Children_any gt a ⟨P, V⟩ _ HT.out.tr n2).mono ?_; rintro e w1 ⟨u, rfl, iu, b1u⟩
  have T1 := Lib.hid (HT.out.kept (Turned.of_below b1u (Nat.le_refl _)))
  have HB1 := Lib.hid b1u
  obtain ⟨L, hLL⟩ : ∃ L, L = chL P a := ⟨_, rfl⟩
  have HLL := Lib.hid hLL
  simp only at iu
  rw [← hLL] at iu
  by_cases hl0 : L.length = 0
  · obtain ⟨ux, uk, rfl⟩ := iu.len
    rw [hl0]
    have HR := Lib.hid (wT_end (P := P) (V := V) ha (by rw [← hLL]; exact hl0))
    obtain ⟨bx0, bx1⟩ := T1.out.box
    have y0 := T1.out.cs2 a (by omega)
    have hav : (a : Int) < (V.length : Int) := by omega
    obtain ⟨y, hy⟩ : ∃ y, y = V.getD a 0 := ⟨_, rfl⟩
    have HY := Lib.hid hy
    rw [← hy] at y0
    clear iu b1u hl0 hLL hy lv
    go_wp2_with fail
    go_ret
    rw [HR.out, ← HY.out]
    exact ⟨rfl, HB1.out⟩
  have hlen : L.length ≤ 64 := by rw [hLL]; exact Nat.le_trans (chN_len P a _) n2
  have hR := wT_in (P := P) (V := V) OK.out.p ha (by rw [← hLL]; exact hl0)
  have HR := Lib.hid hR
  obtain ⟨_, hz | ⟨bl, ol, cl, rfl, hlp, hge, hbl, hfr, hcl⟩⟩ := iu
  · exact absurd (by rw [hz.1]; rfl) hl0
  have HCL := Lib.hid hcl
  obtain ⟨c0, hc0, hac0, hcn0, hce0⟩ := chL_at OK.out.p (a := a) (k := 0) (by rw [← hLL]; omega)
  rw [← hLL] at hc0
  rw [← HEV.out] at hce0
  have y0 : w1.cell? ⟨bl, ol, none⟩ = some (.int .i64 (c0 : Int)) := by rw [← hc0]; exact hcl 0 (by omega)
  have HC0 := Lib.hid (IH.out c0 w1 hcn0 (by omega) T1.out)
  rw [hce0] at HC0
  have HST : Hid (bestC (wT P V) ev (L.drop 0) c0 = bcT P V a) := Lib.hid (by
    show bestC (wT P V) ev L c0 = bestC (wT P V) (evB P a) (chL P a) ((chL P a).getD 0 0).toNat
    rw [← hLL, hc0, Int.toNat_natCast, HEV.out])
  have hl0i : ((L.length : Int) == 0) = false := by simpa using hl0
  have hl0j : ¬ (L.length : Int) = 0 := by omega
  have hl0k : (0 : Int) < (L.length : Int) := by omega
  clear hcl hfr b1u hLL lv hR hc0 hce0
  go_wp2_with fail
  go_at_call 73; refine HC0.out.mono ?_; rintro e w2 ⟨rfl, b2u⟩
  have HB2 := Lib.hid b2u
  clear b2u y0 HC0
  go_wp2_with fail
  go_loopg [8, 33] L.length (fun gk s8 i wr => ∃ (k b : Nat), k ≤ L.length ∧ gk + k = L.length ∧ i = .int .i64 k ∧ s8 = .int .i64 (wT P V b) ∧ Below w1.heap.size w1 wr ∧ bestC (wT P V) ev (L.drop k) b = bcT P V a)
  case atStart => exact ⟨0, c0, Nat.zero_le _, by omega, rfl, rfl, HB2.out, HST.out⟩
  case round =>
    obtain ⟨k, b, hk, hgk, rfl, rfl, hB, hG⟩ := hrel
    have HB := Lib.hid hB
    have HGE := Lib.hid hG
    clear hG
    obtain ⟨y, hy⟩ : ∃ y, wT P V b = y := ⟨_, rfl⟩
    have HY := Lib.hid hy
    by_cases hkl : k < L.length
    · obtain ⟨c, hc, hac, hcn, hce⟩ := chL_at OK.out.p (a := a) (k := k) (by rw [← HLL.out]; exact hkl)
      rw [← HLL.out] at hc
      rw [← HEV.out] at hce
      have HCE := Lib.hid hc
      have y0 : wr.cell? ⟨bl, ol + k, none⟩ = some (.int .i64 (c : Int)) := by rw [← hc, hB.cell (p := ⟨bl, ol + k, none⟩) hbl]; exact HCL.out k hkl
      have HC := Lib.hid (IH.out c wr hcn (by omega) (T1.out.kept (Turned.of_below hB (Nat.le_refl _))))
      rw [hce] at HC
      obtain ⟨x, hx⟩ : ∃ x, wT P V c = x := ⟨_, rfl⟩
      have HX := Lib.hid hx
      rw [hx] at HC
      rw [hy]
      clear hB hc hce hx hy
      go_wp2_with fail
      go_at_call 73; refine HC.out.mono ?_; rintro e w5 ⟨rfl, b5⟩
      have HB5 := Lib.hid (HB.out.trans (b5.mono HB.out.size))
      clear b5 y0 HC
      cases ev with
      | true =>
          by_cases hq : y < x
          · have HG2 : Hid (bestC (wT P V) true (L.drop (k + 1)) c = bcT P V a) := Lib.hid (by rw [← HGE.out]; exact (bestC_yes hkl HCE.out (by rw [HX.out, HY.out]; unfold bw; simpa using hq)).symm)
            go_wp2_with fail
            go_roundg (gk - 1)
            case measure => omega
            case rel => exact ⟨k + 1, c, by omega, by omega, by go_num, by rw [HX.out], HB5.out, HG2.out⟩
          · have HG2 : Hid (bestC (wT P V) true (L.drop (k + 1)) b = bcT P V a) := Lib.hid (by rw [← HGE.out]; exact (bestC_no hkl HCE.out (by rw [HX.out, HY.out]; unfold bw; simpa using hq)).symm)
            go_wp2_with fail
            go_roundg (gk - 1)
            case measure => omega
            case rel => exact ⟨k + 1, b, by omega, by omega, by go_num, by rw [HY.out], HB5.out, HG2.out⟩
      | false =>
          by_cases hq : x < y
          · have HG2 : Hid (bestC (wT P V) false (L.drop (k + 1)) c = bcT P V a) := Lib.hid (by rw [← HGE.out]; exact (bestC_yes hkl HCE.out (by rw [HX.out, HY.out]; unfold bw; simpa using hq)).symm)
            go_wp2_with fail
            go_roundg (gk - 1)
            case measure => omega
            case rel => exact ⟨k + 1, c, by omega, by omega, by go_num, by rw [HX.out], HB5.out, HG2.out⟩
          · have HG2 : Hid (bestC (wT P V) false (L.drop (k + 1)) b = bcT P V a) := Lib.hid (by rw [← HGE.out]; exact (bestC_no hkl HCE.out (by rw [HX.out, HY.out]; unfold bw; simpa using hq)).symm)
            go_wp2_with fail
            go_roundg (gk - 1)
            case measure => omega
            case rel => exact ⟨k + 1, b, by omega, by omega, by go_num, by rw [HY.out], HB5.out, HG2.out⟩
    · obtain rfl : k = L.length := by omega
      have HE : Hid (wT P V b = wT P V a) := Lib.hid (by rw [HR.out, ← HGE.out, bestC_end rfl])
      have HF := Lib.hid (HB1.out.trans (hB.mono HB1.out.size))
      rw [hy]
      clear hB hy
      go_wp2_with fail
      go_ret
      rw [← HE.out, HY.out]
      exact ⟨rfl, HF.out⟩
end Go.Proofs.Ytmkbjkjgemipcaa
