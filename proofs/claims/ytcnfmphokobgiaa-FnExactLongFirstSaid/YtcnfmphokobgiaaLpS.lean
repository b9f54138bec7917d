/- Jobs put on the machines that are free first: the model. -/
import Derived.Test.YtcnfmphokobgiaaLp0
import Derived.Test.YtcnfmphokobgiaaJbS
import Derived.Test.YtcnfmphokobgiaaRows2
import Derived.Test.YtcnfmphokobgiaaMax
import Derived.BigRegion
import Derived.Deep.RegionWith
namespace Go.Proofs.Ytcnfmphokobgiaa
open Go.RowKit Go.ChangeShapes Go.WideShapes

set_option maxRecDepth 100000 in
set_option maxHeartbeats 8000000 in
theorem l06List_any (v u : Value) (Z : List Ac) (T : List Int) (m : Nat) (w : World) (hv : AV w v Z) (hu : IL w u T) (h : JobsOk Z) (ht : TourOk T Z.length) (m1 : 1 ≤ m) (m2 : m ≤ 8) :
    Calls Try.prog 60 #[v, u, .int .i64 m] w (SaysJI (lpP Z T m Z.length) (lpM Z T m Z.length) w) := by
  obtain ⟨i0, hi, hz0, hz1, hz2⟩ := info_parts Try.infoI
  have n1 := h.n1
  have n2 := h.n2
  have HJ := Lib.hid h
  have HT := Lib.hid ht
  have htl := ht.len
  rcases hv with ⟨hz, -⟩ | ⟨b, off, cap, rfl, hpos, hbl, hcell⟩
  · rw [hz] at n1; simp at n1
  rcases hu with ⟨hz, -⟩ | ⟨b2, off2, cap2, rfl, hpos2, hbl2, hcell2⟩
  · rw [hz] at htl; simp at htl; omega
  have HC := Lib.hid hcell
  have HC2 := Lib.hid hcell2
  have HL := Lib.hid htl
  rw [htl]
  have HFL := Lib.hid (lpF_len Z T m)
  have HPL := Lib.hid (lpP_len Z T m)
  clear hcell hcell2 htl h ht hpos2
  go_enter Try.func60, Try.ntmps60
  go_wp2_with (at_make; first | (refine wpList_make_full _ rfl _ _ 24 rfl w.heap.size 2 i0 (.int .i64 0) 1 Try.underlying24 hi hz0 hz1 _ _ _ _ m rfl rfl rfl rfl (by rw [hz2]; omega) (by unfold maxLen; omega) (Nat.le_refl _) ?_; intro w2 hown hgrow; have R1 : Hid (RowAt w w.heap.size (lpF Z T m 0) w2) := Lib.hid ⟨(Below.refl w.heap.size w).grown hgrow (Nat.le_refl _) (fun g hg => by cases hg), (hown.lt _ rfl).2, Nat.le_refl _, Arr.made_i hown⟩; clear hown hgrow) | (refine wpList_make_full _ rfl _ _ 24 rfl w2.heap.size 2 i0 (.int .i64 0) 1 Try.underlying24 hi hz0 hz1 _ _ _ _ Z.length rfl rfl rfl rfl (by rw [hz2]; omega) (by unfold maxLen; omega) (Nat.le_refl _) ?_; intro w3 hown hgrow; have b3 := (Below.refl w2.heap.size w2).grown hgrow (Nat.le_refl _) (fun g hg => by cases hg); have hA : Hid (RowsAt w w.heap.size w2.heap.size (lpF Z T m 0) (lpP Z T m 0) w3) := Lib.hid ⟨R1.out.below.trans (b3.mono R1.out.below.size), R1.out.arr.below b3 R1.out.lt, Arr.made_i hown, Nat.le_refl _, R1.out.below.size, Nat.lt_of_lt_of_le R1.out.lt b3.size, (hown.lt _ rfl).2, by have := R1.out.lt; omega⟩; clear hown hgrow b3 R1))
  generalize w2.heap.size = B2 at hA ⊢
  go_loopg [10, 11] Z.length (fun gk s i wr => ∃ k : Nat, k ≤ Z.length ∧ gk + k = Z.length ∧ i = .int .i64 k ∧ s = .int .i64 (lpM Z T m k) ∧ RowsAt w w.heap.size B2 (lpF Z T m k) (lpP Z T m k) wr)
  case atStart => exact ⟨0, Nat.zero_le _, by omega, rfl, rfl, hA.out⟩
  case round =>
    clear hA
    obtain ⟨k, hk, hgk, rfl, rfl, hat⟩ := hrel
    have HA := Lib.hid hat
    clear hat
    by_cases hlt : k < Z.length
    · have HFI := Lib.hid (lpF_in HJ.out HT.out m k hk)
      have HMI := Lib.hid (lpM_in HJ.out HT.out m k hk)
      have HSF : Hid (lpF Z T m (k + 1) = (lpF Z T m k).set (aminF (lpF Z T m k) m) ((lpF Z T m k).getD (aminF (lpF Z T m k) m) 0 + (Z.getD (tN T k) zA).f)) := Lib.hid rfl
      have HSP : Hid (lpP Z T m (k + 1) = (lpP Z T m k).set (tN T k) ((aminF (lpF Z T m k) m : Nat) : Int)) := Lib.hid rfl
      have HSM : Hid (lpM Z T m (k + 1) = max (lpM Z T m k) ((lpF Z T m k).getD (aminF (lpF Z T m k) m) 0 + (Z.getD (tN T k) zA).f)) := Lib.hid rfl
      have HFLk := Lib.hid (HFL.out k)
      have HPLk := Lib.hid (HPL.out k)
      generalize lpF Z T m k = F at HA HFI HSF HSP HSM HFLk
      generalize lpP Z T m k = P at HA HSP HPLk
      generalize lpM Z T m k = mm at HMI HSM
      obtain ⟨wo, rfl⟩ : ∃ x : World, x = wr := ⟨_, rfl⟩
      obtain ⟨g2, rfl⟩ : ∃ x : Nat, x = gk := ⟨_, rfl⟩
      go_wp2_with fail
      go_loopg [12, 13] m (fun gk s i wr => ∃ p : Nat, 1 ≤ p ∧ p ≤ m ∧ gk + p = m + 1 ∧ i = .int .i64 p ∧ s = .int .i64 (aminF F p) ∧ RowsAt w w.heap.size B2 F P wr)
      case atStart => exact ⟨1, Nat.le_refl _, m1, by omega, rfl, by rw [aminF_one]; rfl, HA.out⟩
      case round =>
        clear HA
        obtain ⟨p, hp1, hp, hgp, rfl, rfl, hat⟩ := hrel
        have HA := Lib.hid hat
        clear hat
        by_cases hlp : p < m
        · have ha := Lib.hid (aminF_lt F (p - 1))
          have hal : aminF F p < m := by have := ha.out; rw [show p - 1 + 1 = p by omega] at this; omega
          have y1 := HA.out.one.cell0 (i := p) (by rw [HFLk.out]; exact hlp)
          have y2 := HA.out.one.cell0 (i := aminF F p) (by rw [HFLk.out]; exact hal)
          have HU : Hid (aminF F (p + 1) = if F.getD p 0 < F.getD (aminF F p) 0 then p else aminF F p) := Lib.hid rfl
          have lpm : (p : Int) < (m : Int) := by omega
          generalize F.getD p 0 = x at y1 HU
          generalize F.getD (aminF F p) 0 = y at y2 HU
          generalize aminF F p = a at y2 HU hal
          have lam : (a : Int) < (m : Int) := by omega
          clear ha
          by_cases hq : x < y
          · have HU2 := Lib.hid (HU.out.trans (by rw [if_pos hq]))
            go_wp2_with fail
            go_quiet (fail)
            go_wp2_with fail
            go_roundg (gk - 1)
            case measure => omega
            case rel => exact ⟨p + 1, by omega, by omega, by omega, by go_num, by rw [HU2.out], HA.out.drew _⟩
          · have HU2 := Lib.hid (HU.out.trans (by rw [if_neg hq]))
            go_wp2_with fail
            go_quiet (fail)
            go_wp2_with fail
            go_roundg (gk - 1)
            case measure => omega
            case rel => exact ⟨p + 1, by omega, by omega, by omega, by go_num, by rw [HU2.out], HA.out.drew _⟩
        · obtain rfl : p = m := by omega
          have hal := aminF_in F m1
          have x1 := (show wr.cell? ⟨b2, off2 + k, none⟩ = some (.int .i64 (T.getD k 0)) by rw [HA.out.below.cell (p := ⟨b2, off2 + k, none⟩) hbl2]; exact HC2.out k (by rw [HL.out]; exact hlt))
          obtain ⟨he, hc⟩ := HT.out.inn k hlt
          rw [he] at x1
          have a1 := ((HC.out (tN T k) hc).keep HA.out.below hbl).c0
          have hf := HJ.out.ok _ hc
          have f1 := hf.f1
          have f2 := hf.f2
          have hFa := HFI.out (aminF F p)
          have y1 := HA.out.one.cell0 (i := aminF F p) (by rw [HFLk.out]; exact hal)
          have fr1 := HA.out.one.free (aminF F p)
          obtain ⟨z, hz⟩ := HA.out.two.cell (i := tN T k) (by rw [HPLk.out]; exact hc)
          rw [Nat.zero_add] at hz
          have fr2 := HA.out.two.free (tN T k)
          have HLP : Hid (tN T k < P.length) := Lib.hid (by rw [HPLk.out]; exact hc)
          have HLF : Hid (aminF F p < F.length) := Lib.hid (by rw [HFLk.out]; exact hal)
          have lc : (tN T k : Int) < (Z.length : Int) := by omega
          have W2 := Lib.hid (HA.out.set2 HLP.out ((aminF F p : Nat) : Int))
          rw [← HSP.out] at W2
          have la : (aminF F p : Int) < (p : Int) := by omega
          have HX : Hid (w.cell? ⟨b2, off2 + k, none⟩ = some (.int .i64 (tN T k : Int))) := Lib.hid (by rw [← he]; exact HC2.out k (by rw [HL.out]; exact hlt))
          clear he hf hFa y1 fr1 a1
          have HFI2 := Lib.hid (HFI.out (aminF F p))
          have HC0 := Lib.hid (HC.out (tN T k) hc)
          generalize aminF F p = a at W2 HLF HSF HSM hal la HFI2
          generalize tN T k = c at x1 hz fr2 HSF HSM lc hc W2 HLP HC0 f1 f2 HX
          go_wp2_with fail
          obtain ⟨ws, hws⟩ : ∃ x, x = wr.setCell ⟨B2, c, none⟩ (.int .i64 (a : Int)) := ⟨_, rfl⟩
          rw [← hws] at W2 ⊢
          clear hws hz fr2 x1
          have x1 : ws.cell? ⟨b2, off2 + k, none⟩ = some (.int .i64 (c : Int)) := by rw [W2.out.below.cell (p := ⟨b2, off2 + k, none⟩) hbl2]; exact HX.out
          have a1 := (HC0.out.keep W2.out.below hbl).c0
          have y1 := W2.out.one.cell0 (i := a) (by rw [HFLk.out]; exact hal)
          have fr1 := W2.out.one.free a
          have W3 := Lib.hid fun q => (W2.out.drew q).set1 (i := a) (by rw [HFLk.out]; exact hal) (F.getD a 0 + (Z.getD c zA).f)
          rw [← HSF.out] at W3
          obtain ⟨h3, h4⟩ := HFI2.out
          generalize F.getD a 0 = x at y1 HSM W3 h3 h4
          generalize (Z.getD c zA).f = f at a1 HSM W3 f1 f2
          have ws1 : IntKind.i64.wrap (x + f) = x + f := IntWalk.i64_in _ (by omega)
          go_region_with (fail)
          all_goals
            go_wp2_with fail
            go_at_call 67; refine (l00Max_is _ _ _).mono ?_; rintro e wq ⟨rfl, rfl⟩
            go_wp2_with fail
            go_roundg (g2 - 1)
            case measure => omega
            case rel => exact ⟨k + 1, by omega, by omega, by go_num, by rw [HSM.out], W3.out _⟩
    · obtain rfl : k = Z.length := by omega
      have hs := SI.wide (HA.out.two.si HA.out.ge2 HA.out.lt2) (lo' := w.heap.size) (Nat.le_refl _) (Nat.le_refl _) (Nat.le_refl _)
      rw [HPL.out] at hs
      have I3 := Lib.hid hs
      clear hs
      go_wp2_with fail
      go_ret2
      exact ⟨_, rfl, I3.out, HA.out.below⟩
end Go.Proofs.Ytcnfmphokobgiaa
