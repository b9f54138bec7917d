/- When jobs end in an order: the model. -/
import Derived.Test.YtgiijkbgbpohoaaJbS
import Derived.Test.YtgiijkbgbpohoaaRowA
namespace Go.Proofs.Ytgiijkbgbpohoaa
open Go.RowKit Go.ChangeShapes Go.WideShapes

theorem l06Valid_any (v u : Value) (Z : List Ac) (T : List Int) (w : World) (hv : AV w v Z) (hu : IL w u T) (hn : Z.length ≤ 1048576) :
    Calls Try.prog 57 #[v, u] w (Says (jvalB Z T) w) := by
  have HV := Lib.hid hv
  have HU := Lib.hid hu
  obtain ⟨ao, cap, rfl⟩ := hv.long
  obtain ⟨ao2, cap2, rfl⟩ := hu.long
  clear hv hu
  unfold jvalB
  cases h1 : jobsB Z with
  | false =>
    have H1 := Lib.hid h1
    clear h1
    go_enter Try.func57, Try.ntmps57
    go_wp2_with fail
    go_at_call 50; refine (l06Are_is false _ Z _ HV.out hn H1.out).mono ?_; rintro e w1 ⟨rfl, m, rfl⟩
    go_wp2_with fail
    go_ret
    exact says rfl (below_drewN (Below.refl _ _) m)
  | true =>
    have H1 := Lib.hid h1
    have J := Lib.hid (jobsB_ok h1)
    clear h1
    cases h2 : tourB T Z.length with
    | false =>
      have H2 := Lib.hid h2
      clear h2
      go_enter Try.func57, Try.ntmps57
      go_wp2_with fail
      go_at_call 50; refine (l06Are_is true _ Z _ HV.out hn H1.out).mono ?_; rintro e w1 ⟨rfl, m, rfl⟩
      go_wp2_with fail
      go_at_call 87; refine (l04Tour_is false _ T Z.length _ (VL.drewN HU.out m) J.out.n1 (by have := J.out.n2; omega) H2.out).mono ?_; rintro e w2 ⟨rfl, b2⟩
      have B2 := Lib.hid (Below.undrew b2)
      clear b2
      go_wp2_with fail
      go_ret
      exact says rfl B2.out
    | true =>
      have H2 := Lib.hid h2
      clear h2
      go_enter Try.func57, Try.ntmps57
      go_wp2_with fail
      go_at_call 50; refine (l06Are_is true _ Z _ HV.out hn H1.out).mono ?_; rintro e w1 ⟨rfl, m, rfl⟩
      go_wp2_with fail
      go_at_call 87; refine (l04Tour_is true _ T Z.length _ (VL.drewN HU.out m) J.out.n1 (by have := J.out.n2; omega) H2.out).mono ?_; rintro e w2 ⟨rfl, b2⟩
      have B2 := Lib.hid (Below.undrew b2)
      clear b2
      go_wp2_with fail
      go_ret
      exact says rfl B2.out
theorem l06Valid_is (t : Bool) (v u : Value) (Z : List Ac) (T : List Int) (w : World) (hv : AV w v Z) (hu : IL w u T) (hn : Z.length ≤ 1048576) (ht : jvalB Z T = t) :
    Calls Try.prog 57 #[v, u] w (Says t w) := by subst ht; exact l06Valid_any v u Z T w hv hu hn
/-- A row of the call's own, from its first block behind the world on. -/
def RowOf (Z : List Int) (w : World) (e : Ending) (w' : World) : Prop := ∃ B, e = .returned (.slice (some ⟨B, 0, none⟩) Z.length Z.length) ∧ RowAt w B Z w'
set_option maxRecDepth 100000 in
set_option maxHeartbeats 4000000 in
theorem l06Ends_any (v u : Value) (Z : List Ac) (T : List Int) (w : World) (hv : AV w v Z) (hu : IL w u T) (h : JobsOk Z) (ht : TourOk T Z.length) :
    Calls Try.prog 58 #[v, u] w (RowOf (endL Z T Z.length) w) := by
  obtain ⟨i0, hi, hz0, hz1, hz2⟩ := info_parts Try.infoI
  have n1 := h.n1
  have n2 := h.n2
  have HJ := Lib.hid h
  have HT := Lib.hid ht
  have htl := ht.len
  rcases hv with ⟨hz, -⟩ | ⟨b, off, cap, rfl, hpos, hbl, hcell⟩
  · rw [hz] at n1; simp at n1
  rcases hu with ⟨hz, -⟩ | ⟨b2, off2, cap2, rfl, hpos2, hbl2, hcell2⟩
  · rw [hz] at htl; simp at htl; omega
  have HC := Lib.hid hcell
  have HC2 := Lib.hid hcell2
  have HL := Lib.hid htl
  rw [htl]
  have HEL := Lib.hid (endL_len Z T)
  clear hcell hcell2 htl h ht hpos2
  go_enter Try.func58, Try.ntmps58
  go_wp2_with (at_make; refine wpList_make_full _ rfl _ _ 29 rfl w.heap.size 2 i0 (.int .i64 0) 1 Try.underlying29 hi hz0 hz1 _ _ _ _ Z.length rfl rfl rfl rfl (by rw [hz2]; omega) (by unfold maxLen; omega) (Nat.le_refl _) ?_; intro w2 hown hgrow; have bm := (Below.refl w.heap.size w).grown hgrow (Nat.le_refl _) (fun g hg => by cases hg); have hA := Lib.hid (show RowAt w w.heap.size (endL Z T 0) w2 from ⟨bm, (hown.lt _ rfl).2, Nat.le_refl _, Arr.made_i hown⟩); clear hown hgrow bm)
  go_loopg [6, 7] Z.length (fun gk at_ i wr => ∃ k : Nat, k ≤ Z.length ∧ gk + k = Z.length ∧ i = .int .i64 k ∧ at_ = .int .i64 (lnS Z T k) ∧ RowAt w w.heap.size (endL Z T k) wr)
  case atStart => exact ⟨0, Nat.zero_le _, by omega, rfl, rfl, hA.out⟩
  case round =>
    clear hA
    obtain ⟨k, hk, hgk, rfl, rfl, hat⟩ := hrel
    have HA := Lib.hid hat
    clear hat
    by_cases hlt : k < Z.length
    · have x1 := (show wr.cell? ⟨b2, off2 + k, none⟩ = some (.int .i64 (T.getD k 0)) by rw [HA.out.below.cell (p := ⟨b2, off2 + k, none⟩) hbl2]; exact HC2.out k (by rw [HL.out]; exact hlt))
      obtain ⟨he, hc⟩ := HT.out.inn k hlt
      rw [he] at x1
      have a1 := ((HC.out (tN T k) hc).keep HA.out.below hbl).c0
      have hf := HJ.out.ok _ hc
      have f1 := hf.f1
      have f2 := hf.f2
      obtain ⟨l1, l2⟩ := lnS_in HJ.out HT.out k (Nat.le_of_lt hlt)
      have HS : Hid (lnS Z T (k + 1) = lnS Z T k + (Z.getD (tN T k) zA).f) := Lib.hid rfl
      have HE : Hid ((endL Z T k).set (tN T k) (lnS Z T (k + 1)) = endL Z T (k + 1)) := Lib.hid rfl
      obtain ⟨y, hy⟩ := HA.out.arr.cell (i := tN T k) (by rw [HEL.out]; exact hc)
      rw [Nat.zero_add] at hy
      have hfr := HA.out.arr.free (tN T k)
      have HLT : Hid (tN T k < (endL Z T k).length) := Lib.hid (by rw [HEL.out]; exact hc)
      have lc : (tN T k : Int) < (Z.length : Int) := by omega
      clear he hf
      generalize (Z.getD (tN T k) zA).f = q at a1 HS f1 f2
      generalize lnS Z T k = s at HS l1 l2
      generalize tN T k = c at x1 a1 HE hy hfr HLT lc hc
      go_wp2_with fail
      go_roundg (gk - 1)
      case measure => omega
      case rel => exact ⟨k + 1, by omega, by omega, by go_num, by rw [HS.out], by rw [← HE.out, HS.out]; exact HA.out.set HLT.out _⟩
    · obtain rfl : k = Z.length := by omega
      go_wp2_with fail
      refine bodyPost_ret (results_tmp rfl _ _ _) rfl ?_
      exact ⟨w.heap.size, by rw [HEL.out]; rfl, HA.out⟩
end Go.Proofs.Ytgiijkbgbpohoaa
