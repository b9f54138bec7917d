/- How long a tour is: the program's side. -/
import Derived.Test.YtknonlbbakbpiaaCitI
import Derived.Test.YtknonlbbakbpiaaTourS
namespace Go.Proofs.Ytknonlbbakbpiaa
open Go.RowKit Go.ChangeShapes Go.WideShapes

/-- The city before a place, round about. -/
def preN (T : List Int) (n : Nat) : Nat → Nat
  | 0 => tN T (n - 1)
  | k + 1 => tN T k
def longI (L T : List Int) (n : Nat) : Nat → Int
  | 0 => 0
  | k + 1 => longI L T n k + atW L n (preN T n k) (tN T k)
theorem longI_up {L T : List Int} {n : Nat} : ∀ k, k + 1 ≤ n → longI L T n (k + 1) = atW L n (tN T (n - 1)) (tN T 0) + longT L T n k
  | 0, _ => by simp [longI, longT, preN]
  | k + 1, hk => by
    have ih := longI_up (L := L) (T := T) (n := n) k (by omega)
    rw [longI, ih, longT, Nat.mod_eq_of_lt (by omega), preN]
    omega
theorem longI_all {L T : List Int} {n : Nat} (h : 1 ≤ n) : longI L T n n = longT L T n n := by
  obtain ⟨k, rfl⟩ : ∃ k, n = k + 1 := ⟨n - 1, by omega⟩
  rw [longI_up k (Nat.le_refl _), longT, Nat.mod_self, Nat.add_sub_cancel]
  omega
theorem preN_in {T : List Int} {n : Nat} (ht : TourOk T n) (h : 1 ≤ n) : ∀ k, k ≤ n → preN T n k < n
  | 0, _ => (ht.inn _ (by omega)).2
  | k + 1, hk => (ht.inn k (by omega)).2
theorem longI_in {L T : List Int} {n : Nat} (h : CityOk L n) (ht : TourOk T n) : ∀ k, k ≤ n → 0 ≤ longI L T n k ∧ longI L T n k ≤ 1000 * (k : Int)
  | 0, _ => by simp [longI]
  | k + 1, hk => by
    have ih := longI_in h ht k (by omega)
    have hw := h.inn _ _ (preN_in ht h.n1 k (by omega)) (ht.inn k (by omega)).2
    unfold longI
    omega
set_option maxRecDepth 100000 in
set_option maxHeartbeats 8000000 in
theorem cityLong_any (n : Nat) (v pv u : Value) (L T : List Int) (w : World) (hv : IL w v L) (hp : IL w pv (List.replicate n 0)) (hu : IL w u T) (h : CityOk L n) (ht : TourOk T n) :
    Calls Try.prog 145 #[.agg #[.int .i64 n, v, pv], u] w (SaysI (longT L T n n) w) := by
  have n1 := h.n1
  have n2 := h.n2
  have tl := ht.len
  have HW : Hid (∀ W, Below w.heap.size w W → ∀ i j, i < n → j < n → Calls Try.prog 191 #[.agg #[.int .i64 n, v, pv], .int .i64 i, .int .i64 j] W (SaysI (atW L n i j) W)) := Lib.hid fun W hb i j hi hj => by
    have h2 := way_any n v pv L (List.replicate n 0) i j W (VL.below hv hb (Nat.le_refl _)) (VL.below hp hb (Nat.le_refl _)) h.n2 h.sq (List.length_replicate ..) hi hj (h.inn i j hi hj) (fun a _ => by rw [rep0]; omega)
    rw [rep0, rep0, Int.add_zero, Int.add_zero] at h2
    exact h2
  obtain ⟨ao, cap, rfl⟩ := hv.long
  obtain ⟨ao3, cap3, rfl⟩ := hp.long
  rcases hu with ⟨hz, -⟩ | ⟨b2, off2, cap2, rfl, hpos2, hbl2, hcell2⟩
  · rw [hz] at tl; simp at tl; omega
  rw [tl]
  have HOK := Lib.hid h
  have HT := Lib.hid ht
  rw [List.length_replicate] at HW ⊢
  have HC2 : Hid (∀ W, Below w.heap.size w W → ∀ i, i < n → W.cell? ⟨b2, off2 + i, none⟩ = some (.int .i64 (tN T i : Nat))) := Lib.hid fun W hb i hi => by
    rw [hb.cell (p := ⟨b2, off2 + i, none⟩) hbl2, ← (ht.inn i hi).1]
    exact hcell2 i (by omega)
  have BX0 := Lib.hid (Box3.mk' w (.int .i64 n) (.slice ao L.length cap) (.slice ao3 n cap3) 106)
  obtain ⟨Q, hQ⟩ : ∃ Q, n = Q + 1 := ⟨n - 1, by omega⟩
  have q1 : IntKind.i64.wrap ((n : Int) - 1) = (Q : Int) := by rw [show (n : Int) - 1 = (Q : Int) by omega]; exact IntWalk.i64_in _ (by omega)
  have q2 : (Q : Int) < (n : Int) := by omega
  have q3 : (n : Int) - 1 = (Q : Int) := by omega
  have x0 := HC2.out _ (below_alloc w (.cells #[.int .i64 n, .slice ao L.length cap, .slice ao3 n cap3] 106)) Q (by omega)
  rw [show tN T Q = preN T n 0 by rw [hQ]; rfl] at x0
  generalize hp0 : preN T n 0 = p0 at x0
  have HP0 := Lib.hid hp0
  clear hcell2 h ht hv hp hp0 hQ
  go_enter Try.func145, Try.ntmps145
  go_wp2_with fail
  go_quiet (fail)
  go_wp2_with fail
  clear x0
  go_loopg [5, 6, 17] n (fun gk s5 s6 s17 wr => ∃ k : Nat, k ≤ n ∧ gk + k = n ∧ s5 = .int .i64 (longI L T n k) ∧ s6 = .int .i64 (preN T n k : Nat) ∧ s17 = .int .i64 k ∧ Below w.heap.size w wr ∧ Box3 wr w.heap.size (.int .i64 n) (.slice ao L.length cap) (.slice ao3 n cap3))
  case atStart => exact ⟨0, Nat.zero_le _, by omega, rfl, by rw [HP0.out], rfl, below_drewN (below_alloc w _) _, BX0.out.keep (below_drewN (Below.refl _ _) _) BX0.out.lt⟩
  case round =>
    obtain ⟨k, hk, hgk, rfl, rfl, rfl, hB, hX⟩ := hrel
    have HB := Lib.hid hB
    have HX := Lib.hid hX
    clear hB hX
    have hs := longI_in HOK.out HT.out k hk
    by_cases hlt : k < n
    · have x1 := HC2.out wr HB.out k hlt
      have hpn := preN_in HT.out n1 k hk
      have hcn := (HT.out.inn k hlt).2
      have CALL := Lib.hid (HW.out wr HB.out _ _ hpn hcn)
      have hw := HOK.out.inn _ _ hpn hcn
      have HN : Hid (longI L T n (k + 1) = longI L T n k + atW L n (preN T n k) (tN T k)) := Lib.hid rfl
      have HP : Hid (preN T n (k + 1) = tN T k) := Lib.hid rfl
      generalize atW L n (preN T n k) (tN T k) = z at CALL hw HN
      generalize preN T n k = p at CALL hpn
      generalize tN T k = c at x1 CALL hcn HP
      generalize longI L T n k = s at hs HN
      obtain ⟨s1, s2⟩ := hs
      obtain ⟨z1, z2⟩ := hw
      have hwz : IntKind.i64.wrap (s + z) = s + z := IntWalk.i64_in _ (by omega)
      obtain ⟨c0, c1, c2⟩ := HX.out
      go_wp2_with fail
      clear c0 c1 c2
      go_at_call 191; refine (CALL.out).mono ?_; rintro e w2 ⟨rfl, b⟩
      have HB2 := Lib.hid (HB.out.trans (b.mono HB.out.size))
      have HX2 := Lib.hid (HX.out.keep b HX.out.lt)
      clear b
      go_wp2_with fail
      go_roundg (gk - 1)
      case measure => omega
      case rel => exact ⟨k + 1, by omega, by omega, by first | exact vintS HN.out.symm | exact vintS (hwz.trans HN.out.symm), by rw [HP.out], by go_num, HB2.out, HX2.out⟩
    · obtain rfl : k = n := by omega
      have HE : Hid (longI L T k k = longT L T k k) := Lib.hid (longI_all n1)
      generalize hz : longI L T k k = z at HE
      generalize preN T k k = p
      clear hz
      go_wp2_with fail
      go_ret
      exact ⟨ret_int HE.out, HB.out⟩
end Go.Proofs.Ytknonlbbakbpiaa
