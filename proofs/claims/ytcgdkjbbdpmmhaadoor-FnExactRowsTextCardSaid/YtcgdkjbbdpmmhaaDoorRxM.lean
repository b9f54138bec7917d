/- The texts of rows: the model. -/
import Derived.Test.YtcgdkjbbdpmmhaaDoorRx0
import Derived.Test.YtcgdkjbbdpmmhaaDoorDcS
import Derived.Test.YtcgdkjbbdpmmhaaDoorBox
import Derived.Deep.RegionHeld3
namespace Go.Proofs.YtcgdkjbbdpmmhaaDoor
open Go.RowKit Go.ChangeShapes Go.WideShapes

set_option maxRecDepth 100000 in
set_option maxHeartbeats 8000000 in
theorem l08Rows_any (g : Nat) (s1 s2 s3 : Value) (R : Rw) (w : World) (h : RP w g s1 s2 s3 R) (hF : FitR R) (t : okR R = true) :
    Calls Tryd.prog 50 #[.pointer (some ⟨g, 0, none⟩)] w (SaysS (rtK R 3) w) := by
  obtain ⟨c0, c1, c2, c3, r1, r2, r3⟩ := h
  obtain ⟨hl1, hl2, hl3, hv1, hv2⟩ := rt_n t
  have KE : Hid (Lib.itoa R.vars ++ [59] ++ nxtL R.N ++ [59] ++ nxtL R.B ++ [59] ++ nxtL R.G = rtK R 3) := Lib.hid (by
    show _ = ((Lib.itoa R.vars ++ ([59] ++ nxtL R.N)) ++ ([59] ++ nxtL R.B)) ++ ([59] ++ nxtL R.G)
    simp only [List.append_assoc])
  have n0 := itoa_len (n := R.vars) (by omega)
  have n1 := nxtL_len R.N
  have n2 := nxtL_len R.B
  have n3 := nxtL_len R.G
  have f1 := few_of hF.2.2.2.1
  have f2 := few_of hF.2.2.2.2.1
  have f3 := few_of hF.2.2.2.2.2
  obtain ⟨a1, k1, rfl⟩ := SL.longN r1
  obtain ⟨a2, k2, rfl⟩ := SL.longN r2
  obtain ⟨a3, k3, rfl⟩ := SL.longN r3
  have DC := Lib.hid (fun W => l01Dec_any R.vars W (by omega) (by omega))
  have N1 := Lib.hid (fun W h => l01NText_any (.slice a1 R.N.length k1) R.N W h (by omega) f1)
  have N2 := Lib.hid (fun W h => l01NText_any (.slice a2 R.B.length k2) R.B W h (by omega) f2)
  have N3 := Lib.hid (fun W h => l01NText_any (.slice a3 R.G.length k3) R.G W h (by omega) f3)
  have G1 := Lib.hid r1
  have G2 := Lib.hid r2
  have G3 := Lib.hid r3
  have X0 : Hid (Box4 w g (.int .i64 R.vars) (.slice a1 R.N.length k1) (.slice a2 R.B.length k2) (.slice a3 R.G.length k3)) := Lib.hid ⟨c0, c1, c2, c3⟩
  rw [← KE.out]
  generalize Lib.itoa R.vars = D0 at *
  generalize nxtL R.N = D1 at *
  generalize nxtL R.B = D2 at *
  generalize nxtL R.G = D3 at *
  have A1 := run_bs_addN D0 [59] (by show _ + 1 ≤ _; omega)
  have A2 := run_bs_addN (D0 ++ [59]) D1 (by simp only [List.length_append]; show _ + 1 + _ ≤ _; omega)
  have A3 := run_bs_addN (D0 ++ [59] ++ D1) [59] (by simp only [List.length_append]; show _ + 1 + _ + 1 ≤ _; omega)
  have A4 := run_bs_addN (D0 ++ [59] ++ D1 ++ [59]) D2 (by simp only [List.length_append]; show _ + 1 + _ + 1 + _ ≤ _; omega)
  have A5 := run_bs_addN (D0 ++ [59] ++ D1 ++ [59] ++ D2) [59] (by simp only [List.length_append]; show _ + 1 + _ + 1 + _ + 1 ≤ _; omega)
  have A6 := run_bs_addN (D0 ++ [59] ++ D1 ++ [59] ++ D2 ++ [59]) D3 (by simp only [List.length_append]; show _ + 1 + _ + 1 + _ + 1 + _ ≤ _; omega)
  generalize hE6 : D0 ++ [59] ++ D1 ++ [59] ++ D2 ++ [59] ++ D3 = E6 at *
  generalize D0 ++ [59] ++ D1 ++ [59] ++ D2 ++ [59] = E5 at *
  generalize D0 ++ [59] ++ D1 ++ [59] ++ D2 = E4 at *
  generalize D0 ++ [59] ++ D1 ++ [59] = E3 at *
  generalize D0 ++ [59] ++ D1 = E2 at *
  generalize D0 ++ [59] = E1 at *
  unfold bsOf at A1 A2 A3 A4 A5 A6
  unfold SaysS at *
  generalize (⟨D0.toArray⟩ : ByteArray) = d0 at *
  generalize (⟨D1.toArray⟩ : ByteArray) = d1 at *
  generalize (⟨D2.toArray⟩ : ByteArray) = d2 at *
  generalize (⟨D3.toArray⟩ : ByteArray) = d3 at *
  generalize (⟨E1.toArray⟩ : ByteArray) = e1 at *
  generalize (⟨E2.toArray⟩ : ByteArray) = e2 at *
  generalize (⟨E3.toArray⟩ : ByteArray) = e3 at *
  generalize (⟨E4.toArray⟩ : ByteArray) = e4 at *
  generalize (⟨E5.toArray⟩ : ByteArray) = e5 at *
  generalize (⟨E6.toArray⟩ : ByteArray) = e6 at *
  have q0 : _ ∧ _ ∧ _ ∧ _ := ⟨c0, c1, c2, c3⟩
  have lg : g < w.heap.size := cell_block c0
  clear r1 r2 r3 f1 f2 f3 n0 n1 n2 n3 hl1 hl2 hl3 hv1 hv2 KE hF t hE6
  go_enter Tryd.func50, Tryd.ntmps50
  go_wp2_with fail
  go_region_held3 (fun w' => w'.cell? ⟨g, 0, none⟩ = some (.int .i64 R.vars) ∧ w'.cell? ⟨g, 1, none⟩ = some (.slice a1 R.N.length k1) ∧ w'.cell? ⟨g, 2, none⟩ = some (.slice a2 R.B.length k2) ∧ w'.cell? ⟨g, 3, none⟩ = some (.slice a3 R.G.length k3)) (first | exact q0 | exact q1 | exact q2 | exact q3 | exact q4) (first
    | (go_at_call 44; refine (N3.out _ (G3.out.below B3.out (Nat.le_refl _))).mono ?_; rintro e w4 ⟨rfl, b⟩; have B4 := Lib.hid (B3.out.trans (b.mono B3.out.size)); have X4 := Lib.hid (X0.out.keep B4.out lg); have q4 : _ ∧ _ ∧ _ ∧ _ := ⟨X4.out.c0, X4.out.c1, X4.out.c2, X4.out.c3⟩; clear b)
    | (go_at_call 44; refine (N2.out _ (G2.out.below B2.out (Nat.le_refl _))).mono ?_; rintro e w3 ⟨rfl, b⟩; have B3 := Lib.hid (B2.out.trans (b.mono B2.out.size)); have X3 := Lib.hid (X0.out.keep B3.out lg); have q3 : _ ∧ _ ∧ _ ∧ _ := ⟨X3.out.c0, X3.out.c1, X3.out.c2, X3.out.c3⟩; clear b)
    | (go_at_call 44; refine (N1.out _ (G1.out.below B1.out (Nat.le_refl _))).mono ?_; rintro e w2 ⟨rfl, b⟩; have B2 := Lib.hid (B1.out.trans (b.mono B1.out.size)); have X2 := Lib.hid (X0.out.keep B2.out lg); have q2 : _ ∧ _ ∧ _ ∧ _ := ⟨X2.out.c0, X2.out.c1, X2.out.c2, X2.out.c3⟩; clear b)
    | (go_at_call 65; refine (DC.out _).mono ?_; rintro e w1 ⟨rfl, b⟩; have B1 := Lib.hid ((below_drewN (Below.refl w.heap.size w) 1).trans b); have X1 := Lib.hid (X0.out.keep B1.out lg); have q1 : _ ∧ _ ∧ _ ∧ _ := ⟨X1.out.c0, X1.out.c1, X1.out.c2, X1.out.c3⟩; clear b))
  go_wp2_with fail
  go_ret
  exact ⟨rfl, B4.out⟩
theorem specRowsText_at (v : Value) (R : Rw) (w : World) (hv : RV w v R) (hn : R.size ≤ 1048576) (hF : FitR R) :
    Calls Tryd.prog 19 #[v] w (SaysTB (rtD R) (okR R) w) := by
  have HB := Lib.hid (below_alloc w)
  obtain ⟨s1, s2, s3, rfl, g1, g2, g3⟩ := hv
  have HP : Hid (RP (w.alloc (.cells #[.int .i64 R.vars, s1, s2, s3] 38 (0, 0))) w.heap.size s1 s2 s3 R) := Lib.hid ⟨by go_simp, by go_simp, by go_simp, by go_simp, g1.below (HB.out _) (Nat.le_refl _), g2.below (HB.out _) (Nat.le_refl _), g3.below (HB.out _) (Nat.le_refl _)⟩
  have HPN : Hid (∀ n, RP ((w.alloc (.cells #[.int .i64 R.vars, s1, s2, s3] 38 (0, 0))).drewN n) w.heap.size s1 s2 s3 R) := Lib.hid fun n => by
    obtain ⟨c0, c1, c2, c3, r1, r2, r3⟩ := HP.out
    exact ⟨c0, c1, c2, c3, VL.drewN r1 n, VL.drewN r2 n, VL.drewN r3 n⟩
  clear g1 g2 g3
  cases t : okR R with
  | false =>
    have e : rtD R = [] := by unfold rtD; rw [t]; rfl
    rw [e]
    have IS := Lib.hid (fun g s1 s2 s3 W h => t ▸ l02Is_any g s1 s2 s3 R W h hn)
    clear t e hF
    go_enter Tryd.func19, Tryd.ntmps19
    go_wp2_with fail
    go_at_call 49; refine (IS.out _ s1 s2 s3 _ HP.out).mono ?_; rintro e w' ⟨rfl, n1, rfl⟩
    go_wp2_with fail
    go_ret2
    exact ⟨rfl, below_drewN (HB.out _) _⟩
  | true =>
    have e : rtD R = rtK R 3 := by unfold rtD; rw [t]; rfl
    rw [e]
    have IS := Lib.hid (fun g s1 s2 s3 W h => t ▸ l02Is_any g s1 s2 s3 R W h hn)
    have RW := Lib.hid (fun g s1 s2 s3 W h => l08Rows_any g s1 s2 s3 R W h hF t)
    generalize rtK R 3 = D at *
    clear t e hF
    go_enter Tryd.func19, Tryd.ntmps19
    go_wp2_with fail
    go_at_call 49; refine (IS.out _ s1 s2 s3 _ HP.out).mono ?_; rintro e w' ⟨rfl, n1, rfl⟩
    go_wp2_with fail
    go_at_call 50; refine (RW.out _ s1 s2 s3 _ (HPN.out _)).mono ?_; rintro e w3 ⟨rfl, b⟩
    have B3 := Lib.hid ((below_drewN (HB.out _) n1).trans (b.mono (below_drewN (HB.out _) n1).size))
    clear b
    go_wp2_with fail
    go_ret2
    exact ⟨rfl, B3.out⟩
end Go.Proofs.YtcgdkjbbdpmmhaaDoor
