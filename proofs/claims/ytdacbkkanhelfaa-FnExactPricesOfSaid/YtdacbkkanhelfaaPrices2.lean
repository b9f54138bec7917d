/- The prices of a table: the program's side. -/
import Derived.Test.YtdacbkkanhelfaaPrices
import Derived.Deep.RegionHeld3
namespace Go.Proofs.Ytdacbkkanhelfaa
open Go.RowKit Go.ChangeShapes Go.WideShapes

theorem sub_sl {w : World} {b off cap nv wn n : Nat} {Z : List Nat} (hl : Z.length = n) (hb : b < w.heap.size) (hn : 0 < n) (he : wn - 1 = nv + n) (hw : 1 ≤ wn) (h : ∀ i, i < n → w.cell? ⟨b, off + (nv + i), none⟩ = some (.float .f32 (Z.getD i 0))) :
    SL w (.slice (some ⟨b, off + nv, none⟩) (wn - 1 - nv) (wn + cap - nv)) Z := by
  have e1 : wn - 1 - nv = Z.length := by omega
  have e2 : wn + cap - nv = Z.length + (1 + cap) := by omega
  rw [e1, e2]
  refine Or.inr ⟨b, off + nv, 1 + cap, rfl, by omega, hb, fun i hi => ?_⟩
  rw [Nat.add_assoc]
  exact h i (by omega)
set_option maxRecDepth 100000 in
set_option maxHeartbeats 2000000 in
theorem implPricesOf_yes (v : Value) (T : Tb) (w : World) (hv : TV w v T) (oT : OKT T) (h1 : okT T = true) :
    Calls Try.prog 52 #[v] w (SaysLB (priA T T.S.length) true w) := by
  have HB := Lib.hid (below_alloc w)
  have HV := Lib.hid hv
  have H1 := Lib.hid h1
  have HT := Lib.hid (okT_ok h1)
  have v1 := HT.out.v1
  have v2 := HT.out.v2
  have n1 := HT.out.b1
  have n2 := HT.out.b2
  have hw3 := HT.out.w3
  have hw17 := HT.out.w17
  have hwd : T.wn = T.vars.toNat + T.S.length + 1 := rfl
  have HLL := Lib.hid (line_len HT.out (Nat.le_refl T.S.length))
  have HWD := Lib.hid hwd
  have HPA : Hid (∀ i, i < T.S.length → (priA T T.S.length).getD i 0 = (lineL T.N T.wn T.S.length).getD (T.vars.toNat + i) 0) := Lib.hid (fun i hi => by
    rw [lineL_at (by omega)]
    simp [priA, List.getD, hi, Tb.at])
  obtain ⟨s1, s2, rfl, g1, g2⟩ := hv
  have X0 := Lib.hid (Box3.mk' w (.int .i64 T.vars) s1 s2 51)
  have b1 : (0 : Int) ≤ T.vars := by omega
  have b2 : T.vars ≤ ((T.wn - 1 : Nat) : Int) := by omega
  clear g1 g2 h1 hwd
  go_enter Try.func52, Try.ntmps52
  go_wp2_with fail
  go_at_call 37; refine (implValidTable_is _ _ T _ (HV.out.below (HB.out _) (Nat.le_refl _)) oT H1.out).mono ?_; rintro e w1 ⟨rfl, bb⟩
  have B1 := Lib.hid ((HB.out _).trans (bb.mono (by simp)))
  have X1 := Lib.hid (X0.out.keep bb X0.out.lt)
  have L1 : w.heap.size < w1.heap.size := by have := bb.size; simp at this; omega
  clear bb X0
  obtain ⟨c0, c1, c2⟩ := X1.out
  go_wp2_with fail
  go_region_held3 (fun w' => w'.cell? ⟨w.heap.size, 0, none⟩ = some (.int .i64 T.vars) ∧ w'.cell? ⟨w.heap.size, 1, none⟩ = some s1 ∧ w'.cell? ⟨w.heap.size, 2, none⟩ = some s2) (first | exact ⟨c0, c1, c2⟩ | exact ⟨d0, d1, d2⟩ | exact ⟨f0, f1, f2⟩ | exact ⟨k0, k1, k2⟩) (first
    | (go_at_call 83; refine (gainLine_any _ T _ (HV.out.below (show Below w.heap.size w w1.drew from below_drewN B1.out 1) (Nat.le_refl _)) HT.out).mono ?_; rintro e w3 ⟨u, rfl, hu, b⟩; have bz := (below_drewN (Below.refl w1.heap.size w1) 1).trans b; have H3 := Lib.hid (B1.out.trans (bz.mono B1.out.size)); have X3 := Lib.hid (X1.out.keep bz X1.out.lt); have HU := Lib.hid hu; clear hu b bz; obtain ⟨d0, d1, d2⟩ := X3.out; rcases HU.out with ⟨hz, -⟩ | ⟨gb, goff, gcap, rfl, -, hgb, hgc⟩; (exfalso; rw [← HLL.out, hz] at hw3; simp at hw3); rw [HLL.out]; have hq : T.wn - 1 ≤ T.wn + gcap := (by omega); have hq2 : ((T.wn - 1 : Nat) : Int) ≤ ((T.wn + gcap : Nat) : Int) := (by omega); have hq3 : ((T.wn - 1 : Nat) : Int) ≤ (T.wn : Int) + (gcap : Int) := (by omega); have hne : ¬ T.wn + gcap = T.vars.toNat := (by have := HWD.out; omega))
    | (go_at_call 82; refine (lastOf_ok _ T _ (HV.out.below H3.out (Nat.le_refl _)) HT.out).mono ?_; rintro e w4 ⟨rfl, b⟩; have H4 := Lib.hid (H3.out.trans (b.mono H3.out.size)); have X4 := Lib.hid (X3.out.keep b X3.out.lt); have hgb4 : gb < w4.heap.size := Nat.lt_of_lt_of_le hgb b.size; have HS := Lib.hid (sub_sl (w := w4) (b := gb) (off := goff) (cap := gcap) (nv := T.vars.toNat) (wn := T.wn) (n := T.S.length) (Z := priA T T.S.length) (priA_len _ _) hgb4 (by omega) (by have := HWD.out; omega) (by omega) (fun i hi => by rw [b.cell (p := ⟨gb, goff + (T.vars.toNat + i), none⟩) hgb, hgc _ (by rw [HLL.out, HWD.out]; omega), HPA.out i hi])); clear b; obtain ⟨f0, f1, f2⟩ := X4.out)
    | (go_at_call 96; refine (cloneF_any _ (priA T T.S.length) _ HS.out (by rw [priA_len]; omega) (by rw [priA_len]; omega)).mono ?_; rintro e w5 ⟨u, rfl, hu, b⟩; have H5 := Lib.hid (H4.out.trans (b.mono H4.out.size)); have X5 := Lib.hid (X4.out.keep b X4.out.lt); obtain ⟨k0, k1, k2⟩ := X5.out; have HR := Lib.hid (SI.wide (lo' := w.heap.size) hu (Nat.le_trans H4.out.size (Nat.le_refl _)) (Nat.le_refl _) (Nat.le_refl _)); clear hu b))
  all_goals
    go_wp2_with fail
    refine bodyPost_ret (results_tmp2 rfl _ _ _) rfl ?_
    exact ⟨_, rfl, HR.out, H5.out⟩
theorem implPricesOf_any (v : Value) (T : Tb) (w : World) (hv : TV w v T) (oT : OKT T) :
    Calls Try.prog 52 #[v] w (SaysLB (priceL T) (okT T) w) := by
  unfold priceL
  cases h1 : okT T with
  | true => exact implPricesOf_yes v T w hv oT h1
  | false =>
    have HB := Lib.hid (below_alloc w)
    have HV := Lib.hid hv
    have H1 := Lib.hid h1
    obtain ⟨s1, s2, rfl, g1, g2⟩ := hv
    clear g1 g2 h1
    go_enter Try.func52, Try.ntmps52
    go_wp2_with fail
    go_at_call 37; refine (implValidTable_is _ _ T _ (HV.out.below (HB.out _) (Nat.le_refl _)) oT H1.out).mono ?_; rintro e w1 ⟨rfl, bb⟩
    have B1 := Lib.hid ((HB.out _).trans (bb.mono (by simp)))
    clear bb
    go_wp2_with fail
    refine bodyPost_ret (results_tmp2 rfl _ _ _) rfl ?_
    exact ⟨_, rfl, SI.nil _ (Nat.le_refl _) _ _, B1.out⟩
end Go.Proofs.Ytdacbkkanhelfaa
