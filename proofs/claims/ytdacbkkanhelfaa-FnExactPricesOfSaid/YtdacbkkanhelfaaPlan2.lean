/- The plan of a table: the program's side. -/
import Derived.Test.YtdacbkkanhelfaaPlan
namespace Go.Proofs.Ytdacbkkanhelfaa
open Go.RowKit Go.ChangeShapes Go.WideShapes
attribute [local go_sem] run_store_float

/-- What holds at each round of the program's loop: the box in block g, the array in block B. -/
structure PiAt (T : Tb) (w : World) (g B : Nat) (s1 s2 : Value) (k : Nat) (wr : World) : Prop where
  below : Below w.heap.size w wr
  lt : B < wr.heap.size
  box : Box3 wr g (.int .i64 T.vars) s1 s2
  arr : Arr (Value.float .f32) 0 wr B 0 (planA T k)
theorem line_last {T : Tb} (hT : OkT T) {k : Nat} : (lineL T.N T.wn k).getD (T.wn - 1) 0 = T.at k (T.wn - 1) := by
  rw [lineL_at (by have := hT.w3; omega)]; rfl
theorem line_len {T : Tb} (hT : OkT T) {k : Nat} (hk : k ≤ T.S.length) : (lineL T.N T.wn k).length = T.wn :=
  lineL_len (by have := hT.at hk (Nat.sub_lt (by have := hT.w3; omega : 0 < T.wn) Nat.one_pos); have := hT.w3; omega)
set_option maxRecDepth 100000 in
set_option maxHeartbeats 8000000 in
theorem implPlanOf_yes (v : Value) (T : Tb) (w : World) (hv : TV w v T) (oT : OKT T) (h1 : okT T = true) :
    Calls Try.prog 50 #[v] w (SaysLB (planA T T.S.length) true w) := by
  obtain ⟨i0, hi, hz0, hz1, hz2⟩ := info_parts Try.infoF
  have HB := Lib.hid (below_alloc w)
  have HV := Lib.hid hv
  have H1 := Lib.hid h1
  have HT := Lib.hid (okT_ok h1)
  have v1 := HT.out.v1
  have v2 := HT.out.v2
  have n2 := HT.out.b2
  have hw3 := HT.out.w3
  have hw17 := HT.out.w17
  obtain ⟨s1, s2, rfl, g1, g2⟩ := hv
  rcases g2 with ⟨hz, -⟩ | ⟨b, off, cap, rfl, hpos, hbl, hcell⟩
  · have := HT.out.b1; rw [hz] at this; exact absurd this (by simp)
  have X0 := Lib.hid (Box3.mk' w (.int .i64 T.vars) s1 (.slice (some ⟨b, off, none⟩) T.S.length (T.S.length + cap)) 51)
  have HC := Lib.hid hcell
  clear g1 hcell h1
  go_enter Try.func50, Try.ntmps50
  go_wp2_with fail
  go_at_call 37; refine (implValidTable_is _ _ T _ (HV.out.below (HB.out _) (Nat.le_refl _)) oT H1.out).mono ?_; rintro e w1 ⟨rfl, bb⟩
  have B1 := Lib.hid ((HB.out _).trans (bb.mono (by simp)))
  have X1 := Lib.hid (X0.out.keep bb X0.out.lt)
  have L1 : w.heap.size < w1.heap.size := by have := bb.size; simp at this; omega
  clear bb X0
  obtain ⟨c0, c1, c2⟩ := X1.out
  go_wp2_with (at_make; refine wpList_make_full _ rfl _ _ 22 rfl w1.heap.size 32 i0 (.float .f32 0) 1 Try.underlying22 hi hz0 hz1 _ _ _ _ T.vars.toNat rfl rfl (by omega) (by omega) (by rw [hz2]; omega) (by unfold maxLen; omega) (Nat.le_refl _) ?_; intro w2 hown hgrow; have bm := (Below.refl w1.heap.size w1).grown hgrow (Nat.le_refl _) (fun g hg => by cases hg); have h0 := Lib.hid (show PiAt T w w.heap.size w1.heap.size s1 (.slice (some ⟨b, off, none⟩) T.S.length (T.S.length + cap)) 0 w2 from ⟨B1.out.trans (bm.mono B1.out.size), (hown.lt _ rfl).2, X1.out.keep bm X1.out.lt, Arr.made_f hown⟩); clear hown hgrow bm c0 c1 c2; obtain ⟨c0, c1, c2⟩ := h0.out.box)
  clear c0 c1 c2
  go_loopg [16] T.S.length (fun gk i wr => ∃ k : Nat, k ≤ T.S.length ∧ gk + k = T.S.length ∧ i = .int .i64 k ∧ PiAt T w w.heap.size w1.heap.size s1 (.slice (some ⟨b, off, none⟩) T.S.length (T.S.length + cap)) k wr)
  case atStart => exact ⟨0, Nat.zero_le _, by omega, rfl, h0.out⟩
  case round =>
    clear h0
    obtain ⟨k, hk, hgk, rfl, hat⟩ := hrel
    have HA := Lib.hid hat
    have hlw := hat.lt
    clear hat
    by_cases hlt : k < T.S.length
    · have x1 : wr.cell? ⟨b, off + k, none⟩ = some (.int .i64 (T.S.getD k 0)) := by rw [HA.out.below.cell (p := ⟨b, off + k, none⟩) hbl]; exact HC.out k hlt
      have hcol := HT.out.col hlt
      obtain ⟨c0, c1, c2⟩ := HA.out.box
      by_cases hv : T.S.getD k 0 < T.vars
      · obtain ⟨m, hm2⟩ : ∃ m : Nat, T.S.getD k 0 = (m : Int) := ⟨(T.S.getD k 0).toNat, by omega⟩
        have hml : m < T.vars.toNat := by omega
        have HNEW : Hid (planA T (k + 1) = (planA T k).set m (T.at k (T.wn - 1))) := Lib.hid (by rw [planA_in hv, hm2]; rfl)
        have hlt2 : decide ((m : Int) < T.vars) = true := by rw [hm2] at hv; simpa using hv
        rw [hm2] at x1
        have HL := Lib.hid (planA_len T k)
        have HLL := Lib.hid (line_len HT.out (Nat.le_of_lt hlt))
        have HLA := Lib.hid (line_last HT.out (k := k))
        clear hcol hv hm2
        have hmi : (m : Int) < ((T.vars.toNat : Nat) : Int) := by omega
        go_wp2_with fail
        go_region_with (first
          | (go_at_call 80; refine (tableLine_any _ T k _ (HV.out.below (show Below w.heap.size w wr.drew from below_drewN HA.out.below 1) (Nat.le_refl _)) HT.out (by omega)).mono ?_; rintro e w3 ⟨u, rfl, hu, bb⟩; have bz := (below_drewN (Below.refl wr.heap.size wr) 1).trans bb; have A3 := Lib.hid (show PiAt T w w.heap.size w1.heap.size s1 (.slice (some ⟨b, off, none⟩) T.S.length (T.S.length + cap)) k w3 from ⟨HA.out.below.trans (bz.mono HA.out.below.size), Nat.lt_of_lt_of_le hlw bz.size, HA.out.box.keep bz HA.out.box.lt, HA.out.arr.below bz hlw⟩); have HU := Lib.hid hu; clear hu bb bz; obtain ⟨d0, d1, d2⟩ := A3.out.box; rcases HU.out with ⟨hz, -⟩ | ⟨gb, goff, gcap, rfl, -, hgb, hgc⟩; (exfalso; rw [← HLL.out, hz] at hw3; simp at hw3); rw [HLL.out])
          | (go_at_call 82; refine (lastOf_ok _ T _ (HV.out.below A3.out.below (Nat.le_refl _)) HT.out).mono ?_; rintro e w4 ⟨rfl, bb⟩; have A4 := Lib.hid (show PiAt T w w.heap.size w1.heap.size s1 (.slice (some ⟨b, off, none⟩) T.S.length (T.S.length + cap)) k w4 from ⟨A3.out.below.trans (bb.mono A3.out.below.size), Nat.lt_of_lt_of_le A3.out.lt bb.size, A3.out.box.keep bb A3.out.box.lt, A3.out.arr.below bb A3.out.lt⟩); have y4 : w4.cell? ⟨gb, goff + (T.wn - 1), none⟩ = some (.float .f32 (T.at k (T.wn - 1))) := (by rw [bb.cell (p := ⟨gb, goff + (T.wn - 1), none⟩) hgb, hgc _ (by rw [HLL.out]; omega), HLA.out]); clear bb; have hq : ((T.wn - 1 : Nat) : Int) < ((T.wn : Nat) : Int) := (by omega); have y1 := A4.out.arr.cell0 (i := m) (by rw [HL.out]; exact hml); have hfz := A4.out.arr.free m))
        all_goals
          go_wp2_with fail
          go_roundg (gk - 1)
          case measure => omega
          case rel => exact ⟨k + 1, by omega, by omega, by go_num, ⟨A4.out.below.setCell (by show _ ≤ w1.heap.size; omega) _, by simpa using A4.out.lt, ⟨by rw [World.cell?_setCell_other _ _ _ _ (by intro h; injection h with h1 _ _; omega)]; exact A4.out.box.c0, by rw [World.cell?_setCell_other _ _ _ _ (by intro h; injection h with h1 _ _; omega)]; exact A4.out.box.c1, by rw [World.cell?_setCell_other _ _ _ _ (by intro h; injection h with h1 _ _; omega)]; exact A4.out.box.c2⟩, by rw [HNEW.out]; exact A4.out.arr.set0 (by rw [HL.out]; exact hml) _⟩⟩
      · have HNEW : Hid (planA T (k + 1) = planA T k) := Lib.hid (planA_out hv)
        have hlt2 : decide (T.S.getD k 0 < T.vars) = false := decide_eq_false hv
        clear hcol hv
        generalize T.S.getD k 0 = y at x1 hlt2
        go_wp2_with fail
        go_roundg (gk - 1)
        case measure => omega
        case rel => exact ⟨k + 1, by omega, by omega, by go_num, ⟨HA.out.below, HA.out.lt, HA.out.box, by rw [HNEW.out]; exact HA.out.arr⟩⟩
    · obtain rfl : k = T.S.length := by omega
      have HLEN := Lib.hid (planA_len T T.S.length)
      go_wp2_with fail
      refine bodyPost_ret (results_tmp2 rfl _ _ _) rfl ?_
      refine ⟨_, rfl, ?_, HA.out.below⟩
      have hs := HA.out.arr.si (Nat.le_of_lt L1) HA.out.lt
      rw [HLEN.out] at hs
      exact hs
theorem implPlanOf_any (v : Value) (T : Tb) (w : World) (hv : TV w v T) (oT : OKT T) :
    Calls Try.prog 50 #[v] w (SaysLB (planL T) (okT T) w) := by
  unfold planL
  cases h1 : okT T with
  | true => exact implPlanOf_yes v T w hv oT h1
  | false =>
    have HB := Lib.hid (below_alloc w)
    have HV := Lib.hid hv
    have H1 := Lib.hid h1
    obtain ⟨s1, s2, rfl, g1, g2⟩ := hv
    clear g1 g2 h1
    go_enter Try.func50, Try.ntmps50
    go_wp2_with fail
    go_at_call 37; refine (implValidTable_is _ _ T _ (HV.out.below (HB.out _) (Nat.le_refl _)) oT H1.out).mono ?_; rintro e w1 ⟨rfl, bb⟩
    have B1 := Lib.hid ((HB.out _).trans (bb.mono (by simp)))
    clear bb
    go_wp2_with fail
    refine bodyPost_ret (results_tmp2 rfl _ _ _) rfl ?_
    exact ⟨_, rfl, SI.nil _ (Nat.le_refl _) _ _, B1.out⟩
end Go.Proofs.Ytdacbkkanhelfaa
