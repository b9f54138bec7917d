/- What a plan leaves of bounds: the program's side. -/
import Derived.Test.YtdacbkkanhelfaaUse
import Derived.Outline
namespace Go.Proofs.Ytdacbkkanhelfaa
open Go.RowKit Go.ChangeShapes Go.WideShapes
attribute [local go_sem] run_store_float run_sub

def leftC (R : Rw) (X : List Nat) (i : Nat) : Option Nat := Fl.arC .sub .f32 (Fl.cls .f32 (R.B.getD i 0)) (useC R X i)
def leftF (R : Rw) (X : List Nat) : Bool := (List.range R.B.length).all fun i => finC (leftC R X i)
def leftB (R : Rw) (X : List Nat) : Bool := fitB R X && leftF R X
def leftM (R : Rw) (X : List Nat) : List Nat := (List.range R.B.length).map fun i => (leftC R X i).getD 0
def leftL (R : Rw) (X : List Nat) : List Nat := bif leftB R X then leftM R X else []
theorem leftM_len (R : Rw) (X : List Nat) : (leftM R X).length = R.B.length := by simp [leftM]
theorem leftL_len (R : Rw) (X : List Nat) : (leftL R X).length ≤ 1048576 := by
  unfold leftL
  cases h : leftB R X with
  | false => simp
  | true =>
    unfold leftB at h
    rw [Bool.and_eq_true] at h
    have := (fitB_ok h.1).1.b2
    simp only [cond_true]
    rw [leftM_len]; omega
theorem cls_fin {x : Nat} {C : Option Nat} (h : Fl.cls .f32 x = C) (hf : finC C = true) : C = some x := by
  subst h
  cases hn : (Ieee.single.read x).isNaN with
  | true => rw [Fl.cls_none (k := .f32) hn] at hf; cases hf
  | false => exact Fl.cls_some (k := .f32) hn
theorem all_eq {R : Rw} {X Z : List Nat} (hl : Z.length = R.B.length) (h : Cls (leftC R X) R.B.length Z) : finAll Z = leftF R X := by
  unfold leftF
  cases hb : (List.range R.B.length).all (fun i => finC (leftC R X i)) with
  | true =>
    refine all_true fun i hi => ?_
    rw [fin_cls (h i (by omega))]
    exact List.all_eq_true.1 hb i (List.mem_range.2 (by omega))
  | false =>
    rw [List.all_eq_false] at hb
    obtain ⟨i, hi, hf⟩ := hb
    have hi' := List.mem_range.1 hi
    refine all_false (i := i) (by omega) ?_
    rw [fin_cls (h i hi')]
    simpa using hf
theorem list_eq {R : Rw} {X Z : List Nat} (hl : Z.length = R.B.length) (h : Cls (leftC R X) R.B.length Z) (hf : leftF R X = true) : Z = leftM R X := by
  refine List.ext_getElem (by rw [leftM_len, hl]) fun i h1 h2 => ?_
  have hi : i < R.B.length := by omega
  have hc := h i hi
  have := cls_fin hc (List.all_eq_true.1 hf i (List.mem_range.2 hi))
  have e : (leftM R X)[i] = (leftC R X i).getD 0 := by simp [leftM]
  rw [e, this, getD_at h1]; rfl

structure LfAt (R : Rw) (X : List Nat) (w : World) (gx gb goff : Nat) (s1 s2 s3 : Value) (k : Nat) (wr : World) : Prop where
  below : Below w.heap.size w wr
  lt : gb < wr.heap.size
  box : Box4 wr gx (.int .i64 R.vars) s1 s2 s3
  arr : ∃ Z, Arr (Value.float .f32) 0 wr gb goff Z ∧ Z.length = R.B.length ∧ Cls (leftC R X) k Z ∧ ∀ i, k ≤ i → i < R.B.length → Fl.cls .f32 (Z.getD i 0) = useC R X i
theorem Arr.si' {w : World} {g lo off cap : Nat} {Z : List Nat} (h : Arr (Value.float .f32) 0 w g off Z) (hl : lo ≤ g) (hg : g < w.heap.size) (hp : 0 < Z.length) : FI lo w.heap.size w (.slice (some ⟨g, off, none⟩) Z.length (Z.length + cap)) Z :=
  ⟨Nat.le_refl _, Or.inr ⟨g, off, cap, rfl, hp, hl, hg, h.free, h.cells⟩⟩
theorem set_at {Z : List Nat} {k x : Nat} (hk : k < Z.length) : (Z.set k x).getD k 0 = x := by simp [List.getD, hk]
theorem set_ne {Z : List Nat} {k i x : Nat} (h : i ≠ k) : (Z.set k x).getD i 0 = Z.getD i 0 := by rw [List.getD, List.getD, List.getElem?_set, if_neg (fun hh => h hh.symm)]

theorem implValid_is2 (b : Bool) (v : Value) (R : Rw) (w : World) (hv : RV w v R) (hn : R.size ≤ 1048576) (hb : okR R = b) :
    Calls Try.prog 18 #[v] w (Says b w) := implValid_is b v R w hv hn hb
/-- Answers of a list of its own and a bool. -/
def SaysLB' (Z : List Nat) (b : Bool) (w : World) (e : Ending) (w' : World) : Prop := ∃ v, e = .returned (.tuple #[v, .bool b]) ∧ FI w.heap.size w'.heap.size w' v Z ∧ Below w.heap.size w w'
set_option maxRecDepth 100000 in
set_option maxHeartbeats 4000000 in
theorem implLeftOf_yes (v : Value) (R : Rw) (u : Value) (X : List Nat) (w : World) (hv : RV w v R) (hu : SL w u X) (oR : OKR R) (oX : OKF X) (hf : fitB R X = true) :
    Calls Try.prog 28 #[v, u] w (SaysLB' (bif leftF R X then leftM R X else []) (leftF R X) w) := by
  have hn := oR.size
  have hx := oX.size
  have HV := Lib.hid hv
  have HU := Lib.hid hu
  have HB := Lib.hid (below_alloc w)
  obtain ⟨hR, hXl, hXf⟩ := fitB_ok hf
  have H1 : Hid (okR R = true) := Lib.hid ((okR_iff R).2 hR)
  have H2 : Hid (finN R.vars X = true) := Lib.hid (by unfold finN; rw [decide_eq_true hXl, hXf]; rfl)
  have HRV : Hid (1 ≤ R.vars ∧ R.vars ≤ 8) := Lib.hid ⟨hR.v1, hR.v2⟩
  have HR := Lib.hid hR
  have HX := Lib.hid hXl
  have b1 := hR.b1
  have b2 := hR.b2
  obtain ⟨s1, s2, s3, rfl, g1, g2, g3⟩ := hv
  obtain ⟨ax, cx, rfl⟩ := hu.long
  rcases g2 with ⟨hz, -⟩ | ⟨bb, boff, bcap, rfl, hbp, hbl, hbc⟩
  · rw [hz] at b1; exact absurd b1 (by simp)
  have F0 := Lib.hid (Box4.mk' w (.int .i64 R.vars) s1 (.slice (some ⟨bb, boff, none⟩) R.B.length (R.B.length + bcap)) s3 27)
  have HBC := Lib.hid hbc
  clear g1 g3 hu hf hR hXl hXf hbc
  go_enter Try.func28, Try.ntmps28
  go_wp2_with fail
  go_at_call 18; refine (implValid_is _ _ R _ (HV.out.below (HB.out _) (Nat.le_refl _)) hn H1.out).mono ?_; rintro e w1 ⟨rfl, b⟩
  have F1 := Lib.hid (F0.out.keep b F0.out.lt)
  have B1 := Lib.hid ((HB.out _).trans (b.mono (by simp)))
  clear b F0
  obtain ⟨c0, c1, c2, c3⟩ := F1.out
  go_wp2_with fail
  clear c0 c1 c2 c3
  go_at_call 62; refine (isPoint_any _ R _ X _ (HV.out.below B1.out (Nat.le_refl _)) (HU.out.below B1.out (Nat.le_refl _)) hx _ H2.out HRV.out).mono ?_; rintro e w2 ⟨rfl, b⟩
  have F2 := Lib.hid (F1.out.keep b F1.out.lt)
  have B2 := Lib.hid (B1.out.trans (b.mono B1.out.size))
  clear b F1 B1
  obtain ⟨c0, c1, c2, c3⟩ := F2.out
  go_wp2_with fail
  clear c0 c1 c2 c3
  go_at_call 66; refine (usesOf_any _ R _ X _ (HV.out.below B2.out (Nat.le_refl _)) (HU.out.below B2.out (Nat.le_refl _)) HR.out HX.out).mono ?_; rintro e w3 ⟨uv, Z0, rfl, hZl, hZc, hZi, b⟩
  have F3 := Lib.hid (F2.out.keep b F2.out.lt)
  have B3 := Lib.hid (B2.out.trans (b.mono B2.out.size))
  have LW : w.heap.size < w2.heap.size := F2.out.lt
  obtain ⟨hhi, ⟨rfl, -⟩ | ⟨gb, goff, gcap, rfl, hgp, hgl, hgh, hgf, hgc⟩⟩ := hZi
  · rw [← hZl] at b1; exact absurd b1 (by simp)
  have h0 := Lib.hid (show LfAt R X w w.heap.size gb goff s1 (.slice (some ⟨bb, boff, none⟩) R.B.length (R.B.length + bcap)) s3 0 w3 from ⟨B3.out, Nat.lt_of_lt_of_le hgh hhi, F3.out, ⟨Z0, ⟨hgc, hgf⟩, hZl, fun i hi => by omega, fun i _ hi => hZc i hi⟩⟩)
  rw [hZl]
  clear hZl hZc hgc hgf b F2 B2 hgp hhi hgh
  obtain ⟨c0, c1, c2, c3⟩ := F3.out
  go_wp2_with fail
  clear c0 c1 c2 c3
  go_loopg [24] R.B.length (fun gk i wr => ∃ k : Nat, k ≤ R.B.length ∧ gk + k = R.B.length ∧ i = .int .i64 k ∧ LfAt R X w w.heap.size gb goff s1 (.slice (some ⟨bb, boff, none⟩) R.B.length (R.B.length + bcap)) s3 k wr)
  case atStart => exact ⟨0, Nat.zero_le _, by omega, rfl, h0.out⟩
  case round =>
    clear h0
    obtain ⟨k, hk, hgk, rfl, hat⟩ := hrel
    have HA := Lib.hid hat
    have hlw := hat.lt
    clear hat
    by_cases hlt : k < R.B.length
    · have y0 : wr.cell? ⟨bb, boff + k, none⟩ = some (.float .f32 (R.B.getD k 0)) := by rw [HA.out.below.cell (p := ⟨bb, boff + k, none⟩) hbl]; exact HBC.out k hlt
      obtain ⟨Z, hZ, hZl, hZc, hZu⟩ := HA.out.arr
      have y1 := hZ.cells k (by omega)
      have hfz := hZ.free (goff + k)
      have HZ := Lib.hid hZ
      have HZL := Lib.hid hZl
      have HZC := Lib.hid hZc
      have HZU := Lib.hid hZu
      have HK := Lib.hid (hZu k (Nat.le_refl _) hlt)
      have HN : Hid (∀ W, Fl.cls .f32 (Fl.ares W .sub .f32 (R.B.getD k 0) (Z.getD k 0)) = leftC R X k) := Lib.hid (fun W => by rw [Fl.cls_ares, HK.out]; rfl)
      clear hZ hZl hZc hZu HK
      generalize R.B.getD k 0 = yb at y0 HN
      generalize Z.getD k 0 = yz at y1 HN
      go_wp2_with fail
      go_roundg (gk - 1)
      case measure => omega
      case rel => exact ⟨k + 1, by omega, by omega, by go_num, ⟨(below_drewN HA.out.below _).setCell (by show _ ≤ gb; omega) _, by simpa using hlw, ⟨by rw [World.cell?_setCell_other _ _ _ _ (by intro h; injection h with h1 _ _; omega)]; exact HA.out.box.c0, by rw [World.cell?_setCell_other _ _ _ _ (by intro h; injection h with h1 _ _; omega)]; exact HA.out.box.c1, by rw [World.cell?_setCell_other _ _ _ _ (by intro h; injection h with h1 _ _; omega)]; exact HA.out.box.c2, by rw [World.cell?_setCell_other _ _ _ _ (by intro h; injection h with h1 _ _; omega)]; exact HA.out.box.c3⟩, ⟨Z.set k _, (HZ.out.drewN _).set (by rw [HZL.out]; exact hlt) _, by rw [List.length_set, HZL.out], HZC.out.set (by rw [HZL.out]; exact hlt) (HN.out _), fun i h1 h2 => by rw [set_ne (by omega)]; exact HZU.out i (by omega) h2⟩⟩⟩
    · obtain rfl : k = R.B.length := by omega
      obtain ⟨Z, hZ, hZl, hZc, -⟩ := HA.out.arr
      have HFI := Lib.hid (hZ.si' (cap := gcap) hgl hlw (by omega))
      rw [hZl] at HFI
      have HAL := Lib.hid (all_eq hZl hZc)
      have HLE := Lib.hid (fun h => list_eq hZl hZc h)
      have HZL := Lib.hid hZl
      have HFN : Hid (finN (R.B.length : Nat) Z = leftF R X) := Lib.hid (by unfold finN; rw [hZl, decide_eq_true rfl, Bool.true_and]; exact all_eq hZl hZc)
      clear hZ hZl hZc
      cases hF : leftF R X with
      | true =>
        have HFT : Hid (finN (R.B.length : Nat) Z = true) := Lib.hid (by rw [HFN.out, hF])
        have HEQ := Lib.hid (HLE.out hF)
        have HF := Lib.hid hF
        clear hF
        go_wp2_with fail
        go_at_call 55; refine (areFinite_is _ _ _ Z _ (FI.sl HFI.out) (by rw [HZL.out]; omega) HFT.out).mono ?_; rintro e w4 ⟨rfl, n, rfl⟩
        go_wp2_with fail
        refine bodyPost_ret (results_tmp2 rfl _ _ _) rfl ?_
        rw [HF.out]
        refine ⟨_, rfl, ?_, below_drewN HA.out.below _⟩
        have := SI.wide (lo' := w.heap.size) (SI.below HFI.out (below_drewN (Below.refl wr.heap.size wr) n) (Nat.le_refl _)) (by omega) (Nat.le_refl _) (Nat.le_refl _)
        rw [cond_true, ← HEQ.out]
        exact this
      | false =>
        have HFT : Hid (finN (R.B.length : Nat) Z = false) := Lib.hid (by rw [HFN.out, hF])
        have HF := Lib.hid hF
        clear hF
        go_wp2_with fail
        go_at_call 55; refine (areFinite_is _ _ _ Z _ (FI.sl HFI.out) (by rw [HZL.out]; omega) HFT.out).mono ?_; rintro e w4 ⟨rfl, n, rfl⟩
        go_wp2_with fail
        refine bodyPost_ret (results_tmp2 rfl _ _ _) rfl ?_
        rw [HF.out]
        exact ⟨_, rfl, SI.nil _ (Nat.le_refl _) _ _, below_drewN HA.out.below _⟩
set_option maxHeartbeats 1000000 in
theorem implLeftOf_any (v : Value) (R : Rw) (u : Value) (X : List Nat) (w : World) (hv : RV w v R) (hu : SL w u X) (oR : OKR R) (oX : OKF X) :
    Calls Try.prog 28 #[v, u] w (SaysLB' (leftL R X) (leftB R X) w) := by
  unfold leftL leftB
  cases hf : fitB R X with
  | true => exact implLeftOf_yes v R u X w hv hu oR oX hf
  | false =>
    have hn := oR.size
    have hx := oX.size
    have HV := Lib.hid hv
    have HU := Lib.hid hu
    have HB := Lib.hid (below_alloc w)
    obtain ⟨s1, s2, s3, rfl, g1, g2, g3⟩ := hv
    have F0 := Lib.hid (Box4.mk' w (.int .i64 R.vars) s1 s2 s3 27)
    obtain ⟨ax, cx, rfl⟩ := hu.long
    clear g1 g2 g3 hu
    cases h1 : okR R with
    | false =>
      have H1 := Lib.hid h1
      clear h1 hf
      go_enter Try.func28, Try.ntmps28
      go_wp2_with fail
      go_at_call 18; refine (implValid_is _ _ R _ (HV.out.below (HB.out _) (Nat.le_refl _)) hn H1.out).mono ?_; rintro e w1 ⟨rfl, b⟩
      have B1 := Lib.hid ((HB.out _).trans (b.mono (by simp)))
      clear b
      go_wp2_with fail
      refine bodyPost_ret (results_tmp2 rfl _ _ _) rfl ?_
      exact ⟨_, rfl, SI.nil _ (Nat.le_refl _) _ _, B1.out⟩
    | true =>
      have H1 := Lib.hid h1
      have hk := (okR_iff R).1 h1
      have HRV : Hid (1 ≤ R.vars ∧ R.vars ≤ 8) := Lib.hid ⟨hk.v1, hk.v2⟩
      have H2 : Hid (finN R.vars X = false) := Lib.hid (by unfold fitB at hf; rw [h1, Bool.true_and] at hf; exact hf)
      clear h1 hf hk
      go_enter Try.func28, Try.ntmps28
      go_wp2_with fail
      go_at_call 18; refine (implValid_is _ _ R _ (HV.out.below (HB.out _) (Nat.le_refl _)) hn H1.out).mono ?_; rintro e w1 ⟨rfl, b⟩
      have F1 := Lib.hid (F0.out.keep b F0.out.lt)
      have B1 := Lib.hid ((HB.out _).trans (b.mono (by simp)))
      clear b
      obtain ⟨c0, c1, c2, c3⟩ := F1.out
      go_wp2_with fail
      clear c0 c1 c2 c3
      go_at_call 62; refine (isPoint_any _ R _ X _ (HV.out.below B1.out (Nat.le_refl _)) (HU.out.below B1.out (Nat.le_refl _)) hx _ H2.out HRV.out).mono ?_; rintro e w2 ⟨rfl, b⟩
      have B2 := Lib.hid (B1.out.trans (b.mono B1.out.size))
      clear b
      go_wp2_with fail
      refine bodyPost_ret (results_tmp2 rfl _ _ _) rfl ?_
      exact ⟨_, rfl, SI.nil _ (Nat.le_refl _) _ _, B2.out⟩
end Go.Proofs.Ytdacbkkanhelfaa
