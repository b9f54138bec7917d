/- What a plan leaves of bounds: the model's side. -/
import Derived.Test.YtdacbkkanhelfaaLeft
import Derived.Test.YtdacbkkanhelfaaOwn
import Derived.Deep.RegionLawGrows
import Derived.Deep.AppendLies
namespace Go.Proofs.Ytdacbkkanhelfaa
open Go.RowKit Go.ChangeShapes Go.WideShapes
attribute [local go_sem] run_store_float run_sub

/-- A quiet call that answers a list that lies where it lay. -/
def RowQ (Z : List Nat) (w : World) (e : Ending) (w' : World) : Prop := ∃ v, e = .returned v ∧ SL w v Z ∧ ∃ n, w' = w.drewN n
set_option maxHeartbeats 2000000 in
theorem l02Row_any (g : Nat) (s1 s2 s3 : Value) (R : Rw) (i : Nat) (w : World) (h : RP w g s1 s2 s3 R) (hR : OkR R) (hi : i < R.B.length) :
    Calls Try.prog 64 #[.pointer (some ⟨g, 0, none⟩), .int .i64 i] w (RowQ (lineL R.N R.vars.toNat i) w) := by
  have v1 := hR.v1
  have v2 := hR.v2
  have b2 := hR.b2
  have n64 := hR.n64
  have hrow := hR.row hi
  have HLL := Lib.hid (lineL_len (Z := R.N) hrow)
  obtain ⟨c0, c1, c2, c3, r1, r2, r3⟩ := h
  rcases r1 with ⟨hz, -⟩ | ⟨b, off, cap, rfl, hpos, hbl, hcell⟩
  · rw [hz] at hrow; simp at hrow; omega
  obtain ⟨m, hm⟩ : ∃ m : Nat, m = i * R.vars.toNat := ⟨_, rfl⟩
  obtain ⟨m2, hm2⟩ : ∃ m2 : Nat, m2 = m + R.vars.toNat := ⟨_, rfl⟩
  have hvn := hR.v
  have hw1 : IntKind.i64.wrap ((i : Int) * R.vars) = (m : Int) := by rw [← hvn, ← Int.natCast_mul, ← hm]; exact IntWalk.i64_in _ (by omega)
  have hw2 : IntKind.i64.wrap (((i : Int) + 1) * R.vars) = (m2 : Int) := by
    have e : ((i : Int) + 1) * R.vars = (m2 : Int) := by rw [← hvn, Int.add_mul, Int.one_mul, ← Int.natCast_mul, ← hm, hm2]; simp
    rw [e]; exact IntWalk.i64_in _ (by omega)
  have q1 : (0 : Int) ≤ (m : Int) := by omega
  have q2 : (m : Int) ≤ (m2 : Int) := by omega
  have q3 : (m2 : Int) ≤ (R.N.length : Int) + (cap : Int) := by omega
  have q4 : (m2 : Int) ≤ ((R.N.length + cap : Nat) : Int) := by omega
  have hne : ¬ R.N.length + cap = m := by omega
  have HSL : Hid (SL w (.slice (some ⟨b, off + m, none⟩) (m2 - m) (R.N.length + cap - m)) (lineL R.N R.vars.toNat i)) := Lib.hid (by
    have e1 : m2 - m = (lineL R.N R.vars.toNat i).length := by rw [HLL.out]; omega
    have e2 : R.N.length + cap - m = (lineL R.N R.vars.toNat i).length + (R.N.length + cap - m2) := by rw [HLL.out]; omega
    rw [e1, e2]
    refine Or.inr ⟨b, off + m, _, rfl, by rw [HLL.out]; omega, hbl, fun j hj => ?_⟩
    rw [HLL.out] at hj
    rw [lineL_at hj, Nat.add_assoc, hcell _ (by omega), hm])
  clear hm hm2 hvn hrow hcell r2 r3 hR
  go_enter Try.func64, Try.ntmps64
  go_wp2_with fail
  go_quiet (fail)
  go_wp2_with fail
  refine bodyPost_ret (results_tmp rfl _ _ _) rfl ?_
  exact ⟨_, rfl, HSL.out, _, rfl⟩

structure LsAt (R : Rw) (X : List Nat) (w : World) (s1 s2 s3 : Value) (k : Nat) (v : Value) (wr : World) : Prop where
  below : Below w.heap.size w wr
  box : Box4 wr w.heap.size (.int .i64 R.vars) s1 s2 s3
  grows : ∃ Z, Grows (Value.float .f32) 32 (w.heap.size + 1) v Z wr ∧ Z.length = k ∧ Cls (leftC R X) k Z
theorem Cls.snoc {C : Nat → Option Nat} {k : Nat} {Z : List Nat} {x : Nat} (h : Cls C k Z) (hk : Z.length = k) (hx : Fl.cls .f32 x = C k) : Cls C (k + 1) (Z ++ [x]) := by
  intro i hi
  by_cases e : i = k
  · subst e
    rw [show (Z ++ [x]).getD i 0 = x by simp [List.getD, ← hk]]; exact hx
  · rw [show (Z ++ [x]).getD i 0 = Z.getD i 0 by rw [List.getD, List.getD, List.getElem?_append_left (by omega)]]; exact h i (by omega)
theorem ls_start {R : Rw} {X : List Nat} {w : World} {s1 s2 s3 : Value} {T n : Nat} : LsAt R X w s1 s2 s3 0 (.slice (some ⟨w.heap.size + 1, 0, none⟩) 0 0) (((w.alloc (.cells #[.int .i64 R.vars, s1, s2, s3] T)).drewN n).alloc (.cells #[] 32)) := by
  have e : ((w.alloc (.cells #[.int .i64 R.vars, s1, s2, s3] T)).drewN n).heap.size = w.heap.size + 1 := by simp
  have hg := Grows.empty (Value.float .f32) 32 (w.heap.size + 1) ((w.alloc (.cells #[.int .i64 R.vars, s1, s2, s3] T)).drewN n) (Nat.le_of_eq e.symm)
  rw [e] at hg
  have hb : Below (w.heap.size + 1) (w.alloc (.cells #[.int .i64 R.vars, s1, s2, s3] T)) (((w.alloc (.cells #[.int .i64 R.vars, s1, s2, s3] T)).drewN n).alloc (.cells #[] 32)) := (below_drewN (Below.refl _ _) n).alloc (Nat.le_of_eq e.symm) _
  exact ⟨(below_alloc w _).trans (hb.mono (by omega)), (Box4.mk' w _ _ _ _ T).keep hb (Nat.lt_succ_self _), ⟨[], hg, rfl, fun i hi => by omega⟩⟩
theorem l02List_any (v : Value) (Z : List Nat) (w : World) (hv : SL w v Z) (hn : Z.length ≤ 1048576) (t : Bool) (ht : finAll Z = t) :
    Calls Try.prog 65 #[v] w fun e w' => e = .returned (.tuple #[bif t then v else .slice none 0 0, .bool t]) ∧ ∃ n, w' = w.drewN n := by
  have HV := Lib.hid hv
  have HT := Lib.hid ht
  clear hv ht
  cases t with
  | true =>
    go_enter Try.func65, Try.ntmps65
    go_wp2_with (go_at_call 98; refine (l02Finite_is _ _ Z _ HV.out hn HT.out).mono ?_; rintro e w' ⟨rfl, m, rfl⟩)
    refine bodyPost_ret (results_tmp2 rfl _ _ _) rfl ?_
    exact ⟨rfl, _, rfl⟩
  | false =>
    go_enter Try.func65, Try.ntmps65
    go_wp2_with (go_at_call 98; refine (l02Finite_is _ _ Z _ HV.out hn HT.out).mono ?_; rintro e w' ⟨rfl, m, rfl⟩)
    refine bodyPost_ret (results_tmp2 rfl _ _ _) rfl ?_
    exact ⟨rfl, _, rfl⟩
set_option maxRecDepth 100000 in
set_option maxHeartbeats 4000000 in
theorem specLeftOf_yes (v : Value) (R : Rw) (u : Value) (X : List Nat) (w : World) (hv : RV w v R) (hu : SL w u X) (oR : OKR R) (oX : OKF X) (hf : fitB R X = true) :
    Calls Try.prog 27 #[v, u] w (SaysLB' (bif leftF R X then leftM R X else []) (leftF R X) w) := by
  obtain ⟨i0, hi, hz0, hz1, hz2⟩ := info_parts Try.infoF
  have hn := oR.size
  have hx := oX.size
  have HV := Lib.hid hv
  have HU := Lib.hid hu
  have HB := Lib.hid (below_alloc w)
  have HF := Lib.hid hf
  obtain ⟨hR, hXl, hXf⟩ := fitB_ok hf
  have HR := Lib.hid hR
  have HXL : Hid (X.length = R.vars.toNat) := Lib.hid (by have := hR.v1; omega)
  have b1 := hR.b1
  have b2 := hR.b2
  have v2 := hR.v2
  obtain ⟨s1, s2, s3, rfl, g1, g2, g3⟩ := hv
  obtain ⟨ax, cx, rfl⟩ := hu.long
  have G1 := Lib.hid g1
  have G2 := Lib.hid g2
  have G3 := Lib.hid g3
  rcases g2 with ⟨hz, -⟩ | ⟨bb, boff, bcap, rfl, hbp, hbl, hbc⟩
  · rw [hz] at b1; exact absurd b1 (by simp)
  have HP : Hid (RP (w.alloc (.cells #[.int .i64 R.vars, s1, .slice (some ⟨bb, boff, none⟩) R.B.length (R.B.length + bcap), s3] 27)) w.heap.size s1 (.slice (some ⟨bb, boff, none⟩) R.B.length (R.B.length + bcap)) s3 R) := Lib.hid ⟨World.cell?_alloc_new _ _ _ _, World.cell?_alloc_new _ _ _ _, World.cell?_alloc_new _ _ _ _, World.cell?_alloc_new _ _ _ _, g1.below (below_alloc _ _) (Nat.le_refl _), G2.out.below (below_alloc _ _) (Nat.le_refl _), g3.below (below_alloc _ _) (Nat.le_refl _)⟩
  have F0 := Lib.hid (Box4.mk' w (.int .i64 R.vars) s1 (.slice (some ⟨bb, boff, none⟩) R.B.length (R.B.length + bcap)) s3 27)
  have HBC := Lib.hid hbc
  clear g1 g3 hu hf hR hXl hXf hbc
  go_enter Try.func27, Try.ntmps27
  go_wp2_with fail
  go_at_call 59; refine (l02Fit_is _ _ s1 _ s3 R _ X _ HP.out (HU.out.below (HB.out _) (Nat.le_refl _)) hn hx HF.out).mono ?_; rintro e w' ⟨rfl, n1, rfl⟩
  go_wp2_with fail
  go_loopg [6, 7] R.B.length (fun gk vo i wr => ∃ k : Nat, k ≤ R.B.length ∧ gk + k = R.B.length ∧ i = .int .i64 k ∧ LsAt R X w s1 (.slice (some ⟨bb, boff, none⟩) R.B.length (R.B.length + bcap)) s3 k vo wr)
  case atStart => exact ⟨0, Nat.zero_le _, by omega, rfl, ls_start⟩
  case round =>
    obtain ⟨k, hk, hgk, rfl, hat⟩ := hrel
    have HA := Lib.hid hat
    have hlw := hat.box.lt
    clear hat
    obtain ⟨c0, c1, c2, c3⟩ := HA.out.box
    by_cases hlt : k < R.B.length
    · have y0 : wr.cell? ⟨bb, boff + k, none⟩ = some (.float .f32 (R.B.getD k 0)) := by rw [HA.out.below.cell (p := ⟨bb, boff + k, none⟩) hbl]; exact HBC.out k hlt
      obtain ⟨Z, hZ, hZl, hZc⟩ := HA.out.grows
      have hol := hZ.block
      have HOL := Lib.hid hol
      have HOWN := Lib.hid (fun o n => (show ((wr.alloc o).drewN n).ownsRow (w.heap.size + 1) 32 1 u6 Z.length (Z.map (Value.float .f32)) from hZ.alloc o))
      have HZL := Lib.hid hZl
      have HZC := Lib.hid hZc
      have hz9 : Z.length ≤ 8 := by omega
      have HPD : Hid (RP wr.drew w.heap.size s1 (.slice (some ⟨bb, boff, none⟩) R.B.length (R.B.length + bcap)) s3 R) := Lib.hid ⟨c0, c1, c2, c3, (G1.out.below HA.out.below (Nat.le_refl _) : SL wr _ _), (G2.out.below HA.out.below (Nat.le_refl _) : SL wr _ _), (G3.out.below HA.out.below (Nat.le_refl _) : SL wr _ _)⟩
      have HUW := Lib.hid (fun n => (SL.dn (HU.out.below HA.out.below (Nat.le_refl _) : SL wr (.slice ax X.length cx) X) : SL (wr.drewN n) (.slice ax X.length cx) X))
      have HLL := Lib.hid (lineL_len (HR.out.row hlt))
      have HYC : Hid (∀ W r, Fl.cls .f32 r = useC R X k → Fl.cls .f32 (Fl.ares W .sub .f32 (R.B.getD k 0) r) = leftC R X k) := Lib.hid (fun W r hr => by rw [Fl.cls_ares, hr]; rfl)
      clear hZ hZl hZc hol c0 c1 c3
      generalize R.B.getD k 0 = yb at y0 HYC
      have i1 : (k : Int) < (R.B.length : Int) := by omega
      have i2 : (0 : Int) ≤ (k : Int) := by omega
      go_wp2_with fail
      go_region_law (first
        | (refine step_append_lies _ (by rfl) _ _ _ (by rfl) (w.heap.size + 1) 32 i0 _ 1 4 Try.underlying22 hi hz0 hz1 hz2 rfl (by omega) u6 Z.length (Z.map (Value.float .f32)) (by rfl) (HOWN.out _ _) ⟨wr.heap.size, 0, none⟩ 1 1 [.float .f32 (Fl.ares _ .sub .f32 yb r)] (by rfl) (by rfl) (World.news_of_block (cs := #[_]) (t := 32) (fr := (0, 0)) (heap_alloc_new _ _)) (by simp [Value.oneCell']) (by omega) (by unfold maxLen; omega) (by omega) (by simp; omega) (wr.heap.size + 1) (by simp) ?_; intro gg gcap w1 hown1 hgrow hat hlt1; have bg := (below_drewN ((Below.refl (w.heap.size + 1) wr).alloc (by omega) _) _).grown hgrow (by simp; omega) (fun g hg => HOL.out g hg); have HNX := Lib.hid (show LsAt R X w s1 (.slice (some ⟨bb, boff, none⟩) R.B.length (R.B.length + bcap)) s3 (k + 1) (.slice (some ⟨gg, 0, none⟩) (Z.length + 1) gcap) w1 from ⟨HA.out.below.trans (bg.mono (by omega)), HA.out.box.keep bg (Nat.lt_succ_self _), ⟨_, Grows.more (Z := Z) (news := [_]) rfl hown1, by rw [List.length_append, HZL.out]; rfl, HZC.out.snoc HZL.out (HYC.out _ _ HC.out)⟩⟩); clear hown1 hgrow hat hlt1 bg)
        | (go_simp; go_at_call 64; refine (l02Row_any _ _ _ _ R k _ HPD.out HR.out hlt).mono ?_; rintro e w' ⟨q, rfl, hq, n2, rfl⟩; have HQ := Lib.hid (fun n => (show SL (wr.drewN n) q (lineL R.N R.vars.toNat k) from hq)); clear hq; go_wp2_with fail)
        | (go_simp; go_at_call 61; refine (l02Dot_any _ _ (lineL R.N R.vars.toNat k) X _ (HQ.out _) (HUW.out _) (by rw [HLL.out]; omega) (by rw [HLL.out, HXL.out])).mono ?_; rintro e w' ⟨r, n3, rfl, rfl, hc⟩; have HC : Hid (Fl.cls .f32 r = useC R X k) := Lib.hid (by rw [hc, HLL.out]; rfl); clear hc; go_wp2_with fail))
      all_goals
        go_wp2_with fail
        go_roundg (gk - 1)
        case measure => omega
        case rel => exact ⟨k + 1, by omega, by omega, by go_num, HNX.out⟩
    · obtain rfl : k = R.B.length := by omega
      obtain ⟨Z, hZ, hZl, hZc⟩ := HA.out.grows
      have HSI := Lib.hid (fun n => (show FI (w.heap.size + 1) wr.heap.size (wr.drewN n) u6 Z from by have q : FI (w.heap.size + 1) wr.heap.size wr u6 Z := Grows.si hZ; exact SI.below q (below_drewN (Below.refl wr.heap.size wr) n) (Nat.le_refl _)))
      have HSL := Lib.hid (FI.sl (show FI (w.heap.size + 1) wr.heap.size wr u6 Z from Grows.si hZ))
      have HAL := Lib.hid (all_eq hZl hZc)
      have HLE := Lib.hid (fun h => list_eq hZl hZc h)
      have HZL := Lib.hid hZl
      clear hZ hZl hZc c0 c1 c3
      cases hF : leftF R X with
      | true =>
        have HFT : Hid (finAll Z = true) := Lib.hid (by rw [HAL.out, hF])
        have HEQ := Lib.hid (HLE.out hF)
        have HF := Lib.hid hF
        clear hF
        go_wp2_with fail
        go_at_call 65; refine (l02List_any _ Z _ HSL.out (by rw [HZL.out]; omega) true HFT.out).mono ?_; rintro e w4 ⟨rfl, n, rfl⟩
        go_wp2_with fail
        refine bodyPost_ret (results_tmp2 rfl _ _ _) rfl ?_
        rw [HF.out]
        refine ⟨_, rfl, ?_, below_drewN HA.out.below _⟩
        rw [cond_true, ← HEQ.out]
        exact SI.wide (lo' := w.heap.size) (HSI.out _) (by omega) (Nat.le_refl _) (Nat.le_refl _)
      | false =>
        have HFT : Hid (finAll Z = false) := Lib.hid (by rw [HAL.out, hF])
        have HF := Lib.hid hF
        clear hF
        go_wp2_with fail
        go_at_call 65; refine (l02List_any _ Z _ HSL.out (by rw [HZL.out]; omega) false HFT.out).mono ?_; rintro e w4 ⟨rfl, n, rfl⟩
        go_wp2_with fail
        refine bodyPost_ret (results_tmp2 rfl _ _ _) rfl ?_
        rw [HF.out]
        exact ⟨_, rfl, SI.nil _ (Nat.le_refl _) _ _, below_drewN HA.out.below _⟩
set_option maxHeartbeats 1000000 in
theorem specLeftOf_any (v : Value) (R : Rw) (u : Value) (X : List Nat) (w : World) (hv : RV w v R) (hu : SL w u X) (oR : OKR R) (oX : OKF X) :
    Calls Try.prog 27 #[v, u] w (SaysLB' (leftL R X) (leftB R X) w) := by
  unfold leftL leftB
  cases hf : fitB R X with
  | true => exact specLeftOf_yes v R u X w hv hu oR oX hf
  | false =>
    have hn := oR.size
    have hx := oX.size
    have HU := Lib.hid hu
    have HB := Lib.hid (below_alloc w)
    have HF := Lib.hid hf
    obtain ⟨s1, s2, s3, rfl, g1, g2, g3⟩ := hv
    obtain ⟨ax, cx, rfl⟩ := hu.long
    have HP : Hid (RP (w.alloc (.cells #[.int .i64 R.vars, s1, s2, s3] 27)) w.heap.size s1 s2 s3 R) := Lib.hid ⟨World.cell?_alloc_new _ _ _ _, World.cell?_alloc_new _ _ _ _, World.cell?_alloc_new _ _ _ _, World.cell?_alloc_new _ _ _ _, g1.below (below_alloc _ _) (Nat.le_refl _), g2.below (below_alloc _ _) (Nat.le_refl _), g3.below (below_alloc _ _) (Nat.le_refl _)⟩
    clear g1 g2 g3 hu hf
    go_enter Try.func27, Try.ntmps27
    go_wp2_with fail
    go_at_call 59; refine (l02Fit_is _ _ s1 s2 s3 R _ X _ HP.out (HU.out.below (HB.out _) (Nat.le_refl _)) hn hx HF.out).mono ?_; rintro e w' ⟨rfl, n1, rfl⟩
    go_wp2_with fail
    refine bodyPost_ret (results_tmp2 rfl _ _ _) rfl ?_
    exact ⟨_, rfl, SI.nil _ (Nat.le_refl _) _ _, below_drewN (HB.out _) _⟩
end Go.Proofs.Ytdacbkkanhelfaa
