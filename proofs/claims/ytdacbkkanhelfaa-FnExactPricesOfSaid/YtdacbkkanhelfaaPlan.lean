/- The plan of a table, on both sides. -/
import Derived.Test.YtdacbkkanhelfaaEnter
import Derived.Test.YtdacbkkanhelfaaArr
import Derived.Test.YtdacbkkanhelfaaMark
namespace Go.Proofs.Ytdacbkkanhelfaa
open Go.RowKit Go.ChangeShapes Go.WideShapes

attribute [local go_sem] run_store_float
/-- The plan behind the first k rows. -/
def planA (T : Tb) : Nat → List Nat
  | 0 => List.replicate T.vars.toNat 0
  | k + 1 => if T.S.getD k 0 < T.vars then (planA T k).set (T.S.getD k 0).toNat (T.at k (T.wn - 1)) else planA T k
theorem planA_len (T : Tb) : ∀ k, (planA T k).length = T.vars.toNat
  | 0 => by simp [planA]
  | k + 1 => by unfold planA; split <;> simp [planA_len T k]
theorem planA_in {T : Tb} {k : Nat} (h : T.S.getD k 0 < T.vars) : planA T (k + 1) = (planA T k).set (T.S.getD k 0).toNat (T.at k (T.wn - 1)) := by rw [planA, if_pos h]
theorem planA_out {T : Tb} {k : Nat} (h : ¬ T.S.getD k 0 < T.vars) : planA T (k + 1) = planA T k := by rw [planA, if_neg h]
theorem OkT.col {T : Tb} (h : OkT T) {k : Nat} (hk : k < T.S.length) : 0 ≤ T.S.getD k 0 ∧ T.S.getD k 0 ≤ T.wide - 2 := by
  have hb := h.bas
  unfold basB at hb
  have := List.all_eq_true.1 hb k (List.mem_range.2 hk)
  rw [Bool.and_eq_true] at this
  have hc := this.1
  unfold colB at hc
  simpa using hc
def planL (T : Tb) : List Nat := bif okT T then planA T T.S.length else []
theorem planL_len (T : Tb) : (planL T).length ≤ 1048576 := by
  unfold planL
  cases h : okT T with
  | false => simp
  | true => have := (okT_ok h).v2; simp only [cond_true]; rw [planA_len]; omega
/-- A call that hands back a list of its own. -/
def Makes (Z : List Nat) (w : World) (e : Ending) (w' : World) : Prop := ∃ v, e = .returned v ∧ FI w.heap.size w'.heap.size w' v Z ∧ Below w.heap.size w w'

/-- Answers of a list of its own and a bool. -/
def SaysLB (Z : List Nat) (b : Bool) (w : World) (e : Ending) (w' : World) : Prop := ∃ v, e = .returned (.tuple #[v, .bool b]) ∧ FI w.heap.size w'.heap.size w' v Z ∧ Below w.heap.size w w'
structure PlAt (T : Tb) (w : World) (k : Nat) (wr : World) : Prop where
  below : Below w.heap.size w wr
  lt : w.heap.size < wr.heap.size
  arr : Arr (Value.float .f32) 0 wr w.heap.size 0 (planA T k)
set_option maxHeartbeats 4000000 in
set_option maxRecDepth 100000 in
theorem l02Plan_any (g : Nat) (s1 s2 : Value) (T : Tb) (w : World) (h : TP w g s1 s2 T) (hT : OkT T) :
    Calls Try.prog 94 #[.pointer (some ⟨g, 0, none⟩)] w (Makes (planA T T.S.length) w) := by
  obtain ⟨i0, hi, hz0, hz1, hz2⟩ := info_parts Try.infoF
  have HP := Lib.hid h
  have HT := Lib.hid hT
  have v1 := hT.v1
  have v2 := hT.v2
  have n2 := hT.b2
  have hg : g < w.heap.size := cell_block h.c0
  have hw3 := hT.w3
  have hw17 := hT.w17
  have hm : IntKind.i64.wrap ((T.wn : Int) - 1) = ((T.wn - 1 : Nat) : Int) := by
    have e : (T.wn : Int) - 1 = ((T.wn - 1 : Nat) : Int) := by omega
    rw [e]; exact IntWalk.i64_in _ (by omega)
  obtain ⟨c0, c1, c2, r1, r2⟩ := h
  rcases r2 with ⟨hz, -⟩ | ⟨b, off, cap, rfl, hpos, hbl, hcell⟩
  · have := hT.b1; rw [hz] at this; exact absurd this (by simp)
  have HC := Lib.hid hcell
  clear hcell r1 hT
  go_enter Try.func94, Try.ntmps94
  go_wp2_with (at_make; refine wpList_make_full _ rfl _ _ 22 rfl w.heap.size 32 i0 (.float .f32 0) 1 Try.underlying22 hi hz0 hz1 _ _ _ _ T.vars.toNat rfl rfl (by omega) (by omega) (by rw [hz2]; omega) (by unfold maxLen; omega) (Nat.le_refl _) ?_; intro w1 hown hgrow)
  have h0 : PlAt T w 0 w1 := ⟨(Below.refl _ _).grown hgrow (Nat.le_refl _) (fun g hg => by cases hg), (hown.lt _ rfl).2, Arr.made_f hown⟩
  clear hown hgrow
  go_loopg [4] T.S.length (fun gk i wr => ∃ k : Nat, k ≤ T.S.length ∧ gk + k = T.S.length ∧ i = .int .i64 k ∧ PlAt T w k wr)
  case atStart => exact ⟨0, Nat.zero_le _, by omega, rfl, h0⟩
  case round =>
    clear h0
    obtain ⟨k, hk, hgk, rfl, hat⟩ := hrel
    have HA := Lib.hid hat
    clear hat
    have HPW := Lib.hid (show TP wr g s1 (.slice (some ⟨b, off, none⟩) T.S.length (T.S.length + cap)) T from ⟨keep_cell HP.out.c0 HA.out.below hg, keep_cell HP.out.c1 HA.out.below hg, keep_cell HP.out.c2 HA.out.below hg, HP.out.r1.below HA.out.below (Nat.le_refl _), HP.out.r2.below HA.out.below (Nat.le_refl _)⟩)
    have d0 := HPW.out.c0
    have d2 := HPW.out.c2
    by_cases hlt : k < T.S.length
    · have x1 : wr.cell? ⟨b, off + k, none⟩ = some (.int .i64 (T.S.getD k 0)) := by rw [HA.out.below.cell (p := ⟨b, off + k, none⟩) hbl]; exact HC.out k hlt
      have hcol := HT.out.col hlt
      have HIN := Lib.hid (planA_in (T := T) (k := k))
      have HOUT := Lib.hid (planA_out (T := T) (k := k))
      by_cases hv : T.S.getD k 0 < T.vars
      · obtain ⟨m, hm2⟩ : ∃ m : Nat, T.S.getD k 0 = (m : Int) := ⟨(T.S.getD k 0).toNat, by omega⟩
        have hml : m < T.vars.toNat := by omega
        have HNEW : Hid (planA T (k + 1) = (planA T k).set m (T.at k (T.wn - 1))) := Lib.hid (by rw [planA_in hv, hm2]; rfl)
        have y1 : wr.cell? ⟨w.heap.size, m, none⟩ = some (.float .f32 ((planA T k).getD m 0)) := HA.out.arr.cell0 (by rw [planA_len]; exact hml)
        have hfz := HA.out.arr.free m
        have hlt2 : decide ((m : Int) < T.vars) = true := by rw [hm2] at hv; simpa using hv
        rw [hm2] at x1
        have HL := Lib.hid (planA_len T k)
        clear hcol hv hm2 HIN HOUT
        generalize (planA T k).getD m 0 = old at y1
        have hmi : (m : Int) < ((T.vars.toNat : Nat) : Int) := by omega
        go_wp2_with fail
        go_quiet (fail)
        go_wp2_with fail
        generalize hW : wr.drewN _ = wq
        have HAQ : Hid (PlAt T w k wq) := Lib.hid (by rw [← hW]; exact ⟨below_drewN HA.out.below _, HA.out.lt, HA.out.arr.drewN _⟩)
        have HPQ : Hid (TP wq g s1 (.slice (some ⟨b, off, none⟩) T.S.length (T.S.length + cap)) T) := Lib.hid (by rw [← hW]; exact TP.dn HPW.out)
        have q2 := HPQ.out.c2
        have p1 : wq.cell? ⟨b, off + k, none⟩ = some (.int .i64 (m : Int)) := by rw [← hW]; exact x1
        have p2 : wq.cell? ⟨w.heap.size, m, none⟩ = some (.float .f32 old) := by rw [← hW]; exact y1
        have pf : wq.frozen? ⟨w.heap.size, m, none⟩ = false := by rw [← hW]; exact hfz
        clear hW d0 d2 x1 y1 hfz HPW HA
        have HPN := Lib.hid (fun n => (TP.dn HPQ.out : TP (wq.drewN n) g s1 (.slice (some ⟨b, off, none⟩) T.S.length (T.S.length + cap)) T))
        have HPD : Hid (TP wq.drew g s1 (.slice (some ⟨b, off, none⟩) T.S.length (T.S.length + cap)) T) := Lib.hid ⟨HPQ.out.c0, HPQ.out.c1, HPQ.out.c2, HPQ.out.r1, HPQ.out.r2⟩
        go_region_with (first
          | (go_at_call 105; refine (l02Wide_ok _ _ _ T _ HPD.out HT.out).mono ?_; rintro e w' ⟨rfl, m', rfl⟩)
          | (go_at_call 108; refine (l02At_any _ _ _ T k (T.wn - 1) _ (HPN.out _) HT.out (by omega) (by omega)).mono ?_; rintro e w' ⟨rfl, m', rfl⟩))
        all_goals
          go_wp2_with fail
          go_roundg (gk - 1)
          case measure => omega
          case rel => exact ⟨k + 1, by omega, by omega, by go_num, ⟨(below_drewN HAQ.out.below _).setCell (by simp) _, by simpa using HAQ.out.lt, by rw [HNEW.out]; exact (HAQ.out.arr.drewN _).set0 (by rw [HL.out]; exact hml) _⟩⟩
      · have HNEW : Hid (planA T (k + 1) = planA T k) := Lib.hid (planA_out hv)
        have hlt2 : decide (T.S.getD k 0 < T.vars) = false := decide_eq_false hv
        clear hcol hv HIN HOUT
        generalize T.S.getD k 0 = y at x1 hlt2
        go_wp2_with fail
        go_quiet (fail)
        go_wp2_with fail
        go_roundg (gk - 1)
        case measure => omega
        case rel => exact ⟨k + 1, by omega, by omega, by go_num, ⟨below_drewN HA.out.below _, HA.out.lt, by rw [HNEW.out]; exact HA.out.arr.drewN _⟩⟩
    · obtain rfl : k = T.S.length := by omega
      have HLEN := Lib.hid (planA_len T T.S.length)
      go_wp2_with fail
      refine bodyPost_ret (results_tmp rfl _ _ _) rfl ?_
      refine ⟨_, rfl, ?_, HA.out.below⟩
      have hs := HA.out.arr.si (Nat.le_refl _) HA.out.lt
      rw [HLEN.out] at hs
      exact hs
set_option maxHeartbeats 1000000 in
theorem specPlanOf_any (v : Value) (T : Tb) (w : World) (hv : TV w v T) (oT : OKT T) :
    Calls Try.prog 49 #[v] w (SaysLB (planL T) (okT T) w) := by
  unfold planL
  have HB := Lib.hid (below_alloc w)
  obtain ⟨s1, s2, rfl, g1, g2⟩ := hv
  have HP := Lib.hid (TP.box w g1 g2)
  clear g1 g2
  cases h1 : okT T with
  | false =>
    have H1 := Lib.hid h1
    clear h1
    go_enter Try.func49, Try.ntmps49
    go_wp2_with (go_at_call 70; refine (l02Table_is _ _ s1 s2 T _ HP.out oT H1.out).mono ?_; rintro e w' ⟨rfl, n1, rfl⟩)
    refine bodyPost_ret (results_tmp2 rfl _ _ _) rfl ?_
    exact ⟨_, rfl, SI.nil _ (Nat.le_refl _) _ _, below_drewN (HB.out _) _⟩
  | true =>
    have H1 := Lib.hid h1
    have HT := Lib.hid (okT_ok h1)
    clear h1
    go_enter Try.func49, Try.ntmps49
    go_wp2_with fail
    go_at_call 70; refine (l02Table_is _ _ s1 s2 T _ HP.out oT H1.out).mono ?_; rintro e w' ⟨rfl, n1, rfl⟩
    go_wp2_with fail
    go_at_call 94; refine (l02Plan_any _ s1 s2 T _ (TP.dn HP.out) HT.out).mono ?_; rintro e w2 ⟨u, rfl, hu, b⟩
    have HU := Lib.hid hu
    have B := Lib.hid ((below_drewN (HB.out _) n1).trans (b.mono (by simp)))
    clear hu b
    go_wp2_with fail
    refine bodyPost_ret (results_tmp2 rfl _ _ _) rfl ?_
    exact ⟨_, rfl, SI.wide HU.out (by simp) (Nat.le_refl _) (Nat.le_refl _), B.out⟩
end Go.Proofs.Ytdacbkkanhelfaa
