/- Lists of lists: their marks. -/
import Derived.Test.YtnakpfbeeekmiaaLsS
namespace Go.Proofs.Ytnakpfbeeekmiaa
open Go.RowKit Go.ChangeShapes Go.WideShapes

/-- What a list of lists holds behind marks from k on. -/
def marksL (k : Int) (C : List (List Int)) : List (List Int) := (List.range C.length).map fun i => marksI (k + (totAt C i : Nat)) (C.getD i []).length
theorem marksL_len (k : Int) (C : List (List Int)) : (marksL k C).length = C.length := by simp [marksL]
theorem marksL_at {k : Int} {C : List (List Int)} {i : Nat} (h : i < C.length) : (marksL k C).getD i [] = marksI (k + (totAt C i : Nat)) (C.getD i []).length := by simp [marksL, List.getD, h]
theorem marks_none {k : Int} {n : Nat} : marksI k n = [] ↔ n = 0 := by
  rw [← List.length_eq_zero_iff, marksI_len]
/-- The first j of a list's lists bear marks. -/
structure MarkingL (lo hi b off : Nat) (U : Nat → Value) (G : Nat → Nat) (C : List (List Int)) (k : Int) (w : World) (j : Nat) (wr : World) : Prop where
  row : ∀ i, i < C.length → wr.cell? ⟨b, off + i, none⟩ = some (U i)
  free : ∀ i, wr.frozen? ⟨b, i, none⟩ = false
  done : ∀ i, i < j → IB (G i) wr (U i) (marksI (k + (totAt C i : Nat)) (C.getD i []).length)
  rest : ∀ i, j ≤ i → i < C.length → IB (G i) wr (U i) (C.getD i [])
  turned : Turned lo hi w wr
theorem markIB (g : Nat) (v : Value) (Z : List Int) (k : Int) (w : World) (hv : IB g w v Z) (hn : Z.length ≤ 1048576) (hk0 : 0 ≤ k) (hk1 : k ≤ 1099511627776) :
    Calls Try.prog 21 #[v, .int .i64 k] w fun e w' => e = .returned (.int .i64 (k + (Z.length : Nat))) ∧ IB g w' v (marksI k Z.length) ∧ ((Z = [] ∧ Below w.heap.size w w') ∨ (0 < Z.length ∧ g < w.heap.size ∧ Turned g (g + 1) w w')) := by
  have hv0 := hv
  rcases hv with ⟨rfl, ao, cap, rfl⟩ | ⟨off, cap, e, k2, k3, k4, k5⟩
  · refine (markI64_any w.heap.size w.heap.size _ [] k w (SI.nil _ (Nat.le_refl _) _ _) (by simp) hk0 hk1).mono ?_
    rintro e w' ⟨rfl, hi, ht⟩
    exact ⟨rfl, Or.inl ⟨by simp [marksI], ao, cap, rfl⟩, Or.inl ⟨rfl, ht.below (Nat.le_refl _)⟩⟩
  · refine (markI64_any g (g + 1) _ Z k w (hv0.ii (Or.inr ⟨Nat.le_refl _, Nat.lt_succ_self _⟩) k3) hn hk0 hk1).mono ?_
    rintro e w' ⟨rfl, hi, ht⟩
    refine ⟨rfl, ?_, Or.inr ⟨k2, k3, ht⟩⟩
    obtain ⟨h0, ⟨e0, -⟩ | ⟨b, off2, cap2, e2, q2, q3, q4, q5, q6⟩⟩ := hi
    · rw [marks_none] at e0; omega
    · obtain rfl : b = g := by omega
      exact Or.inr ⟨off2, cap2, e2, q2, by omega, q5, q6⟩
def MarkedL (lo hi : Nat) (v : Value) (k : Int) (C : List (List Int)) (w : World) (e : Ending) (w' : World) : Prop := e = .returned (.int .i64 (k + (totAt C C.length : Nat))) ∧ LD lo hi w' v (marksL k C) ∧ Turned lo hi w w'
set_option maxHeartbeats 800000 in
theorem markSS_any (lo hi : Nat) (v : Value) (C : List (List Int)) (k : Int) (w : World) (hv : LD lo hi w v C) (o : szL C ≤ 1048576) (hk0 : 0 ≤ k) (hk1 : k ≤ 549755813888) :
    Calls Try.prog 30 #[v, .int .i64 k] w (MarkedL lo hi v k C w) := by
  obtain ⟨hhi, ⟨rfl, ao, cap, rfl⟩ | ⟨b, off, cap, U, G, rfl, hpos, hlo, hbh, hfz, hcell, hG⟩⟩ := hv
  · go_enter Try.func30, Try.ntmps30
    go_wp2
    refine wp_loop_rounds 1 ?_
    rw [rounds_succ]
    go_wp2
    go_ret
    exact ⟨by simp [totAt], LD.nil _ hhi _ _, Turned.refl _ _ _⟩
  · have hn : C.length ≤ 1048576 := Nat.le_trans (szL_len C) o
    have H0 : Hid (MarkingL lo hi b off U G C k w 0 w) := Lib.hid ⟨fun i hi => (hcell i hi).1, hfz, fun i hi => by omega, fun i _ hi => (hcell i hi).2.1, Turned.refl _ _ _⟩
    have HP := Lib.hid (fun i hi => (hcell i hi).2.2)
    have HG := Lib.hid hG
    have ho : totAt C C.length ≤ 1048576 := by unfold szL at o; omega
    clear hfz hcell hG
    go_enter Try.func30, Try.ntmps30
    go_wp2
    go_loopw [1, 5] (fun kk i wr => ∃ j : Nat, j ≤ C.length ∧ i = .int .i64 j ∧ kk = .int .i64 (k + (totAt C j : Nat)) ∧ MarkingL lo hi b off U G C k w j wr) (fun _ i _ => C.length - (intOf i).toNat)
    case atStart => exact ⟨0, Nat.zero_le _, rfl, by simp [totAt], H0.out⟩
    case round =>
      clear H0
      obtain ⟨j, hj, rfl, rfl, hM⟩ := hrel
      by_cases hlt : j < C.length
      · have c0 := hM.row j hlt
        have HI := Lib.hid (hM.rest j (Nat.le_refl _) hlt)
        have HM := Lib.hid hM
        obtain ⟨Z, hZ⟩ : ∃ Z, Z = C.getD j [] := ⟨_, rfl⟩
        have hz : Z.length ≤ szL C := by rw [hZ]; exact szL_each hlt
        rw [← hZ] at HI
        have hm := totAt_le (C := C) hj
        have ht : totAt C (j + 1) = totAt C j + Z.length := by rw [hZ]; rfl
        have HT := Lib.hid ht
        have HZ := Lib.hid hZ
        obtain ⟨t, htt⟩ : ∃ t, t = totAt C j := ⟨_, rfl⟩
        have HTT := Lib.hid htt
        rw [← htt] at hm ⊢
        clear hM ht hZ htt
        go_wp2_with fail
        go_at_call 21; refine (markIB (G j) _ Z _ _ HI.out (by omega) (by omega) (by omega)).mono ?_; rintro e w2 ⟨rfl, i2, t2⟩
        have H2 : Hid (MarkingL lo hi b off U G C k w (j + 1) w2) := by
          refine Lib.hid ?_
          have hM := HM.out
          have hZ := HZ.out
          have htt := HTT.out
          subst hZ htt
          have hwz := hM.turned.size
          rcases t2 with ⟨e0, bb⟩ | ⟨p0, gl, tt⟩
          · refine ⟨fun i hi => by rw [bb.cell (p := ⟨b, off + i, none⟩) (by show b < _; omega)]; exact hM.row i hi, fun i => by rw [bb.frozen (p := ⟨b, i, none⟩) (by show b < _; omega)]; exact hM.free i, fun i hi => ?_, fun i h1 h2 => (hM.rest i (by omega) h2).below bb (Nat.le_refl _), hM.turned.trans (Turned.of_below bb (Nat.le_refl _))⟩
            by_cases e : i = j
            · subst e; exact i2
            · exact (hM.done i (by omega)).below bb (Nat.le_refl _)
          · have hP := HP.out j hlt
            have hP' : lo ≤ G j ∧ G j < hi ∧ G j ≠ b := by
              rcases hP with e | e
              · rw [e] at p0; simp at p0
              · exact e
            have hbk := tt.block b (by omega) (by omega)
            refine ⟨fun i hi => by rw [World.cell?_of_block (w := wr) (a := ⟨b, off + i, none⟩) hbk]; exact hM.row i hi, fun i => by rw [World.frozen?_of_block (w := wr) (a := ⟨b, i, none⟩) hbk]; exact hM.free i, fun i hi => ?_, fun i h1 h2 => (hM.rest i (by omega) h2).kept tt ?_, hM.turned.trans (tt.wide hP'.1 hP'.2.1)⟩
            · by_cases e : i = j
              · subst e; exact i2
              · refine (hM.done i (by omega)).kept tt ?_
                rcases HG.out i j (by omega) hlt with q | q | q
                · left; rw [marks_none, q]; rfl
                · rw [q] at p0; simp at p0
                · right; omega
            · rcases HG.out j i (by omega) h2 with q | q | q
              · rw [q] at p0; simp at p0
              · exact Or.inl q
              · right; omega
        clear i2 t2 HI HM c0
        go_wp2_with fail
        go_roundw
        case rel => exact ⟨j + 1, by omega, by go_num, by rw [HT.out, ← HTT.out]; go_num, H2.out⟩
        case measure => simp [intOf]; omega
      · obtain rfl : j = C.length := by omega
        have HM := Lib.hid hM
        clear hM
        go_wp2
        go_ret
        have hM := HM.out
        refine ⟨rfl, ⟨Nat.le_trans hhi hM.turned.size, Or.inr ⟨b, off, cap, U, G, by rw [marksL_len], by rw [marksL_len]; exact hpos, hlo, hbh, hM.free, fun i hi => ?_, fun i j h1 h2 => ?_⟩⟩, hM.turned⟩
        · rw [marksL_len] at hi
          rw [marksL_at hi]
          refine ⟨hM.row i hi, hM.done i hi, ?_⟩
          rcases HP.out i hi with e | e
          · left; rw [marks_none, e]; rfl
          · exact Or.inr e
        · rw [marksL_len] at h2
          rw [marksL_at h2, marksL_at (by omega), marks_none, marks_none]
          rcases HG.out i j h1 h2 with e | e | e
          · left; rw [e]; rfl
          · right; left; rw [e]; rfl
          · exact Or.inr (Or.inr e)
end Go.Proofs.Ytnakpfbeeekmiaa
