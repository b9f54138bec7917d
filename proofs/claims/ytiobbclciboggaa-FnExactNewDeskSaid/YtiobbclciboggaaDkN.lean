/- The first desk. -/
import Derived.Test.YtiobbclciboggaaDkM
import Derived.Test.YtiobbclciboggaaOwn
namespace Go.Proofs.Ytiobbclciboggaa
open Go.RowKit Go.ChangeShapes Go.WideShapes

def dkN : List Nat := [1065353216, 1065353216, 1065353216, 0]
def dkB : List Nat := [1082130432, 1077936128]
def dkG : List Nat := [1073741824, 1065353216]
def dkS : List Int := [4, 3, 3]
def dkJ : List Ac := [⟨2, 2, 1, 0⟩, ⟨1, 3, 1, 0⟩]
def dkW : List Int := [0, 1, 2, 1, 1, 0, 1, 2, 2, 1, 0, 1, 1, 2, 1, 0]
def dk0 : Dk := ⟨⟨2, dkN, dkB, dkG⟩, dkS, dkJ, dkW⟩
def cellsF (Z : List Nat) : Obj := .cells (Z.map (Value.float .f32)).toArray 105
def cellsI (Z : List Int) : Obj := .cells (Z.map (Value.int .i64)).toArray 2
def cellsA : Obj := .cells #[.int .i64 2, .int .i64 2, .int .i64 1, .int .i64 0, .int .i64 1, .int .i64 3, .int .i64 1, .int .i64 0] 107
theorem new_si {α : Type} (mk : α → Value) (d : α) (T : TypeId) (w : World) (Z : List α) (n : Nat) (hn : Z.length = n) (hm : n ≤ maxLen) : SI mk d w.heap.size (w.heap.size + 1) (w.alloc (.cells (Z.map mk).toArray T)) (.slice (some ⟨w.heap.size, 0, none⟩) n n) Z := by
  subst hn
  have h : Grows mk T w.heap.size (.slice (some ⟨w.heap.size, 0, none⟩) Z.length Z.length) Z (w.alloc (.cells (Z.map mk).toArray T)) := ⟨by simp, Or.inr ⟨w.heap.size, Z.length, (Z.map mk).toArray, rfl, Nat.le_refl _, heap_alloc_new w _, Nat.le_refl _, hm, by simp, by rw [Nat.mul_one]; exact List.take_of_length_le (by simp)⟩⟩
  have s := h.si (d := d)
  rwa [show (w.alloc (.cells (Z.map mk).toArray T)).heap.size = w.heap.size + 1 by simp] at s
theorem new_jobs (w : World) : AI w.heap.size (w.heap.size + 1) (w.alloc cellsA) (.slice (some ⟨w.heap.size, 0, none⟩) 2 2) dkJ := by
  refine ⟨by simp [cellsA], Or.inr ⟨w.heap.size, 0, 0, rfl, by decide, Nat.le_refl _, Nat.lt_succ_self _, ?_, fun i hi => ?_⟩⟩
  · exact World.ownsRow.frozenAt (World.ownsRow_made (size := 4) (e := 107) w #[.int .i64 2, .int .i64 2, .int .i64 1, .int .i64 0, .int .i64 1, .int .i64 3, .int .i64 1, .int .i64 0] 2 (Nat.le_refl w.heap.size) (by decide) rfl)
  · have : i = 0 ∨ i = 1 := by have : dkJ.length = 2 := rfl; omega
    rcases this with rfl | rfl
    · exact ⟨World.cell?_alloc_new _ _ _ _, World.cell?_alloc_new _ _ _ _, World.cell?_alloc_new _ _ _ _, World.cell?_alloc_new _ _ _ _⟩
    · exact ⟨World.cell?_alloc_new _ _ _ _, World.cell?_alloc_new _ _ _ _, World.cell?_alloc_new _ _ _ _, World.cell?_alloc_new _ _ _ _⟩
theorem dk0_made (w A0 A4 : World) (h0 : Below w.heap.size w A0) (h4 : Below (((A0.alloc (cellsF dkN)).alloc (cellsF dkB)).alloc (cellsF dkG)).heap.size (((A0.alloc (cellsF dkN)).alloc (cellsF dkB)).alloc (cellsF dkG)) A4)
    (p0 p1 p2 p4 p5 p6 : Nat) (e0 : p0 = A0.heap.size) (e1 : p1 = A0.heap.size + 1) (e2 : p2 = A0.heap.size + 1 + 1) (e4 : p4 = A4.heap.size) (e5 : p5 = A4.heap.size + 1) (e6 : p6 = A4.heap.size + 1 + 1) :
    DkD w.heap.size (((A4.alloc (cellsI dkS)).alloc cellsA).alloc (cellsI dkW)).heap.size (((A4.alloc (cellsI dkS)).alloc cellsA).alloc (cellsI dkW))
      (.agg #[.int .i64 2, .slice (some ⟨p0, 0, none⟩) 4 4, .slice (some ⟨p1, 0, none⟩) 2 2, .slice (some ⟨p2, 0, none⟩) 2 2, .slice (some ⟨p4, 0, none⟩) 3 3, .slice (some ⟨p5, 0, none⟩) 2 2, .slice (some ⟨p6, 0, none⟩) 16 16]) dk0 ∧
    Below w.heap.size w (((A4.alloc (cellsI dkS)).alloc cellsA).alloc (cellsI dkW)) := by
  subst e0 e1 e2 e4 e5 e6
  obtain ⟨A1, hA1⟩ : ∃ A1, A1 = A0.alloc (cellsF dkN) := ⟨_, rfl⟩
  have s1 : A1.heap.size = A0.heap.size + 1 := by rw [hA1]; simp
  have f1 : FI A0.heap.size (A0.heap.size + 1) A1 (.slice (some ⟨A0.heap.size, 0, none⟩) 4 4) dkN := hA1 ▸ new_si _ _ _ A0 dkN 4 rfl (by decide)
  have b1 : Below A0.heap.size A0 A1 := hA1 ▸ below_alloc _ _
  rw [← hA1] at h4
  clear hA1
  obtain ⟨A2, hA2⟩ : ∃ A2, A2 = A1.alloc (cellsF dkB) := ⟨_, rfl⟩
  have s2 : A2.heap.size = A1.heap.size + 1 := by rw [hA2]; simp
  have f2 : FI A1.heap.size (A1.heap.size + 1) A2 (.slice (some ⟨A1.heap.size, 0, none⟩) 2 2) dkB := hA2 ▸ new_si _ _ _ A1 dkB 2 rfl (by decide)
  have b2 : Below A1.heap.size A1 A2 := hA2 ▸ below_alloc _ _
  rw [← hA2] at h4
  clear hA2
  obtain ⟨A3, hA3⟩ : ∃ A3, A3 = A2.alloc (cellsF dkG) := ⟨_, rfl⟩
  have s3 : A3.heap.size = A2.heap.size + 1 := by rw [hA3]; simp
  have f3 : FI A2.heap.size (A2.heap.size + 1) A3 (.slice (some ⟨A2.heap.size, 0, none⟩) 2 2) dkG := hA3 ▸ new_si _ _ _ A2 dkG 2 rfl (by decide)
  have b3 : Below A2.heap.size A2 A3 := hA3 ▸ below_alloc _ _
  rw [← hA3] at h4
  clear hA3
  obtain ⟨A5, hA5⟩ : ∃ A5, A5 = A4.alloc (cellsI dkS) := ⟨_, rfl⟩
  have s5 : A5.heap.size = A4.heap.size + 1 := by rw [hA5]; simp
  have f5 : II A4.heap.size (A4.heap.size + 1) A5 (.slice (some ⟨A4.heap.size, 0, none⟩) 3 3) dkS := hA5 ▸ new_si _ _ _ A4 dkS 3 rfl (by decide)
  have b5 : Below A4.heap.size A4 A5 := hA5 ▸ below_alloc _ _
  rw [← hA5]
  clear hA5
  obtain ⟨A6, hA6⟩ : ∃ A6, A6 = A5.alloc cellsA := ⟨_, rfl⟩
  have s6 : A6.heap.size = A5.heap.size + 1 := by rw [hA6]; simp
  have f6 : AI A5.heap.size (A5.heap.size + 1) A6 (.slice (some ⟨A5.heap.size, 0, none⟩) 2 2) dkJ := hA6 ▸ new_jobs A5
  have b6 : Below A5.heap.size A5 A6 := hA6 ▸ below_alloc _ _
  rw [← hA6]
  clear hA6
  obtain ⟨A7, hA7⟩ : ∃ A7, A7 = A6.alloc (cellsI dkW) := ⟨_, rfl⟩
  have s7 : A7.heap.size = A6.heap.size + 1 := by rw [hA7]; simp
  have f7 : II A6.heap.size (A6.heap.size + 1) A7 (.slice (some ⟨A6.heap.size, 0, none⟩) 16 16) dkW := hA7 ▸ new_si _ _ _ A6 dkW 16 rfl (by decide)
  have b7 : Below A6.heap.size A6 A7 := hA7 ▸ below_alloc _ _
  rw [← hA7]
  clear hA7
  have z0 := h0.size
  have z4 := h4.size
  have c6 : Below A6.heap.size A6 A7 := b7
  have c5 : Below A5.heap.size A5 A7 := b6.trans (c6.mono (by omega))
  have c4 : Below A4.heap.size A4 A7 := b5.trans (c5.mono (by omega))
  have c3 : Below A3.heap.size A3 A7 := h4.trans (c4.mono z4)
  have c2 : Below A2.heap.size A2 A7 := b3.trans (c3.mono (by omega))
  have c1 : Below A1.heap.size A1 A7 := b2.trans (c2.mono (by omega))
  have c0 : Below A0.heap.size A0 A7 := b1.trans (c1.mono (by omega))
  have e1 : A0.heap.size + 1 = A1.heap.size := s1.symm
  have e2 : A1.heap.size + 1 = A2.heap.size := s2.symm
  have e5 : A4.heap.size + 1 = A5.heap.size := s5.symm
  have e6 : A5.heap.size + 1 = A6.heap.size := s6.symm
  rw [e1, e2, e5, e6]
  refine ⟨⟨_, _, _, _, _, _, A1.heap.size, A2.heap.size, A3.heap.size, A5.heap.size, A6.heap.size, ⟨by omega, by omega, by omega, by omega, by omega, by omega⟩, rfl, ?_, ?_, ?_, ?_, ?_, ?_⟩, h0.trans (c0.mono z0)⟩
  · exact SI.below (SI.wide f1 z0 (by omega) (by omega)) c1 (Nat.le_refl _)
  · exact SI.below (SI.wide f2 (Nat.le_refl _) (by omega) (by omega)) c2 (Nat.le_refl _)
  · exact SI.below (SI.wide f3 (Nat.le_refl _) (by omega) (by omega)) c3 (Nat.le_refl _)
  · exact SI.below (SI.wide f5 z4 (by omega) (by omega)) c5 (Nat.le_refl _)
  · exact (f6.wide (Nat.le_refl _) (by omega) (by omega)).below' c6 (Nat.le_refl _)
  · exact SI.wide f7 (Nat.le_refl _) (by omega) (by omega)
def NewDk (w : World) (e : Ending) (w' : World) : Prop := ∃ v, e = .returned v ∧ DkD w.heap.size w'.heap.size w' v dk0 ∧ Below w.heap.size w w'
set_option maxRecDepth 100000 in
set_option maxHeartbeats 4000000 in
theorem implNewDesk_any (w : World) : Calls Try.prog 46 #[] w (NewDk w) := by
  go_enter Try.func46, Try.ntmps46
  go_wp2_with fail
  obtain ⟨v, hv⟩ : ∃ v : Value, v = .agg #[.int .i64 2, .slice (some ⟨w.heap.size + 1, 0, none⟩) 4 4, .slice (some ⟨w.heap.size + 1 + 1, 0, none⟩) 2 2, .slice (some ⟨w.heap.size + 1 + 1 + 1, 0, none⟩) 2 2, .slice (some ⟨w.heap.size + 1 + 1 + 1 + 1, 0, none⟩) 3 3, .slice (some ⟨w.heap.size + 1 + 1 + 1 + 1 + 1, 0, none⟩) 2 2, .slice (some ⟨w.heap.size + 1 + 1 + 1 + 1 + 1 + 1, 0, none⟩) 16 16] := ⟨_, rfl⟩
  refine bodyPost_ret (v := v) (by rw [hv]; simp [results, Try.results46, go_sem]) rfl ?_
  rw [hv]
  exact ⟨_, rfl, dk0_made w _ _ (below_alloc _ _) (Below.refl _ _) _ _ _ _ _ _ (by simp) (by simp) (by simp) (by simp) (by simp) (by simp)⟩
set_option maxRecDepth 100000 in
set_option maxHeartbeats 4000000 in
theorem specNewDesk_any (w : World) : Calls Try.prog 45 #[] w (NewDk w) := by
  go_enter Try.func45, Try.ntmps45
  go_wp2_with fail
  obtain ⟨v, hv⟩ : ∃ v : Value, v = .agg #[.int .i64 2, .slice (some ⟨w.heap.size + 1, 0, none⟩) 4 4, .slice (some ⟨w.heap.size + 1 + 1, 0, none⟩) 2 2, .slice (some ⟨w.heap.size + 1 + 1 + 1, 0, none⟩) 2 2, .slice (some ⟨w.heap.size + 1 + 1 + 1 + 1 + 1, 0, none⟩) 3 3, .slice (some ⟨w.heap.size + 1 + 1 + 1 + 1 + 1 + 1, 0, none⟩) 2 2, .slice (some ⟨w.heap.size + 1 + 1 + 1 + 1 + 1 + 1 + 1, 0, none⟩) 16 16] := ⟨_, rfl⟩
  refine bodyPost_ret (v := v) (by rw [hv]; simp [results, Try.results45, go_sem]) rfl ?_
  rw [hv]
  exact ⟨_, rfl, dk0_made w _ _ (below_alloc _ _) (below_alloc _ _) _ _ _ _ _ _ (by simp) (by simp) (by simp) (by simp) (by simp) (by simp)⟩
end Go.Proofs.Ytiobbclciboggaa
