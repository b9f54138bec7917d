/- Orders of cities: the program's test. -/
import Derived.Test.YtknonlbbakbpiaaTourP
import Derived.Test.YtknonlbbakbpiaaCitI
import Derived.Test.YtknonlbbakbpiaaConI
import Derived.Test.YtknonlbbakbpiaaClI
import Derived.Test.YtknonlbbakbpiaaSrtL
import Derived.Test.YtknonlbbakbpiaaTen
import Derived.StillTailTactics
namespace Go.Proofs.Ytknonlbbakbpiaa
open Go.RowKit Go.ChangeShapes Go.WideShapes
attribute [local go_sem] Instr.arrayAt
attribute [local go_sem high] run_eqlT run_guardT

theorem drop_len (n : Nat) : ((numL 10).drop n).length = 10 - n := by rw [List.length_drop, numL_len]
set_option maxRecDepth 100000 in
set_option maxHeartbeats 8000000 in
theorem isTour_yes (n : Nat) (v pv u : Value) (T : List Int) (w : World) (hu : IL w u T) (n1 : 1 ≤ n) (n2 : n ≤ 10) (hl : T.length = n) (hv : ∃ ao a cap, v = .slice ao a cap) (hp : ∃ ao a cap, pv = .slice ao a cap) :
    Calls Try.prog 143 #[.agg #[.int .i64 n, v, pv], u] w (Says (tourB T n) w) := by
  obtain ⟨vo, va, vc, rfl⟩ := hv
  obtain ⟨po, pa, pc, rfl⟩ := hp
  rcases hu with ⟨hz, -⟩ | ⟨b2, off2, cap2, rfl, hpos2, hbl2, hcell2⟩
  · rw [hz] at hl; simp at hl; omega
  have HL := Lib.hid hl
  have HC2 := Lib.hid hcell2
  have BX0 := Lib.hid (Box3.mk' w (.int .i64 n) (.slice vo va vc) (.slice po pa pc) 106)
  have hne : ((n : Int) != (n : Int)) = false := by simp
  rw [hl]
  clear hcell2 hl hpos2
  go_enter Try.func143, Try.ntmps143
  go_wp2_with fail
  go_at_call 177; refine (numbersBelow_any 10 _ (by omega)).mono ?_; rintro e w1 ⟨v1, rfl, i1, b1⟩
  have B1 := Lib.hid ((below_alloc w _).trans (b1.mono (below_alloc w (.cells #[.int .i64 n, .slice vo va vc, .slice po pa pc] 106)).size))
  have X1 := Lib.hid (BX0.out.keep b1 BX0.out.lt)
  rcases i1.2 with ⟨hz, -⟩ | ⟨g1, o1, c1, rfl, p1, l1, h1, f1, q1⟩
  · have := numL_len 10; rw [hz] at this; simp at this
  rw [numL_len] at q1 p1 ⊢
  have HG1 : Hid (g1 < w1.heap.size) := Lib.hid h1
  have Q1 := Lib.hid q1
  obtain ⟨x0, x1, x2⟩ := X1.out
  have hle : n ≤ 10 + c1 := by omega
  clear i1 b1 l1 f1 q1 h1 p1
  have HD : Hid (w1.heap.size + 1 = (w1.alloc (.cells #[] 0)).heap.size) := Lib.hid (by simp)
  have CONC : Hid (∀ (ad2 : Addr) (k2 : Nat), (ad2 = ⟨g1, o1 + n, none⟩ ∨ n = 10) → Calls Try.prog 192 #[.slice (some ⟨w1.heap.size, 0, none⟩) 2 2] (w1.alloc (.cells #[.slice (some ⟨b2, off2, none⟩) n (n + cap2), .slice (some ad2) (10 - n) k2] 35)) (Made (Value.int .i64) (0 : Int) (T ++ (numL 10).drop n) (w1.alloc (.cells #[.slice (some ⟨b2, off2, none⟩) n (n + cap2), .slice (some ad2) (10 - n) k2] 35)))) := Lib.hid fun ad2 k2 had => by
    refine concatI_any w1.heap.size ⟨b2, off2, none⟩ ad2 (n + cap2) k2 T ((numL 10).drop n) _ ?_ ?_ ?_ (by have := HL.out; omega) (by rw [drop_len]; omega) (by have := HL.out; omega)
    · rw [HL.out, drop_len]
      exact ⟨World.cell?_alloc_new _ _ _ _, World.cell?_alloc_new _ _ _ _⟩
    · intro w' hb j x hx
      have hj : j < T.length := by simpa using (List.getElem?_eq_some_iff.1 hx).1
      have hb2 : Below w.heap.size w w' := (B1.out.alloc B1.out.size _).trans (hb.mono (by have := B1.out.size; simp; omega))
      rw [Go.WideShapes.add_plain, hb2.cell (p := ⟨b2, off2 + j, none⟩) hbl2, HC2.out j hj, ← hx]
      simp [List.getD, hj]
    · intro w' hb j x hx
      have hj : j < 10 - n := by have h := (List.getElem?_eq_some_iff.1 hx).1; rw [List.length_map, drop_len] at h; exact h
      rcases had with rfl | h10
      · have hb2 : Below w1.heap.size w1 w' := (below_alloc w1 _).trans (hb.mono (by simp))
        rw [Go.WideShapes.add_plain, Nat.add_assoc, hb2.cell (p := ⟨g1, o1 + (n + j), none⟩) HG1.out, Q1.out (n + j) (by omega), ← hx]
        simp [List.getD, List.getElem?_drop]
        rw [List.getElem?_eq_getElem (by rw [numL_len]; omega)]
        rfl
      · omega
  by_cases hc : 10 + c1 = n
  all_goals
    go_wp2_with fail
    go_at_call 192; refine (CONC.out _ _ (by first | exact Or.inl rfl | exact Or.inr (by omega))).mono ?_; rintro e w3 ⟨v3, rfl, i3, b3⟩
    have hlen : (T ++ (numL 10).drop n).length = 10 := by rw [List.length_append, drop_len, HL.out]; omega
    rcases i3.2 with ⟨hz, -⟩ | ⟨g3, o3, c3, rfl, p3, l3, h3, f3, q3⟩
    · rw [hz] at hlen; simp at hlen
    have SORT := Lib.hid (sort_any g3 o3 c3 (T ++ (numL 10).drop n) w3 ⟨q3, f3⟩ (by omega) (by omega))
    rw [hlen] at SORT q3 ⊢
    have l4 : w1.heap.size + 1 ≤ g3 := by simpa using l3
    have B3 : Hid (Below w1.heap.size w1 w3) := Lib.hid ((below_alloc w1 _).trans (b3.mono (by simp)))
    clear i3 b3 p3 l3 f3 q3
    go_wp2_with fail
    go_at_call 193; refine (SORT.out).mono ?_; rintro e w4 ⟨rfl, Y, hY, hord⟩
    have hYl : Y.length = 10 := by rw [hY.perm.length_eq]; exact hlen
    have YC : Hid (∀ i, i < 10 → w4.cell? ⟨g3, o3 + i, none⟩ = some (.int .i64 (Y.getD i 0))) := Lib.hid fun i hi => hY.arr.cells i (by omega)
    have NC : Hid (∀ i, i < 10 → w4.cell? ⟨g1, o1 + i, none⟩ = some (.int .i64 (i : Int))) := Lib.hid fun i hi => by
      have h5 : w4.cell? ⟨g1, o1 + i, none⟩ = w3.cell? ⟨g1, o1 + i, none⟩ := World.cell?_of_block (w := w3) (a := ⟨g1, o1 + i, none⟩) (hY.turned.block g1 (Nat.lt_of_lt_of_le HG1.out B3.out.size) (Or.inl (by have := HG1.out; omega)))
      rw [h5, B3.out.cell (p := ⟨g1, o1 + i, none⟩) HG1.out, Q1.out i hi, numL_at hi]
    have IFF := Lib.hid (tour_sorted n2 HL.out hY.perm (by rw [← hlen]; exact hord))
    have B4 : Hid (Below w.heap.size w w4) := Lib.hid (B1.out.trans ((B3.out.trans ((hY.turned.below (by omega)).mono (by omega))).mono B1.out.size))
    clear hY hord
    obtain ⟨y0, y1, y2, y3, y4, y5, y6, y7, y8, y9, rfl⟩ : ∃ y0 y1 y2 y3 y4 y5 y6 y7 y8 y9 : Int, Y = [y0, y1, y2, y3, y4, y5, y6, y7, y8, y9] := by
      match Y, hYl with
      | [a0, a1, a2, a3, a4, a5, a6, a7, a8, a9], _ => exact ⟨a0, a1, a2, a3, a4, a5, a6, a7, a8, a9, rfl⟩
    have z0 : w4.cell? ⟨g3, o3, none⟩ = some (.int .i64 y0) := YC.out 0 (by decide)
    have t0 : w4.cell? ⟨g1, o1, none⟩ = some (.int .i64 0) := NC.out 0 (by decide)
    have z1 : w4.cell? ⟨g3, o3 + 1, none⟩ = some (.int .i64 y1) := YC.out 1 (by decide)
    have t1 : w4.cell? ⟨g1, o1 + 1, none⟩ = some (.int .i64 1) := NC.out 1 (by decide)
    have z2 : w4.cell? ⟨g3, o3 + 2, none⟩ = some (.int .i64 y2) := YC.out 2 (by decide)
    have t2 : w4.cell? ⟨g1, o1 + 2, none⟩ = some (.int .i64 2) := NC.out 2 (by decide)
    have z3 : w4.cell? ⟨g3, o3 + 3, none⟩ = some (.int .i64 y3) := YC.out 3 (by decide)
    have t3 : w4.cell? ⟨g1, o1 + 3, none⟩ = some (.int .i64 3) := NC.out 3 (by decide)
    have z4 : w4.cell? ⟨g3, o3 + 4, none⟩ = some (.int .i64 y4) := YC.out 4 (by decide)
    have t4 : w4.cell? ⟨g1, o1 + 4, none⟩ = some (.int .i64 4) := NC.out 4 (by decide)
    have z5 : w4.cell? ⟨g3, o3 + 5, none⟩ = some (.int .i64 y5) := YC.out 5 (by decide)
    have t5 : w4.cell? ⟨g1, o1 + 5, none⟩ = some (.int .i64 5) := NC.out 5 (by decide)
    have z6 : w4.cell? ⟨g3, o3 + 6, none⟩ = some (.int .i64 y6) := YC.out 6 (by decide)
    have t6 : w4.cell? ⟨g1, o1 + 6, none⟩ = some (.int .i64 6) := NC.out 6 (by decide)
    have z7 : w4.cell? ⟨g3, o3 + 7, none⟩ = some (.int .i64 y7) := YC.out 7 (by decide)
    have t7 : w4.cell? ⟨g1, o1 + 7, none⟩ = some (.int .i64 7) := NC.out 7 (by decide)
    have z8 : w4.cell? ⟨g3, o3 + 8, none⟩ = some (.int .i64 y8) := YC.out 8 (by decide)
    have t8 : w4.cell? ⟨g1, o1 + 8, none⟩ = some (.int .i64 8) := NC.out 8 (by decide)
    have z9 : w4.cell? ⟨g3, o3 + 9, none⟩ = some (.int .i64 y9) := YC.out 9 (by decide)
    have t9 : w4.cell? ⟨g1, o1 + 9, none⟩ = some (.int .i64 9) := NC.out 9 (by decide)
    clear x0 x1 x2 hYl hc hle
    go_wp2_with fail
    refine wp_region_still_tail 7 (by kernel_rfl) (by kernel_rfl) ?_
    simp only [List.take_succ_cons, List.take_zero, List.drop_succ_cons, List.drop_zero]
    repeat still_step
    refine wpStill_nil ?_
    change wpList _ _ _ _ _ w4.drew
    go_wp2_with fail
    go_ret
    exact says (Bool.eq_iff_iff.2 (by rw [decide_eq_true_iff]; exact IFF.out)) (below_drewN B4.out 1)
set_option maxHeartbeats 2000000 in
theorem isTour_any (n : Nat) (v pv u : Value) (T : List Int) (w : World) (hu : IL w u T) (n1 : 1 ≤ n) (n2 : n ≤ 10) (hv : ∃ ao a cap, v = .slice ao a cap) (hp : ∃ ao a cap, pv = .slice ao a cap) :
    Calls Try.prog 143 #[.agg #[.int .i64 n, v, pv], u] w (Says (tourB T n) w) := by
  by_cases hl : T.length = n
  · exact isTour_yes n v pv u T w hu n1 n2 hl hv hp
  · obtain ⟨vo, va, vc, rfl⟩ := hv
    obtain ⟨po, pa, pc, rfl⟩ := hp
    rw [tourB_no0 hl]
    obtain ⟨ao, cap, rfl⟩ := hu.long
    have hne : ((T.length : Int) != (n : Int)) = true := by simp; omega
    have hne2 : ¬ T.length = n := hl
    have B := Lib.hid (below_alloc w)
    clear hu hl
    go_enter Try.func143, Try.ntmps143
    go_wp2_with fail
    go_ret
    exact says rfl (B.out _)
end Go.Proofs.Ytknonlbbakbpiaa
