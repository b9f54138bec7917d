/- slices.Insert of one element at any place; a city that is moved: the program. -/
import Derived.Test.YtknonlbbakbpiaaMv2
namespace Go.Proofs.Ytknonlbbakbpiaa
open Go.RowKit Go.ChangeShapes Go.WideShapes
set_option maxRecDepth 100000

theorem frozen_new (w : World) (c : Array Value) (E : TypeId) (j : Nat) : (w.alloc (.cells c E)).frozen? ⟨w.heap.size, j, none⟩ = false := by
  unfold World.frozen?
  rw [show (w.alloc (.cells c E)).heap[(⟨w.heap.size, j, none⟩ : Addr).block]? = _ from heap_alloc_new w _]
  simp
set_option maxHeartbeats 4000000 in
theorem insert_end (b off c vb : Nat) (x y : Int) (Z : List Int) (w : World) (hA : Arr (Value.int .i64) 0 w b off (Z ++ [y])) (hroom : Z.length + 1 ≤ c)
    (hx : w.cell? ⟨vb, 0, none⟩ = some (.int .i64 x)) :
    Calls Try.prog 148 #[.slice (some ⟨b, off, none⟩) Z.length c, .int .i64 (Z.length : Nat), .slice (some ⟨vb, 0, none⟩) 1 1] w (PutAt b off c (Z.length + 1) (putF Z Z.length x) w) := by
  have mixed : Try.prog.follows .mixedOrders = true := by kernel_rfl
  have hcd : w.cell? ⟨b, off + Z.length, none⟩ = some (.int .i64 y) := by
    rw [hA.cells Z.length (by simp), List.getD, List.getElem?_append_right (Nat.le_refl _)]
    simp
  have hfd : w.frozen? ⟨b, off + Z.length, none⟩ = false := hA.free _
  have HR : Hid (PutAt b off c (Z.length + 1) (putF Z Z.length x) w (.returned (.slice (some ⟨b, off, none⟩) (Z.length + 1) c)) (w.setCell ⟨b, off + Z.length, none⟩ (.int .i64 x))) := Lib.hid (by
    show PutAt _ _ _ _ _ _ _ (w.setCells b (off + Z.length) [.int .i64 x])
    refine ⟨rfl, turned_cells _ _ _ _ (Turned.refl _ _ _) (Nat.le_refl _) (Nat.lt_succ_self _), ?_⟩
    have h := shift_arr (x := x) hA (Nat.le_refl Z.length)
    rw [List.drop_length] at h
    exact h)
  have hb4 : ¬ (c = Z.length) := by omega
  have hle : Z.length ≤ c := by omega
  clear hA
  go_enter Try.func148, Try.ntmps148
  go_wp2_with fail
  go_ret
  exact HR.out
theorem insert_any (b off c k vb : Nat) (x y : Int) (Z : List Int) (w : World) (hA : Arr (Value.int .i64) 0 w b off (Z ++ [y])) (hk : k ≤ Z.length) (hroom : Z.length + 1 ≤ c) (hc63 : c ≤ 9223372036854775807) (hvb : vb ≠ b)
    (hx : w.cell? ⟨vb, 0, none⟩ = some (.int .i64 x)) (hfv : ∀ j, w.frozen? ⟨vb, j, none⟩ = false) :
    Calls Try.prog 148 #[.slice (some ⟨b, off, none⟩) Z.length c, .int .i64 k, .slice (some ⟨vb, 0, none⟩) 1 1] w (PutAt b off c (Z.length + 1) (putF Z k x) w) := by
  by_cases h : k < Z.length
  · exact insert_mid b off c k vb x y Z w hA h hroom hc63 hvb hx hfv
  · obtain rfl : k = Z.length := by omega
    exact insert_end b off c vb x y Z w hA hroom hx
theorem grows_arr {E B : Nat} {v : Value} {Z : List Int} {w : World} (h : Grows (Value.int .i64) E B v Z w) (hp : 0 < Z.length) :
    ∃ g cap, v = .slice (some ⟨g, 0, none⟩) Z.length (Z.length + cap) ∧ B ≤ g ∧ g < w.heap.size ∧ Z.length + cap ≤ maxLen ∧ Arr (Value.int .i64) 0 w g 0 Z := by
  have hc := fun g hg => World.ownsRow.cells (g := g) h hg
  obtain ⟨-, ⟨-, h0⟩ | ⟨g, cap, cur, rfl, hB, hg, hn, hm, -, -⟩⟩ := h
  · omega
  · refine ⟨g, cap - Z.length, by rw [Nat.add_sub_cancel' hn], hB, (Array.getElem?_eq_some_iff.1 hg).1, by omega, fun i hi => ?_, fun i => ?_⟩
    · have h1 := hc g rfl i (.int .i64 (Z.getD i 0)) (by simp [List.getD, hi])
      rw [Addr.add_lit] at h1
      exact h1
    · unfold World.frozen?
      rw [show w.heap[(⟨g, i, none⟩ : Addr).block]? = _ from hg]
      simp
set_option maxHeartbeats 4000000 in
theorem moveCity_any (v : Value) (T : List Int) (i k : Nat) (w : World) (hv : IL w v T) (hi : i < T.length) (hk : k < T.length) (hl : T.length ≤ 1000) :
    Calls Try.prog 82 #[v, .int .i64 i, .int .i64 k] w (Made (Value.int .i64) (0 : Int) (movF T i k) w) := by
  have CL := Lib.hid (cloneG_any v T w hv (by omega))
  have HL := Lib.hid (movF_len hi hk)
  rcases hv with ⟨rfl, -⟩ | ⟨b, off, cap, rfl, hpos, hbl, hcell⟩
  · simp at hi
  have HX := Lib.hid (hcell i hi)
  clear hcell
  go_enter Try.func82, Try.ntmps82
  go_wp2_with fail
  go_at_call 144; refine CL.out.mono ?_; rintro e w2 ⟨u, rfl, hG, b2⟩
  obtain ⟨g, cp, rfl, hB, hgl, hm, hA⟩ := grows_arr hG hpos
  have HA := Lib.hid hA
  have HB2 := Lib.hid b2
  unfold maxLen at hm
  have hm2 : T.length + cp ≤ 9223372036854775807 := by omega
  have f1 : IntKind.i64.wrap ((i : Int) + 1) = (i : Int) + 1 := IntWalk.i64_in _ (by omega)
  have DEL := Lib.hid (delete_any g 0 (T.length + cp) i T w2 hA hi (Nat.le_add_right _ _) hm2)
  rw [show ((i + 1 : Nat) : Int) = (i : Int) + 1 by omega] at DEL
  clear hG hA b2
  go_wp2_with fail
  go_at_call 147; refine DEL.out.mono ?_; rintro e w3 ⟨rfl, hT3, hA3⟩
  have hb3 : Below w.heap.size w w3 := HB2.out.trans ((hT3.below (by omega)).mono hB)
  have x0 : w3.cell? ⟨b, off + i, none⟩ = some (.int .i64 (T.getD i 0)) := by rw [hb3.cell (p := ⟨b, off + i, none⟩) hbl]; exact HX.out
  have hs3 := hT3.size
  have HB3 := Lib.hid hb3
  have HA3 := Lib.hid hA3
  clear hT3 hA3 hb3 DEL HA
  obtain ⟨x, hxe⟩ : ∃ x, x = T.getD i 0 := ⟨_, rfl⟩
  rw [← hxe] at x0
  have HXE := Lib.hid hxe
  clear hxe
  have hdl := dropF_len hi
  have HINS : Hid (∀ W vb, Below w3.heap.size w3 W → w3.heap.size ≤ vb → W.cell? ⟨vb, 0, none⟩ = some (.int .i64 x) → (∀ j, W.frozen? ⟨vb, j, none⟩ = false) →
      Calls Try.prog 148 #[.slice (some ⟨g, 0, none⟩) (T.length - 1) (T.length + cp), .int .i64 k, .slice (some ⟨vb, 0, none⟩) 1 1] W (PutAt g 0 (T.length + cp) (T.length - 1 + 1) (putF (dropF T i) k x) W)) := Lib.hid fun W vb hb hvb hc hf => by
    have h := insert_any g 0 (T.length + cp) k vb x 0 (dropF T i) W (HA3.out.below hb (by omega)) (by omega) (by omega) hm2 (by omega) hc hf
    rw [hdl] at h
    exact h
  clear hdl
  go_wp2_with fail
  go_at_call 148; refine (HINS.out _ _ (below_alloc _ _) (Nat.le_refl _) (World.cell?_alloc_new _ _ _ _) (fun j => frozen_new _ _ _ j)).mono ?_; rintro e w4 ⟨rfl, hT4, hA4⟩
  have HT4 := Lib.hid hT4
  have HA4 := Lib.hid hA4
  clear hT4 hA4 HINS x0
  go_wp2_with fail
  refine bodyPost_ret (v := .slice (some ⟨g, 0, none⟩) (T.length - 1 + 1) (T.length + cp)) (by simp [results, Try.results82, go_sem]) rfl ?_
  have h4 := HA4.out
  rw [HXE.out] at h4
  have hz4 := HT4.out.size
  have hLL := HL.out
  have hT1 : T.length - 1 + 1 = T.length := by omega
  rw [hT1]
  refine ⟨_, rfl, ⟨Nat.le_refl _, Or.inr ⟨g, 0, cp, by rw [hLL], by rw [hLL]; exact hpos, hB, ?_, h4.free, h4.cells⟩⟩, ?_⟩
  · simp at hz4
    omega
  · exact (HB3.out.trans ((below_alloc w3 _).mono HB3.out.size)).trans ((HT4.out.below (by simp; omega)).mono hB)
end Go.Proofs.Ytknonlbbakbpiaa
