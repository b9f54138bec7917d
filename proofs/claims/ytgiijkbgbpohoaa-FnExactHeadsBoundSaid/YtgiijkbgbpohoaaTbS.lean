/- Orders: the model's test. -/
import Derived.Test.YtgiijkbgbpohoaaTb0
import Derived.Test.YtgiijkbgbpohoaaRowA
import Derived.Deep.LoopGhost
namespace Go.Proofs.Ytgiijkbgbpohoaa
open Go.RowKit Go.ChangeShapes Go.WideShapes

theorem Try.infoB : (Try.prog.info? 4).map (fun i => (i.zero, i.size, i.bytes)) = some (some (.bool false), 1, 1) := by kernel_rfl
theorem Arr.made_b {w : World} {n B e : Nat} (h : w.ownsRow B e 1 (.slice (some ⟨B, 0, none⟩) n n) n (madeCells (Value.bool false).cells (n * 1)).toList) : Arr Value.bool false w B 0 (List.replicate n false) := by
  refine ⟨fun i hi => ?_, h.frozenAt⟩
  rw [List.length_replicate] at hi
  rw [Nat.zero_add, h.cellAt i (by omega)]
  rcases made_one (.bool false) n hi with h1 | h1
  · rw [h1]; simp [Value.cells, List.getD, hi]
  · exact absurd rfl h1
/-- A row of words of the call's own in block B. -/
structure RowB (w : World) (B : Nat) (Z : List Bool) (wr : World) : Prop where
  below : Below w.heap.size w wr
  lt : B < wr.heap.size
  ge : w.heap.size ≤ B
  arr : Arr Value.bool false wr B 0 Z
theorem RowB.drew {w wr : World} {B : Nat} {Z : List Bool} (h : RowB w B Z wr) (n : Nat) : RowB w B Z (wr.drewN n) := ⟨below_drewN h.below n, h.lt, h.ge, h.arr.drewN n⟩
theorem RowB.set {w wr : World} {B : Nat} {Z : List Bool} (h : RowB w B Z wr) {i : Nat} (hi : i < Z.length) (x : Bool) : RowB w B (Z.set i x) (wr.setCell ⟨B, i, none⟩ (.bool x)) :=
  ⟨h.below.setCell h.ge _, by simpa using h.lt, h.ge, h.arr.set0 hi x⟩
theorem RowB.to {w wr : World} {B : Nat} {Z Y : List Bool} (h : RowB w B Z wr) (e : Z = Y) : RowB w B Y wr := e ▸ h
theorem RowB.cell {w wr : World} {B : Nat} {Z : List Bool} (h : RowB w B Z wr) {i : Nat} (hi : i < Z.length) : wr.cell? ⟨B, i, none⟩ = some (.bool (Z.getD i false)) := h.arr.cell0 hi
set_option maxRecDepth 100000 in
set_option maxHeartbeats 4000000 in
theorem l04Tour_any (u : Value) (T : List Int) (n : Nat) (w : World) (hu : IL w u T) (n1 : 1 ≤ n) (n2 : n ≤ 64) :
    Calls Try.prog 87 #[u, .int .i64 n] w (Says (tourB T n) w) := by
  obtain ⟨i0, hi, hz0, hz1, hz2⟩ := info_parts Try.infoB
  have HU := Lib.hid hu
  by_cases hl : T.length = n
  · rcases hu with ⟨hz, -⟩ | ⟨b2, off2, cap2, rfl, hpos2, hbl2, hcell2⟩
    · rw [hz] at hl; simp at hl; omega
    have HC2 := Lib.hid hcell2
    have HL := Lib.hid hl
    rw [hl]
    have hn1 : IntKind.i64.wrap ((n : Int) - 1) = (n : Int) - 1 := IntWalk.i64_in _ (by omega)
    have hne : ((n : Int) != (n : Int)) = false := by simp
    clear hcell2 hl hpos2
    go_enter Try.func87, Try.ntmps87
    go_wp2_with (at_make; refine wpList_make_full _ rfl _ _ 102 rfl w.heap.size 4 i0 (.bool false) 1 Try.underlying102 hi hz0 hz1 _ _ _ _ n rfl rfl rfl rfl (by rw [hz2]; omega) (by unfold maxLen; omega) (Nat.le_refl _) ?_; intro w2 hown hgrow; have bm := (Below.refl w.heap.size w).grown hgrow (Nat.le_refl _) (fun g hg => by cases hg); have hA := Lib.hid (show RowB w w.heap.size (List.replicate n false) w2 from ⟨bm, (hown.lt _ rfl).2, Nat.le_refl _, Arr.made_b hown⟩); clear hown hgrow bm)
    go_loopg [6] n (fun gk s wr => ∃ k : Nat, k ≤ n ∧ gk + k = n ∧ s = .int .i64 k ∧ (∀ i, i < k → stepB T n i = true) ∧ RowB w w.heap.size (allB (seenB T k) n) wr)
    case atStart => exact ⟨0, Nat.zero_le _, by omega, rfl, fun i hi => by omega, hA.out.to (allB_rep T n)⟩
    case round =>
      clear hA
      obtain ⟨k, hk, hgk, rfl, hall, hat⟩ := hrel
      have HS := Lib.hid hall
      have HA := Lib.hid hat
      clear hall hat
      by_cases hlt : k < n
      · have x1 := (show wr.cell? ⟨b2, off2 + k, none⟩ = some (.int .i64 (T.getD k 0)) by rw [HA.out.below.cell (p := ⟨b2, off2 + k, none⟩) hbl2]; exact HC2.out k (by rw [HL.out]; exact hlt))
        cases hin : (decide (0 ≤ T.getD k 0) && decide (T.getD k 0 ≤ (n : Int) - 1)) with
        | false =>
          have HN := Lib.hid (tourB_no (T := T) (n := n) hlt (by unfold stepB; rw [hin]; rfl))
          have HIN := Lib.hid hin
          generalize T.getD k 0 = y at x1 HIN
          clear hin
          go_wp2_with fail
          go_at_call 67; refine (l00In_is false y 0 ((n : Int) - 1) _ HIN.out).mono ?_; rintro e w' ⟨rfl, m, rfl⟩
          go_wp2_with fail
          go_ret
          exact says HN.out.symm (below_drewN HA.out.below m)
        | true =>
          have hin2 := hin
          simp only [Bool.and_eq_true, decide_eq_true_eq] at hin2
          obtain ⟨y1, y2⟩ := hin2
          have hc : T.getD k 0 = (tN T k : Int) := by unfold tN; omega
          have hcn : tN T k < n := by unfold tN; omega
          have x2 := HA.out.cell (i := tN T k) (by rw [allB_len]; exact hcn)
          rw [allB_at hcn] at x2
          have hf := HA.out.arr.free (tN T k)
          have HLEN : Hid (tN T k < (allB (seenB T k) n).length) := Lib.hid (by rw [allB_len]; exact hcn)
          have HSET := Lib.hid (seen_set (T := T) (k := k) (n := n))
          have HST : Hid (stepB T n k = !seenB T k (tN T k)) := Lib.hid (by unfold stepB; rw [hin, Bool.true_and])
          have HIN : Hid ((decide ((0 : Int) ≤ (tN T k : Int)) && decide ((tN T k : Int) ≤ (n : Int) - 1)) = true) := Lib.hid (by rw [← hc]; exact hin)
          rw [hc] at x1
          clear hin y1 y2 hc
          generalize tN T k = c at x1 x2 hf HLEN HSET HST HIN hcn
          have lc : (c : Int) < (n : Int) := by omega
          cases hsn : seenB T k c with
          | true =>
            rw [hsn] at x2 HST
            have HN := Lib.hid (tourB_no (T := T) (n := n) hlt HST.out)
            clear hsn
            go_wp2_with fail
            go_at_call 67; refine (l00In_is true c 0 ((n : Int) - 1) _ HIN.out).mono ?_; rintro e w' ⟨rfl, m, rfl⟩
            go_wp2_with fail
            go_ret
            exact says HN.out.symm (below_drewN HA.out.below m)
          | false =>
            rw [hsn] at x2 HST
            clear hsn
            go_wp2_with fail
            go_at_call 67; refine (l00In_is true c 0 ((n : Int) - 1) _ HIN.out).mono ?_; rintro e w' ⟨rfl, m, rfl⟩
            go_wp2_with fail
            go_roundg (gk - 1)
            case measure => omega
            case rel => exact ⟨k + 1, by omega, by omega, by go_num, fun i hi => by
              by_cases e : i = k
              · subst e; exact HST.out
              · exact HS.out i (by omega), ((HA.out.drew m).set HLEN.out true).to HSET.out⟩
      · obtain rfl : k = n := by omega
        have HY := Lib.hid (tourB_yes HL.out HS.out)
        go_wp2_with fail
        go_ret
        exact says HY.out.symm HA.out.below
  · rw [tourB_no0 hl]
    obtain ⟨ao, cap, rfl⟩ := hu.long
    have hne : ((T.length : Int) != (n : Int)) = true := by simp; omega
    clear hu
    go_enter Try.func87, Try.ntmps87
    go_wp2_with fail
    go_ret
    exact says rfl (Below.refl _ _)
theorem l04Tour_is (t : Bool) (u : Value) (T : List Int) (n : Nat) (w : World) (hu : IL w u T) (n1 : 1 ≤ n) (n2 : n ≤ 64) (ht : tourB T n = t) :
    Calls Try.prog 87 #[u, .int .i64 n] w (Says t w) := by subst ht; exact l04Tour_any u T n w hu n1 n2
end Go.Proofs.Ytgiijkbgbpohoaa
