/- Orders of cities: the model's test, and how long a tour is. -/
import Derived.Test.YtknonlbbakbpiaaTourS
import Derived.Test.YtknonlbbakbpiaaRowA
namespace Go.Proofs.Ytknonlbbakbpiaa
open Go.RowKit Go.ChangeShapes Go.WideShapes

theorem Try.infoB : (Try.prog.info? 4).map (fun i => (i.zero, i.size, i.bytes)) = some (some (.bool false), 1, 1) := by kernel_rfl
theorem Arr.made_b {w : World} {n B e : Nat} (h : w.ownsRow B e 1 (.slice (some ⟨B, 0, none⟩) n n) n (madeCells (Value.bool false).cells (n * 1)).toList) : Arr Value.bool false w B 0 (List.replicate n false) := by
  refine ⟨fun i hi => ?_, h.frozenAt⟩
  rw [List.length_replicate] at hi
  rw [Nat.zero_add, h.cellAt i (by omega)]
  rcases made_one (.bool false) n hi with h1 | h1
  · rw [h1]; simp [Value.cells, List.getD, hi]
  · exact absurd rfl h1
/-- A row of words of the call's own in block B. -/
structure RowB (w : World) (B : Nat) (Z : List Bool) (wr : World) : Prop where
  below : Below w.heap.size w wr
  lt : B < wr.heap.size
  ge : w.heap.size ≤ B
  arr : Arr Value.bool false wr B 0 Z
theorem RowB.drew {w wr : World} {B : Nat} {Z : List Bool} (h : RowB w B Z wr) (n : Nat) : RowB w B Z (wr.drewN n) := ⟨below_drewN h.below n, h.lt, h.ge, h.arr.drewN n⟩
theorem RowB.set {w wr : World} {B : Nat} {Z : List Bool} (h : RowB w B Z wr) {i : Nat} (hi : i < Z.length) (x : Bool) : RowB w B (Z.set i x) (wr.setCell ⟨B, i, none⟩ (.bool x)) :=
  ⟨h.below.setCell h.ge _, by simpa using h.lt, h.ge, h.arr.set0 hi x⟩
theorem RowB.to {w wr : World} {B : Nat} {Z Y : List Bool} (h : RowB w B Z wr) (e : Z = Y) : RowB w B Y wr := e ▸ h
theorem RowB.cell {w wr : World} {B : Nat} {Z : List Bool} (h : RowB w B Z wr) {i : Nat} (hi : i < Z.length) : wr.cell? ⟨B, i, none⟩ = some (.bool (Z.getD i false)) := h.arr.cell0 hi
/-- Whether a city is among the first k of a list. -/
def seenB (T : List Int) : Nat → Nat → Bool
  | 0, _ => false
  | k + 1, x => decide (x = tN T k) || seenB T k x
def allB (f : Nat → Bool) (n : Nat) : List Bool := (List.range n).map f
theorem allB_len (f : Nat → Bool) (n : Nat) : (allB f n).length = n := by simp [allB]
theorem allB_at {f : Nat → Bool} {n x : Nat} (h : x < n) : (allB f n).getD x false = f x := by simp [allB, List.getD, h]
theorem allB_rep (T : List Int) (n : Nat) : List.replicate n false = allB (seenB T 0) n := by
  refine List.ext_getElem (by simp [allB]) fun i h1 h2 => ?_
  simp [allB, seenB]
theorem seen_set {T : List Int} {k n : Nat} : (allB (seenB T k) n).set (tN T k) true = allB (seenB T (k + 1)) n := by
  refine List.ext_getElem (by simp [allB]) fun i h1 h2 => ?_
  rw [List.getElem_set]
  by_cases e : tN T k = i
  · rw [if_pos e]; simp [allB, seenB, e]
  · have e2 : ¬ i = tN T k := fun h => e h.symm
    rw [if_neg e]; simp [allB, seenB, e2]
def stepB (T : List Int) (n i : Nat) : Bool := (decide (0 ≤ T.getD i 0) && decide (T.getD i 0 ≤ (n : Int) - 1)) && !seenB T i (tN T i)
def tourB (T : List Int) (n : Nat) : Bool := decide (T.length = n) && (List.range n).all fun i => stepB T n i
theorem tourB_no0 {T : List Int} {n : Nat} (h : T.length ≠ n) : tourB T n = false := by unfold tourB; rw [decide_eq_false h, Bool.false_and]
theorem tourB_no {T : List Int} {n k : Nat} (hk : k < n) (h : stepB T n k = false) : tourB T n = false := by
  unfold tourB
  rw [Bool.and_eq_false_iff]
  right
  rw [List.all_eq_false]
  exact ⟨k, List.mem_range.2 hk, by rw [h]; simp⟩
theorem tourB_yes {T : List Int} {n : Nat} (h : T.length = n) (ha : ∀ i, i < n → stepB T n i = true) : tourB T n = true := by
  unfold tourB
  rw [decide_eq_true h, Bool.true_and, List.all_eq_true]
  exact fun i hi => ha i (List.mem_range.1 hi)
theorem tourB_ok {T : List Int} {n : Nat} (h : tourB T n = true) : TourOk T n := by
  unfold tourB at h
  rw [Bool.and_eq_true, List.all_eq_true] at h
  refine ⟨by simpa using h.1, fun i hi => ?_⟩
  have h2 := h.2 i (List.mem_range.2 hi)
  unfold stepB at h2
  simp only [Bool.and_eq_true, decide_eq_true_eq] at h2
  unfold tN
  constructor <;> omega
set_option maxRecDepth 100000 in
set_option maxHeartbeats 4000000 in
theorem l04Tour_any (u : Value) (T : List Int) (n : Nat) (w : World) (hu : IL w u T) (n1 : 1 ≤ n) (n2 : n ≤ 10) :
    Calls Try.prog 140 #[u, .int .i64 n] w (Says (tourB T n) w) := by
  obtain ⟨i0, hi, hz0, hz1, hz2⟩ := info_parts Try.infoB
  have HU := Lib.hid hu
  by_cases hl : T.length = n
  · rcases hu with ⟨hz, -⟩ | ⟨b2, off2, cap2, rfl, hpos2, hbl2, hcell2⟩
    · rw [hz] at hl; simp at hl; omega
    have HC2 := Lib.hid hcell2
    have HL := Lib.hid hl
    rw [hl]
    have hn1 : IntKind.i64.wrap ((n : Int) - 1) = (n : Int) - 1 := IntWalk.i64_in _ (by omega)
    have hne : ((n : Int) != (n : Int)) = false := by simp
    clear hcell2 hl hpos2
    go_enter Try.func140, Try.ntmps140
    go_wp2_with (at_make; refine wpList_make_full _ rfl _ _ 25 rfl w.heap.size 4 i0 (.bool false) 1 Try.underlying25 hi hz0 hz1 _ _ _ _ n rfl rfl rfl rfl (by rw [hz2]; omega) (by unfold maxLen; omega) (Nat.le_refl _) ?_; intro w2 hown hgrow; have bm := (Below.refl w.heap.size w).grown hgrow (Nat.le_refl _) (fun g hg => by cases hg); have hA := Lib.hid (show RowB w w.heap.size (List.replicate n false) w2 from ⟨bm, (hown.lt _ rfl).2, Nat.le_refl _, Arr.made_b hown⟩); clear hown hgrow bm)
    go_loopg [6] n (fun gk s wr => ∃ k : Nat, k ≤ n ∧ gk + k = n ∧ s = .int .i64 k ∧ (∀ i, i < k → stepB T n i = true) ∧ RowB w w.heap.size (allB (seenB T k) n) wr)
    case atStart => exact ⟨0, Nat.zero_le _, by omega, rfl, fun i hi => by omega, hA.out.to (allB_rep T n)⟩
    case round =>
      clear hA
      obtain ⟨k, hk, hgk, rfl, hall, hat⟩ := hrel
      have HS := Lib.hid hall
      have HA := Lib.hid hat
      clear hall hat
      by_cases hlt : k < n
      · have x1 := (show wr.cell? ⟨b2, off2 + k, none⟩ = some (.int .i64 (T.getD k 0)) by rw [HA.out.below.cell (p := ⟨b2, off2 + k, none⟩) hbl2]; exact HC2.out k (by rw [HL.out]; exact hlt))
        cases hin : (decide (0 ≤ T.getD k 0) && decide (T.getD k 0 ≤ (n : Int) - 1)) with
        | false =>
          have HN := Lib.hid (tourB_no (T := T) (n := n) hlt (by unfold stepB; rw [hin]; rfl))
          have HIN := Lib.hid hin
          generalize T.getD k 0 = y at x1 HIN
          clear hin
          go_wp2_with fail
          go_at_call 100; refine (l00In_is false y 0 ((n : Int) - 1) _ HIN.out).mono ?_; rintro e w' ⟨rfl, m, rfl⟩
          go_wp2_with fail
          go_ret
          exact says HN.out.symm (below_drewN HA.out.below m)
        | true =>
          have hin2 := hin
          simp only [Bool.and_eq_true, decide_eq_true_eq] at hin2
          obtain ⟨y1, y2⟩ := hin2
          have hc : T.getD k 0 = (tN T k : Int) := by unfold tN; omega
          have hcn : tN T k < n := by unfold tN; omega
          have x2 := HA.out.cell (i := tN T k) (by rw [allB_len]; exact hcn)
          rw [allB_at hcn] at x2
          have hf := HA.out.arr.free (tN T k)
          have HLEN : Hid (tN T k < (allB (seenB T k) n).length) := Lib.hid (by rw [allB_len]; exact hcn)
          have HSET := Lib.hid (seen_set (T := T) (k := k) (n := n))
          have HST : Hid (stepB T n k = !seenB T k (tN T k)) := Lib.hid (by unfold stepB; rw [hin, Bool.true_and])
          have HIN : Hid ((decide ((0 : Int) ≤ (tN T k : Int)) && decide ((tN T k : Int) ≤ (n : Int) - 1)) = true) := Lib.hid (by rw [← hc]; exact hin)
          rw [hc] at x1
          clear hin y1 y2 hc
          generalize tN T k = c at x1 x2 hf HLEN HSET HST HIN hcn
          have lc : (c : Int) < (n : Int) := by omega
          cases hsn : seenB T k c with
          | true =>
            rw [hsn] at x2 HST
            have HN := Lib.hid (tourB_no (T := T) (n := n) hlt HST.out)
            clear hsn
            go_wp2_with fail
            go_at_call 100; refine (l00In_is true c 0 ((n : Int) - 1) _ HIN.out).mono ?_; rintro e w' ⟨rfl, m, rfl⟩
            go_wp2_with fail
            go_ret
            exact says HN.out.symm (below_drewN HA.out.below m)
          | false =>
            rw [hsn] at x2 HST
            clear hsn
            go_wp2_with fail
            go_at_call 100; refine (l00In_is true c 0 ((n : Int) - 1) _ HIN.out).mono ?_; rintro e w' ⟨rfl, m, rfl⟩
            go_wp2_with fail
            go_roundg (gk - 1)
            case measure => omega
            case rel => exact ⟨k + 1, by omega, by omega, by go_num, fun i hi => by
              by_cases e : i = k
              · subst e; exact HST.out
              · exact HS.out i (by omega), ((HA.out.drew m).set HLEN.out true).to HSET.out⟩
      · obtain rfl : k = n := by omega
        have HY := Lib.hid (tourB_yes HL.out HS.out)
        go_wp2_with fail
        go_ret
        exact says HY.out.symm HA.out.below
  · rw [tourB_no0 hl]
    obtain ⟨ao, cap, rfl⟩ := hu.long
    have hne : ((T.length : Int) != (n : Int)) = true := by simp; omega
    clear hu
    go_enter Try.func140, Try.ntmps140
    go_wp2_with fail
    go_ret
    exact says rfl (Below.refl _ _)
def validB (L T : List Int) : Bool := cityB L && tourB T (rootN L.length)
set_option maxHeartbeats 2000000 in
theorem l04Valid_any (v u : Value) (L T : List Int) (w : World) (hv : IL w v L) (hu : IL w u T) (hn : L.length ≤ 1048576) :
    Calls Try.prog 75 #[v, u] w (Says (validB L T) w) := by
  unfold validB
  have HV := Lib.hid hv
  have HU := Lib.hid hu
  obtain ⟨ao, cap, rfl⟩ := hv.long
  obtain ⟨ao2, cap2, rfl⟩ := hu.long
  clear hv hu
  have CALL := Lib.hid (l04Count_any _ L _ HV.out hn)
  cases h : cityB L with
  | false =>
    rw [cityN_no h] at CALL
    clear h
    go_enter Try.func75, Try.ntmps75
    go_wp2_with fail
    go_at_call 139; refine (CALL.out).mono ?_; rintro e w' ⟨rfl, m, rfl⟩
    go_wp2_with fail
    go_ret
    exact says rfl (below_drewN (Below.refl _ _) m)
  | true =>
    rw [cityN_yes h] at CALL
    have hr := rootN_in L.length
    generalize rootN L.length = n at CALL hr
    obtain ⟨n1, n2⟩ := hr
    have hp : decide ((0 : Int) < (n : Int)) = true := by simp; omega
    clear h
    go_enter Try.func75, Try.ntmps75
    go_wp2_with fail
    go_at_call 139; refine (CALL.out).mono ?_; rintro e w' ⟨rfl, m, rfl⟩
    go_wp2_with fail
    go_at_call 140; refine (l04Tour_any _ T n _ (VL.drewN HU.out _) n1 n2).mono ?_; rintro e w' ⟨rfl, b⟩
    have B := Lib.hid ((below_drewN (Below.refl w.heap.size w) m).trans b)
    clear b
    go_wp2_with fail
    go_ret
    exact says rfl B.out
theorem l04Valid_is (t : Bool) (v u : Value) (L T : List Int) (w : World) (hv : IL w v L) (hu : IL w u T) (hn : L.length ≤ 1048576) (ht : validB L T = t) :
    Calls Try.prog 75 #[v, u] w (Says t w) := by subst ht; exact l04Valid_any v u L T w hv hu hn
def tlI (L T : List Int) : Int := if validB L T then longT L T (rootN L.length) (rootN L.length) else 0
theorem tlI_yes {L T : List Int} (h : validB L T = true) : tlI L T = longT L T (rootN L.length) (rootN L.length) := by unfold tlI; rw [if_pos h]
theorem tlI_no {L T : List Int} (h : validB L T = false) : tlI L T = 0 := by unfold tlI; rw [h]; rfl
end Go.Proofs.Ytknonlbbakbpiaa
