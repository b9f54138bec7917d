/- Letters and clauses: the model's side. -/
import Derived.Test.YtnakpfbeeekmiaaClP
import Derived.Test.YtnakpfbeeekmiaaArr
import Derived.Deep.QuietTactic
import Derived.BigQuiet
namespace Go.Proofs.Ytnakpfbeeekmiaa
open Go.RowKit Go.ChangeShapes Go.WideShapes

theorem Try.infoB : (Try.prog.info? 4).map (fun i => (i.zero, i.size, i.bytes)) = some (some (.bool false), 1, 1) := by kernel_rfl
theorem Arr.made_b {w : World} {n B e : Nat} (h : w.ownsRow B e 1 (.slice (some ⟨B, 0, none⟩) n n) n (madeCells (Value.bool false).cells (n * 1)).toList) : Arr Value.bool false w B 0 (List.replicate n false) := by
  refine ⟨fun i hi => ?_, h.frozenAt⟩
  rw [List.length_replicate] at hi
  rw [Nat.zero_add, h.cellAt i (by omega)]
  rcases made_one (.bool false) n hi with h1 | h1
  · rw [h1]; simp [Value.cells, List.getD, hi]
  · exact absurd rfl h1
/-- A row of the call's own in block B. -/
structure BoolAt (w : World) (B : Nat) (Z : List Bool) (wr : World) : Prop where
  below : Below w.heap.size w wr
  lt : B < wr.heap.size
  ge : w.heap.size ≤ B
  arr : Arr Value.bool false wr B 0 Z
theorem BoolAt.drew {w wr : World} {B : Nat} {Z : List Bool} (h : BoolAt w B Z wr) (n : Nat) : BoolAt w B Z (wr.drewN n) := ⟨below_drewN h.below n, h.lt, h.ge, h.arr.drewN n⟩
theorem BoolAt.set {w wr : World} {B : Nat} {Z : List Bool} (h : BoolAt w B Z wr) {i : Nat} (hi : i < Z.length) (x : Bool) : BoolAt w B (Z.set i x) (wr.setCell ⟨B, i, none⟩ (.bool x)) :=
  ⟨h.below.setCell h.ge _, by simpa using h.lt, h.ge, h.arr.set0 hi x⟩
theorem BoolAt.to {w wr : World} {B : Nat} {Z Y : List Bool} (h : BoolAt w B Z wr) (e : Z = Y) : BoolAt w B Y wr := e ▸ h
theorem BoolAt.cell {w wr : World} {B : Nat} {Z : List Bool} (h : BoolAt w B Z wr) {i : Nat} (hi : i < Z.length) : wr.cell? ⟨B, i, none⟩ = some (.bool (Z.getD i false)) := h.arr.cell0 hi
theorem l05Letter_is (x : Int) (w : World) (h1 : -9223372036854775808 < x) (h2 : x ≤ 9223372036854775807) :
    Calls Try.prog 64 #[.int .i64 x] w (fun e w' => e = .returned (.int .i64 (ltr x)) ∧ w = w') := by
  have hw : IntKind.i64.wrap (-x) = -x := by rw [IntKind.wrap_i64]; omega
  by_cases h3 : x < 0
  · have hl : ltr x = -x := by unfold ltr; rw [if_pos h3]
    rw [hl]
    go_enter Try.func64, Try.ntmps64
    go_wp2
    go_ret
    exact ⟨rfl, rfl⟩
  · have hl : ltr x = x := by unfold ltr; rw [if_neg h3]
    rw [hl]
    go_enter Try.func64, Try.ntmps64
    go_wp2
    go_ret
    exact ⟨rfl, rfl⟩
theorem l05Letter_at (x : Int) (a : Nat) (w : World) (h1 : -9223372036854775808 < x) (h2 : x ≤ 9223372036854775807) (h : ltr x = (a : Int)) :
    Calls Try.prog 64 #[.int .i64 x] w (fun e w' => e = .returned (.int .i64 (a : Int)) ∧ w = w') := by
  rw [← h]
  exact l05Letter_is x w h1 h2
theorem l05Letters_is (n : Int) (t : Bool) (w : World) (h : inB n 1 10 = t) : Calls Try.prog 77 #[.int .i64 n] w (Tells t w) := by
  have H0 := Lib.hid (show (decide (1 ≤ n) && decide (n ≤ 10)) = t from h)
  clear h
  go_enter Try.func77, Try.ntmps77
  go_wp2_with fail
  go_at_call 78; refine (l00In_is t n 1 10 _ H0.out).mono ?_; rintro e w' ⟨rfl, m, rfl⟩
  go_wp2_with fail
  go_ret
  exact tells _ rfl
/-- Which letters the first k literals have. -/
def seenL (c : List Int) (k : Nat) : List Bool := (List.range 11).map fun a => seenA c k (a : Nat)
theorem seenL_len (c : List Int) (k : Nat) : (seenL c k).length = 11 := by simp [seenL]
theorem seenL_at {c : List Int} {k a : Nat} (h : a < 11) : (seenL c k).getD a false = seenA c k (a : Nat) := by simp [seenL, List.getD, h]
theorem seenL_zero (c : List Int) : List.replicate 11 false = seenL c 0 := by
  refine List.ext_getElem (by simp [seenL]) fun i h1 h2 => ?_
  rw [List.getElem_replicate]
  simp [seenL, seenA]
theorem seenL_step {c : List Int} {k a : Nat} (e : ltr (c.getD k 0) = (a : Nat)) : (seenL c k).set a true = seenL c (k + 1) := by
  refine List.ext_getElem (by simp [seenL]) fun i h1 h2 => ?_
  rw [List.getElem_set]
  simp only [seenL, List.getElem_map, List.getElem_range]
  rw [seenA_succ, e]
  by_cases h : a = i
  · subst h; simp
  · rw [if_neg h]
    have : ((a : Nat) : Int) ≠ ((i : Nat) : Int) := by omega
    rw [beq_false_of_ne this, Bool.or_false]
theorem litsB_no {n : Int} {c : List Int} {k : Nat} (hk : k < c.length) (h : lit1 n c k = false) : litsB n c = false := rngNot hk h
theorem litsB_yes {n : Int} {c : List Int} (h : ∀ j, j < c.length → lit1 n c j = true) : litsB n c = true := rngAll h
set_option maxRecDepth 100000 in
set_option maxHeartbeats 4000000 in
theorem l05Lits_any (n : Int) (v : Value) (c : List Int) (w : World) (hv : IL w v c) (hn : c.length ≤ 1048576) (n1 : 1 ≤ n) (n2 : n ≤ 10) :
    Calls Try.prog 48 #[.int .i64 n, v] w (Says (litsB n c) w) := by
  obtain ⟨i0, hi, hz0, hz1, hz2⟩ := info_parts Try.infoB
  have hwn : IntKind.i64.wrap (-n) = -n := by rw [IntKind.wrap_i64]; omega
  rcases hv with ⟨rfl, ao, cap, rfl⟩ | ⟨b, off, cap, rfl, hpos, hbl, hcell⟩
  · go_enter Try.func48, Try.ntmps48
    go_wp2_with (at_make; refine wpList_make_full _ rfl _ _ 76 rfl w.heap.size 4 i0 (.bool false) 1 Try.underlying76 hi hz0 hz1 _ _ _ _ 11 rfl rfl rfl rfl (by rw [hz2]; omega) (by unfold maxLen; omega) (Nat.le_refl _) ?_; intro w1 hown hgrow)
    have HB := Lib.hid ((Below.refl _ _).grown hgrow (Nat.le_refl _) (fun g hg => by cases hg))
    clear hown hgrow
    go_wp2_with fail
    refine wp_loop_rounds 1 ?_
    rw [rounds_succ]
    go_wp2
    go_ret
    exact says rfl HB.out
  have HC := Lib.hid hcell
  clear hcell
  go_enter Try.func48, Try.ntmps48
  go_wp2_with (at_make; refine wpList_make_full _ rfl _ _ 76 rfl w.heap.size 4 i0 (.bool false) 1 Try.underlying76 hi hz0 hz1 _ _ _ _ 11 rfl rfl rfl rfl (by rw [hz2]; omega) (by unfold maxLen; omega) (Nat.le_refl _) ?_; intro w1 hown hgrow)
  have H0 : Hid (BoolAt w w.heap.size (seenL c 0) w1) := Lib.hid ⟨(Below.refl _ _).grown hgrow (Nat.le_refl _) (fun g hg => by cases hg), (hown.lt _ rfl).2, Nat.le_refl _, by rw [← seenL_zero]; exact Arr.made_b hown⟩
  clear hown hgrow
  go_wp2_with fail
  go_loopg [10] c.length (fun gk i wr => ∃ k : Nat, k ≤ c.length ∧ gk + k = c.length ∧ i = .int .i64 k ∧ (∀ j, j < k → lit1 n c j = true) ∧ BoolAt w w.heap.size (seenL c k) wr)
  case atStart => exact ⟨0, Nat.zero_le _, by omega, rfl, fun j hj => by omega, H0.out⟩
  case round =>
    obtain ⟨k, hk, hgk, rfl, hall, hA⟩ := hrel
    have HL := Lib.hid hall
    have HA := Lib.hid hA
    clear hall H0
    by_cases hlt : k < c.length
    · have c0 : wr.cell? ⟨b, off + k, none⟩ = some (.int .i64 (c.getD k 0)) := by rw [hA.below.cell (p := ⟨b, off + k, none⟩) hbl]; exact HC.out k hlt
      obtain ⟨x, hx⟩ : ∃ x, x = c.getD k 0 := ⟨_, rfl⟩
      obtain ⟨t, ht⟩ : ∃ t, t = inB x (-n) n := ⟨_, rfl⟩
      have hl1 : lit1 n c k = (t && (!(x == 0) && !seenA c k (ltr x))) := by unfold lit1; rw [ht, hx]
      have H1 := Lib.hid hl1
      have HX := Lib.hid hx
      have HT := Lib.hid (show (decide (-n ≤ x) && decide (x ≤ n)) = t from ht.symm)
      rw [← hx] at c0
      cases t with
      | false =>
        clear hA hl1 hx ht
        go_wp2_with fail
        go_at_call 78; refine (l00In_is false x (-n) n _ HT.out).mono ?_; rintro e w' ⟨rfl, m, rfl⟩
        go_wp2_with fail
        go_ret
        exact says (litsB_no hlt H1.out).symm (below_drewN HA.out.below _)
      | true =>
        obtain ⟨x1, x2⟩ := inB_ok ht.symm
        by_cases hx0 : x = 0
        · have HN : Hid (lit1 n c k = false) := Lib.hid (by rw [hl1, hx0]; rfl)
          have e0 : (x == 0) = true := by simpa using hx0
          clear hA hl1 hx ht hx0
          go_wp2_with fail
          go_at_call 78; refine (l00In_is true x (-n) n _ HT.out).mono ?_; rintro e w' ⟨rfl, m, rfl⟩
          go_wp2_with fail
          go_ret
          exact says (litsB_no hlt HN.out).symm (below_drewN HA.out.below _)
        · have e0 : (x == 0) = false := by simpa using hx0
          obtain ⟨a, ha⟩ : ∃ a : Nat, ltr x = (a : Int) := ⟨(ltr x).toNat, by have := ltr_pos x; omega⟩
          have ha1 : a < 11 := by unfold ltr at ha; split at ha <;> omega
          have ha2 : (a : Int) < 11 := by omega
          obtain ⟨s, hs⟩ : ∃ s, s = seenA c k (a : Nat) := ⟨_, rfl⟩
          have r0 : wr.cell? ⟨w.heap.size, a, none⟩ = some (.bool s) := by rw [hA.cell (by rw [seenL_len]; exact ha1), seenL_at ha1, hs]
          have HAA := Lib.hid ha
          have HN : Hid (lit1 n c k = !s) := Lib.hid (by rw [hl1, ha, ← hs, e0]; rfl)
          have hz : w.heap.size < wr.heap.size := hA.lt
          have rf : wr.frozen? ⟨w.heap.size, a, none⟩ = false := hA.arr.free a
          have HS : Hid (BoolAt w w.heap.size (seenL c (k + 1)) (wr.setCell ⟨w.heap.size, a, none⟩ (.bool true))) := Lib.hid ((hA.set (i := a) (by rw [seenL_len]; exact ha1) true).to (seenL_step (by rw [← hx]; exact ha)))
          clear hA hl1 hx ht hx0 ha hs
          cases s with
          | true =>
            go_wp2_with fail
            go_at_call 78; refine (l00In_is true x (-n) n _ HT.out).mono ?_; rintro e w' ⟨rfl, m, rfl⟩
            go_wp2_with fail
            go_at_call 64; refine (l05Letter_at x a _ (by omega) (by omega) HAA.out).mono ?_; rintro e w' ⟨rfl, rfl⟩
            go_wp2_with fail
            go_ret
            exact says (litsB_no hlt HN.out).symm (below_drewN HA.out.below _)
          | false =>
            go_wp2_with fail
            go_at_call 78; refine (l00In_is true x (-n) n _ HT.out).mono ?_; rintro e w' ⟨rfl, m, rfl⟩
            go_wp2_with fail
            go_at_call 64; refine (l05Letter_at x a _ (by omega) (by omega) HAA.out).mono ?_; rintro e w' ⟨rfl, rfl⟩
            go_wp2_with fail
            go_at_call 64; refine (l05Letter_at x a _ (by omega) (by omega) HAA.out).mono ?_; rintro e w' ⟨rfl, rfl⟩
            go_wp2_with fail
            go_roundg (gk - 1)
            case measure => omega
            case rel => exact ⟨k + 1, by omega, by omega, by go_num, fun j hj => by
              by_cases e : j = k
              · subst e; exact HN.out
              · exact HL.out j (by omega), HS.out.drew m⟩
    · obtain rfl : k = c.length := by omega
      clear hA
      go_wp2_with fail
      go_ret
      exact says (litsB_yes HL.out).symm HA.out.below
theorem spcl_no1 {n : Int} {c : List Int} (h : inB n 1 10 = false) : clB n c = false := by rw [← spcl_eq, spcl, h, Bool.false_and]
theorem spcl_no2 {n : Int} {c : List Int} (h : litsB n c = false) : clB n c = false := by rw [← spcl_eq, spcl, h, Bool.false_and, Bool.and_false]
theorem spcl_no3 {n : Int} {c : List Int} {k : Nat} (hk : k < c.length) (h : ord1 c k = false) : clB n c = false := by rw [← spcl_eq, spcl, rngNot hk h, Bool.and_false, Bool.and_false]
theorem spcl_yes {n : Int} {c : List Int} (h1 : inB n 1 10 = true) (h2 : litsB n c = true) (h3 : ∀ j, j < c.length → ord1 c j = true) : clB n c = true := by rw [← spcl_eq, spcl, h1, h2, rngAll h3]; rfl
theorem litsB_in {n : Int} {c : List Int} (h : litsB n c = true) {i : Nat} (hi : i < c.length) : -n ≤ c.getD i 0 ∧ c.getD i 0 ≤ n := by
  have := rngAt h hi
  unfold lit1 at this
  rw [Bool.and_eq_true] at this
  exact inB_ok this.1
set_option maxRecDepth 100000 in
set_option maxHeartbeats 4000000 in
theorem l05Clause_any (n : Int) (v : Value) (c : List Int) (w : World) (hv : IL w v c) (hn : c.length ≤ 1048576) :
    Calls Try.prog 54 #[.int .i64 n, v] w (Says (clB n c) w) := by
  have HV := Lib.hid hv
  cases h0 : inB n 1 10 with
  | false =>
    have HN := Lib.hid (spcl_no1 (c := c) h0)
    have H0 := Lib.hid h0
    obtain ⟨ao, cap, rfl⟩ := hv.long
    clear hv h0
    go_enter Try.func54, Try.ntmps54
    go_wp2_with fail
    go_at_call 77; refine (l05Letters_is n false _ H0.out).mono ?_; rintro e w' ⟨rfl, m, rfl⟩
    go_wp2_with fail
    go_ret
    exact says HN.out.symm (below_drewN (Below.refl _ _) _)
  | true =>
    obtain ⟨n1, n2⟩ := inB_ok h0
    have H0 := Lib.hid h0
    clear h0
    cases h1 : litsB n c with
    | false =>
      have HN := Lib.hid (spcl_no2 h1)
      obtain ⟨ao, cap, rfl⟩ := hv.long
      have H1 := Lib.hid h1
      clear hv h1
      go_enter Try.func54, Try.ntmps54
      go_wp2_with fail
      go_at_call 77; refine (l05Letters_is n true _ H0.out).mono ?_; rintro e w' ⟨rfl, m, rfl⟩
      go_wp2_with fail
      go_at_call 48; refine (l05Lits_any n _ c _ (VL.drewN HV.out _) hn n1 n2).mono ?_; rintro e w2 ⟨rfl, b⟩
      rw [H1.out]
      have HB := Lib.hid (Below.undrew b)
      clear b
      go_wp2_with fail
      go_ret
      exact says HN.out.symm HB.out
    | true =>
      have H1 := Lib.hid h1
      rcases hv with ⟨rfl, ao, cap, rfl⟩ | ⟨b, off, cap, rfl, hpos, hbl, hcell⟩
      · have HN := Lib.hid (spcl_yes H0.out h1 (fun j hj => by simp at hj))
        clear h1
        go_enter Try.func54, Try.ntmps54
        go_wp2_with fail
        go_at_call 77; refine (l05Letters_is n true _ H0.out).mono ?_; rintro e w' ⟨rfl, m, rfl⟩
        go_wp2_with fail
        go_at_call 48; refine (l05Lits_any n _ [] _ (VL.drewN HV.out _) hn n1 n2).mono ?_; rintro e w2 ⟨rfl, b⟩
        rw [H1.out]
        have HB := Lib.hid (Below.undrew b)
        clear b
        go_wp2_with fail
        refine wp_loop_rounds 1 ?_
        rw [rounds_succ]
        go_wp2
        go_ret
        exact says HN.out.symm HB.out
      have HC := Lib.hid hcell
      clear h1 hcell
      go_enter Try.func54, Try.ntmps54
      go_wp2_with fail
      go_at_call 77; refine (l05Letters_is n true _ H0.out).mono ?_; rintro e w' ⟨rfl, m, rfl⟩
      go_wp2_with fail
      go_at_call 48; refine (l05Lits_any n _ c _ (VL.drewN HV.out _) hn n1 n2).mono ?_; rintro e w2 ⟨rfl, b⟩
      rw [H1.out]
      have HB := Lib.hid (Below.undrew b)
      clear b
      go_wp2_with fail
      go_loopg [5] c.length (fun gk i wr => ∃ k : Nat, 1 ≤ k ∧ k ≤ c.length ∧ gk + k = c.length + 1 ∧ i = .int .i64 k ∧ (∀ j, j < k → ord1 c j = true) ∧ Below w.heap.size w wr)
      case atStart => exact ⟨1, Nat.le_refl _, hpos, by omega, rfl, fun j hj => by
        have hj1 : j < 1 := hj
        obtain rfl : j = 0 := by omega
        rfl, HB.out⟩
      case round =>
        obtain ⟨k, hk1, hk, hgk, rfl, hall, hwr⟩ := hrel
        have HL := Lib.hid hall
        have HW := Lib.hid hwr
        clear hall HB
        by_cases hlt : k < c.length
        · have c0 : wr.cell? ⟨b, off + k, none⟩ = some (.int .i64 (c.getD k 0)) := by rw [hwr.cell (p := ⟨b, off + k, none⟩) hbl]; exact HC.out k hlt
          have d0 : wr.cell? ⟨b, off + (k - 1), none⟩ = some (.int .i64 (c.getD (k - 1) 0)) := by rw [hwr.cell (p := ⟨b, off + (k - 1), none⟩) hbl]; exact HC.out (k - 1) (by omega)
          obtain ⟨x, hx⟩ : ∃ x, x = c.getD k 0 := ⟨_, rfl⟩
          obtain ⟨y, hy⟩ : ∃ y, y = c.getD (k - 1) 0 := ⟨_, rfl⟩
          have x1 := litsB_in H1.out hlt
          have y1 := litsB_in H1.out (i := k - 1) (by omega)
          rw [← hx] at c0 x1
          rw [← hy] at d0 y1
          have HO : Hid (ord1 c k = !decide (ltr x < ltr y)) := Lib.hid (by unfold ord1; rw [hx, hy, decide_eq_false (by omega : ¬ k = 0), Bool.false_or])
          have hsub : IntKind.i64.wrap ((k : Int) - 1) = (k : Int) - 1 := IntWalk.i64_in _ (by omega)
          have hsub1 : ((k : Int) - 1).toNat = k - 1 := by omega
          have hsub2 : (0 : Int) ≤ (k : Int) - 1 := by omega
          have hsub3 : (k : Int) - 1 < (c.length : Int) := by omega
          clear hwr hx hy
          by_cases hxy : ltr x < ltr y
          · have HN := Lib.hid (spcl_no3 (n := n) hlt (by rw [HO.out, decide_eq_true hxy]; rfl))
            go_wp2_with fail
            go_quiet ((go_at_call 64; first | (with_reducible exact Calls.quiet_of_same ((l05Letter_is x _ (by omega) (by omega)).mono fun _ _ ⟨q1, q2⟩ => ⟨q1, q2.symm⟩)) | (with_reducible exact Calls.quiet_of_same ((l05Letter_is y _ (by omega) (by omega)).mono fun _ _ ⟨q1, q2⟩ => ⟨q1, q2.symm⟩))))
            clear hsub hsub1 hsub2 hsub3
            go_wp2_with fail
            go_ret
            exact says HN.out.symm (below_drewN HW.out _)
          · have HN : Hid (ord1 c k = true) := Lib.hid (by rw [HO.out, decide_eq_false hxy]; rfl)
            go_wp2_with fail
            go_quiet ((go_at_call 64; first | (with_reducible exact Calls.quiet_of_same ((l05Letter_is x _ (by omega) (by omega)).mono fun _ _ ⟨q1, q2⟩ => ⟨q1, q2.symm⟩)) | (with_reducible exact Calls.quiet_of_same ((l05Letter_is y _ (by omega) (by omega)).mono fun _ _ ⟨q1, q2⟩ => ⟨q1, q2.symm⟩))))
            clear hsub hsub1 hsub2 hsub3
            go_wp2_with fail
            go_roundg (gk - 1)
            case measure => omega
            case rel => exact ⟨k + 1, by omega, by omega, by omega, by go_num, fun j hj => by
              by_cases e : j = k
              · subst e; exact HN.out
              · exact HL.out j (by omega), below_drewN HW.out _⟩
        · have HN := Lib.hid (spcl_yes H0.out H1.out (fun j hj => HL.out j (by omega)))
          clear hwr
          go_wp2_with fail
          go_ret
          exact says HN.out.symm HW.out
end Go.Proofs.Ytnakpfbeeekmiaa
