/- What UnitsOf needs: ClP Lit ClS Fnd Vf Un0 UnL NrU UnB UnM Va0 Pop Pop48 Am0. -/
import Derived.Test.YtnakpfbeeekmiaaUnitsOfA
import Derived.Deep.LoopGhost
import Derived.WalkSpells
import Derived.Deep.QuietTactic
import Derived.BigQuiet
import Derived.Lib.Builder
import Derived.Deep.RegionLawGrows
import Derived.Deep.AppendLies
import Derived.RowKit
/- Letters and clauses: the program's side. -/
namespace Go.Proofs.Ytnakpfbeeekmiaa
open Go.RowKit Go.ChangeShapes Go.WideShapes

theorem drewM {w wr : World} (h : ∃ n, wr = w.drewN n) (m : Nat) : ∃ n, wr.drewN m = w.drewN n := by
  obtain ⟨n, rfl⟩ := h
  exact ⟨n + m, World.drewN_drewN _ _ _⟩
theorem Tells.from {b : Bool} {w wr : World} {m : Nat} (h : ∀ m, ∃ n, wr.drewN m = w.drewN n) {c : Bool} (e : c = b) : Tells c w (.returned (.bool b)) (wr.drewN m) := by
  obtain ⟨n, hn⟩ := h m
  exact ⟨by rw [e], n, hn⟩
theorem letterOf_is (x : Int) (w : World) (h1 : -9223372036854775808 ≤ x) (h2 : x ≤ 9223372036854775807) :
    Calls Try.prog 120 #[.int .i64 x] w (fun e w' => e = .returned (.int .i64 (lw x)) ∧ w = w') := by
  by_cases h0 : x = -9223372036854775808
  · have hw : IntKind.i64.wrap (-x) = x := by rw [IntKind.wrap_i64]; omega
    have hl : lw x = x := by unfold lw; rw [if_pos h0]
    rw [hl]
    clear h0 hl h1 h2
    go_enter Try.func120, Try.ntmps120
    go_wp2
    go_ret
    exact ⟨rfl, rfl⟩
  · rw [lw_ltr h0]
    have hw : IntKind.i64.wrap (-x) = -x := by rw [IntKind.wrap_i64]; omega
    by_cases h3 : x < 0
    · have hl : ltr x = -x := by unfold ltr; rw [if_pos h3]
      have hm : ¬ (-x ≤ x) := by omega
      have hm2 : x ≤ -x := by omega
      have hmm : max x (-x) = -x := by omega
      rw [hl]
      go_enter Try.func120, Try.ntmps120
      go_wp2
      go_ret
      exact ⟨rfl, rfl⟩
    · have hl : ltr x = x := by unfold ltr; rw [if_neg h3]
      rw [hl]
      have hm : -x ≤ x := by omega
      have hmm : max x (-x) = x := by omega
      go_enter Try.func120, Try.ntmps120
      go_wp2
      go_ret
      exact ⟨rfl, rfl⟩
def letsK (c : List Int) (k : Nat) : List Int := (lets c).take k
theorem lets_take (c : List Int) (k : Nat) (h : k < c.length) : letsK c (k + 1) = letsK c k ++ [lw (c.getD k 0)] := by
  unfold letsK
  rw [List.take_add_one, ← lets_at h]
  have : k < (lets c).length := by rw [lets_len]; exact h
  simp [List.getD, this]
set_option maxRecDepth 100000 in
set_option maxHeartbeats 4000000 in
theorem lettersOf_any (v : Value) (c : List Int) (w : World) (hv : IL w v c) (hn : c.length ≤ 1048576) (hx : ∀ i, -9223372036854775808 ≤ c.getD i 0 ∧ c.getD i 0 ≤ 9223372036854775807) :
    Calls Try.prog 101 #[v] w (Made (Value.int .i64) (0 : Int) (lets c) w) := by
  obtain ⟨i0, hi, hz0, hz1, hz2⟩ := info_parts Try.infoI
  rcases hv with ⟨rfl, ao, cap, rfl⟩ | ⟨b, off, cap, rfl, hpos, hbl, hcell⟩
  · go_enter Try.func101, Try.ntmps101
    go_wp2_with fail
    refine wp_loop_rounds 1 ?_
    rw [rounds_succ]
    go_wp2
    refine bodyPost_ret (results_tmp rfl _ _ _) rfl ?_
    exact ⟨_, rfl, SI.nil _ (Nat.le_refl _) _ _, Below.refl _ _⟩
  have HC := Lib.hid hcell
  have HX := Lib.hid hx
  clear hcell hx
  go_enter Try.func101, Try.ntmps101
  go_wp2_with fail
  go_loopg [3, 8] c.length (fun gk v i wr => ∃ k : Nat, k ≤ c.length ∧ gk + k = c.length ∧ i = .int .i64 k ∧ Below w.heap.size w wr ∧ Grows (Value.int .i64) 2 w.heap.size v (letsK c k) wr)
  case atStart => exact ⟨0, Nat.zero_le _, by omega, rfl, Below.refl _ _, Grows.nil _ _ _ _⟩
  case round =>
    obtain ⟨k, hk, hgk, rfl, hB, hG⟩ := hrel
    have HB := Lib.hid hB
    have HG := Lib.hid hG
    by_cases hlt : k < c.length
    · have HML : Hid ((letsK c k).length = k) := Lib.hid (by unfold letsK; rw [List.length_take, lets_len]; omega)
      have c0 : wr.cell? ⟨b, off + k, none⟩ = some (.int .i64 (c.getD k 0)) := by rw [hB.cell (p := ⟨b, off + k, none⟩) hbl]; exact HC.out k hlt
      have HUP := Lib.hid (lets_take c k hlt)
      have hr := HX.out k
      generalize c.getD k 0 = x at c0 HUP hr
      have HR := Lib.hid hr
      clear hB hG hr
      go_wp2_with fail
      go_at_call 120; refine (letterOf_is x _ HR.out.1 HR.out.2).mono ?_; rintro e w' ⟨rfl, rfl⟩
      go_wp2_with (at_builtin; refine wpList_append_own _ rfl _ _ 25 rfl w.heap.size 2 i0 (.int .i64 0) 1 8 Try.underlying25 hi hz0 hz1 hz2 rfl (by decide) _ _ _ rfl (Grows.alloc HG.out _) ⟨wr.heap.size, 0, none⟩ 1 1 [.int .i64 (lw x)] rfl rfl ?c1 ?c2 ?c3 ?c4 ?c5 ?_)
      case c1 => exact one_new
      case c2 => intro u hu; simp at hu; subst hu; rfl
      case c3 => rw [HML.out]; unfold maxLen; omega
      case c4 => rw [HML.out]; omega
      case c5 => have := HB.out.size; simp; omega
      intro v' w' hown hgrow _
      have HN2 : Hid (Below w.heap.size w w' ∧ Grows (Value.int .i64) 2 w.heap.size v' (letsK c (k + 1)) w') := Lib.hid ⟨(HB.out.alloc HB.out.size _).grown hgrow (by have := HB.out.size; simp; omega) (fun g hg => HG.out.block g hg), by rw [HUP.out]; exact Grows.more (news := [lw x]) rfl hown⟩
      clear hown hgrow c0
      go_wp2_with fail
      go_roundg (gk - 1)
      case measure => omega
      case rel => exact ⟨k + 1, by omega, by omega, by go_num, HN2.out.1, HN2.out.2⟩
    · obtain rfl : k = c.length := by omega
      have HE : Hid (letsK c c.length = lets c) := Lib.hid (List.take_of_length_le (by rw [lets_len]; omega))
      clear hB hG
      go_wp2_with fail
      refine bodyPost_ret (results_tmp rfl _ _ _) rfl ?_
      exact ⟨_, rfl, by have h := HG.out; rw [HE.out] at h; exact h.si, HB.out⟩
theorem alB_step {n : Int} {L : List Int} {k : Nat} (hk : k < L.length) (h : asc1 n L k = false) : alB n L = false := by
  unfold alB
  rw [rngNot hk h, Bool.false_and]
theorem alB_end {n : Int} {L : List Int} (h : ∀ j, j < L.length → asc1 n L j = true) : alB n L = inB n 1 10 := by
  unfold alB
  rw [rngAll h, Bool.true_and]
set_option maxHeartbeats 4000000 in
theorem areLetters_any (n : Int) (v : Value) (L : List Int) (w : World) (hv : IL w v L) (hn : L.length ≤ 1048576) :
    Calls Try.prog 111 #[.int .i64 n, v] w (Tells (alB n L) w) := by
  rcases hv with ⟨rfl, ao, cap, rfl⟩ | ⟨b, off, cap, rfl, hpos, hbl, hcell⟩
  · obtain ⟨t, ht⟩ : ∃ t, t = alB n [] := ⟨_, rfl⟩
    have H0 := Lib.hid (show (decide (1 ≤ n) && decide (n ≤ 10)) = t by rw [ht]; rfl)
    rw [← ht]
    clear ht
    go_enter Try.func111, Try.ntmps111
    go_wp2_with fail
    refine wp_loop_rounds 1 ?_
    rw [rounds_succ]
    go_wp2_with fail
    go_at_call 56; refine (isFrom_is t n 1 10 _ H0.out).mono ?_; rintro e w' ⟨rfl, m, rfl⟩
    go_wp2_with fail
    go_ret
    exact tells _ rfl
  have HC := Lib.hid hcell
  clear hcell
  go_enter Try.func111, Try.ntmps111
  go_wp2_with fail
  go_loopg [9] L.length (fun gk i wr => ∃ k : Nat, k ≤ L.length ∧ gk + k = L.length ∧ i = .int .i64 k ∧ (∀ j, j < k → asc1 n L j = true) ∧ ∃ m, wr = w.drewN m)
  case atStart => exact ⟨0, Nat.zero_le _, by omega, rfl, fun j hj => by omega, 0, rfl⟩
  case round =>
    obtain ⟨k, hk, hgk, rfl, hall, hwr⟩ := hrel
    have HL := Lib.hid hall
    have HW := Lib.hid (drewM hwr)
    clear hall
    by_cases hlt : k < L.length
    · have c0 : wr.cell? ⟨b, off + k, none⟩ = some (.int .i64 (L.getD k 0)) := by obtain ⟨n, rfl⟩ := hwr; exact HC.out k hlt
      by_cases hk0 : k = 0
      · subst hk0
        obtain ⟨t, ht⟩ : ∃ t, t = inB (L.getD 0 0) 1 n := ⟨_, rfl⟩
        have HA : Hid (asc1 n L 0 = t) := Lib.hid (by unfold asc1; rw [ht]; simp)
        generalize L.getD 0 0 = x at c0 ht
        have HT := Lib.hid (show (decide (1 ≤ x) && decide (x ≤ n)) = t from ht.symm)
        clear hwr ht
        rw [Nat.add_zero] at c0
        cases t with
        | false =>
          go_wp2_with fail
          go_at_call 56; refine (isFrom_is false x 1 n _ HT.out).mono ?_; rintro e w' ⟨rfl, m, rfl⟩
          go_wp2_with fail
          go_ret
          exact Tells.from HW.out (alB_step hlt HA.out)
        | true =>
          go_wp2_with fail
          go_at_call 56; refine (isFrom_is true x 1 n _ HT.out).mono ?_; rintro e w' ⟨rfl, m, rfl⟩
          go_wp2_with fail
          go_roundg (gk - 1)
          case measure => omega
          case rel => exact ⟨1, by omega, by omega, by go_num, fun j hj => by obtain rfl : j = 0 := by omega
                                                                              exact HA.out, HW.out m⟩
      · have d0 : wr.cell? ⟨b, off + (k - 1), none⟩ = some (.int .i64 (L.getD (k - 1) 0)) := by obtain ⟨n, rfl⟩ := hwr; exact HC.out (k - 1) (by omega)
        have hgt : decide (0 < k) = true := by simp; omega
        have hgt2 : decide ((0 : Int) < (k : Int)) = true := by simp; omega
        have hsub : ((k : Int) - 1).toNat = k - 1 := by omega
        have hsl : (k : Int) - 1 < (L.length : Int) := by omega
        have hsz : (0 : Int) ≤ (k : Int) - 1 := by omega
        obtain ⟨t, ht⟩ : ∃ t, t = inB (L.getD k 0) 1 n := ⟨_, rfl⟩
        obtain ⟨q, hq⟩ : ∃ q, q = decide (L.getD (k - 1) 0 < L.getD k 0) := ⟨_, rfl⟩
        have HA : Hid (asc1 n L k = (t && q)) := Lib.hid (by unfold asc1; rw [ht, hq, decide_eq_false hk0, Bool.false_or])
        generalize L.getD k 0 = x at c0 ht hq
        generalize L.getD (k - 1) 0 = y at d0 hq
        have HT := Lib.hid (show (decide (1 ≤ x) && decide (x ≤ n)) = t from ht.symm)
        clear hwr ht
        cases t with
        | false =>
          go_wp2_with fail
          go_at_call 56; refine (isFrom_is false x 1 n _ HT.out).mono ?_; rintro e w' ⟨rfl, m, rfl⟩
          go_wp2_with fail
          go_ret
          exact Tells.from HW.out (alB_step hlt HA.out)
        | true =>
          by_cases hyx : y < x
          · have hge : ¬ x ≤ y := by omega
            rw [decide_eq_true hyx] at hq
            subst hq
            go_wp2_with fail
            go_at_call 56; refine (isFrom_is true x 1 n _ HT.out).mono ?_; rintro e w' ⟨rfl, m, rfl⟩
            go_wp2_with fail
            go_roundg (gk - 1)
            case measure => omega
            case rel => exact ⟨k + 1, by omega, by omega, by go_num, fun j hj => by
              by_cases e : j = k
              · subst e; exact HA.out
              · exact HL.out j (by omega), HW.out m⟩
          · have hge : x ≤ y := by omega
            rw [decide_eq_false hyx] at hq
            subst hq
            go_wp2_with fail
            go_at_call 56; refine (isFrom_is true x 1 n _ HT.out).mono ?_; rintro e w' ⟨rfl, m, rfl⟩
            go_wp2_with fail
            go_ret
            exact Tells.from HW.out (alB_step hlt HA.out)
    · obtain rfl : k = L.length := by omega
      obtain ⟨t, ht⟩ : ∃ t, t = alB n L := ⟨_, rfl⟩
      have H0 := Lib.hid (show (decide (1 ≤ n) && decide (n ≤ 10)) = t by rw [ht, alB_end HL.out]; rfl)
      have HTT := Lib.hid ht.symm
      clear ht hwr
      go_wp2_with fail
      go_at_call 56; refine (isFrom_is t n 1 10 _ H0.out).mono ?_; rintro e w' ⟨rfl, m, rfl⟩
      go_wp2_with fail
      go_ret
      exact Tells.from HW.out HTT.out
theorem implClause_any (n : Int) (v : Value) (c : List Int) (w : World) (hv : IL w v c) (hn : c.length ≤ 1048576) (hx : ∀ i, -9223372036854775808 ≤ c.getD i 0 ∧ c.getD i 0 ≤ 9223372036854775807) :
    Calls Try.prog 85 #[.int .i64 n, v] w (Says (clB n c) w) := by
  have HV := Lib.hid hv
  obtain ⟨ao, cap, rfl⟩ := hv.long
  clear hv
  go_enter Try.func85, Try.ntmps85
  go_wp2_with fail
  go_at_call 101; refine (lettersOf_any _ c _ HV.out hn hx).mono ?_; rintro e w1 ⟨v1, rfl, i1, b1⟩
  have I1 := Lib.hid (II.il i1)
  have B1 := Lib.hid b1
  obtain ⟨x1, y1, rfl⟩ := II.len' i1
  clear i1 b1
  go_wp2_with fail
  go_at_call 111; refine (areLetters_any n _ (lets c) _ I1.out (by rw [lets_len]; exact hn)).mono ?_; rintro e w2 ⟨rfl, m, rfl⟩
  go_wp2_with fail
  go_ret
  exact says rfl (below_drewN B1.out _)
end Go.Proofs.Ytnakpfbeeekmiaa
/- Literals of different letters (plain). -/
namespace Go.Proofs.Ytnakpfbeeekmiaa
open Go.RowKit Go.ChangeShapes Go.WideShapes

/-- What literals of different letters are. -/
structure LitsOk (n : Int) (Z : List Int) : Prop where
  rng : ∀ x ∈ Z, 1 ≤ ltr x ∧ ltr x ≤ n
  nd : (Z.map ltr).Nodup
theorem litsB_ok {n : Int} {Z : List Int} (h : litsB n Z = true) : LitsOk n Z := by
  have each : ∀ i, i < Z.length → lit1 n Z i = true := fun i hi => rngAt h hi
  refine ⟨fun x hx => ?_, ?_⟩
  · obtain ⟨i, hi, rfl⟩ := List.getElem_of_mem hx
    have h1 := each i hi
    have e : Z.getD i 0 = Z[i] := by simp [List.getD, hi]
    unfold lit1 at h1
    rw [e] at h1
    simp only [Bool.and_eq_true, Bool.not_eq_true', beq_eq_false_iff_ne] at h1
    have h2 := inB_ok h1.1
    have h3 := h1.2.1
    unfold ltr
    split <;> omega
  · rw [List.nodup_iff_pairwise_ne, List.pairwise_iff_getElem]
    intro i j hi hj hij
    rw [List.length_map] at hi hj
    have h1 := each j hj
    unfold lit1 at h1
    simp only [Bool.and_eq_true, Bool.not_eq_true'] at h1
    have h2 := seenA_no h1.2.2 hij
    rw [show Z.getD i 0 = Z[i] by simp [List.getD, hi], show Z.getD j 0 = Z[j] by simp [List.getD, hj]] at h2
    simpa using h2
theorem litsB_mk {n : Int} {Z : List Int} (h : LitsOk n Z) : litsB n Z = true := by
  refine rngAll fun i hi => ?_
  have hm : Z.getD i 0 ∈ Z := by rw [show Z.getD i 0 = Z[i] by simp [List.getD, hi]]; exact List.getElem_mem _
  have h1 := h.rng _ hm
  unfold lit1
  have h0 : Z.getD i 0 ≠ 0 := by intro e; rw [e] at h1; unfold ltr at h1; omega
  have h2 : inB (Z.getD i 0) (-n) n = true := by
    have : -n ≤ Z.getD i 0 ∧ Z.getD i 0 ≤ n := by
      unfold ltr at h1
      split at h1 <;> omega
    unfold inB
    rw [decide_eq_true this.1, decide_eq_true this.2]; rfl
  have h3 : seenA Z i (ltr (Z.getD i 0)) = false := seenA_none fun j hj e => by
    have nd := h.nd
    rw [List.nodup_iff_pairwise_ne, List.pairwise_iff_getElem] at nd
    have := nd j i (by rw [List.length_map]; omega) (by rw [List.length_map]; exact hi) hj
    rw [show Z.getD j 0 = Z[j] by simp [List.getD, (show j < Z.length by omega)], show Z.getD i 0 = Z[i] by simp [List.getD, hi]] at e
    simp at this
    exact this e
  rw [h2, h3]
  simp only [Bool.not_false, Bool.and_true, Bool.true_and, Bool.not_eq_true', beq_eq_false_iff_ne]
  exact h0
theorem LitsOk.perm {n : Int} {Z Y : List Int} (h : LitsOk n Z) (p : Y.Perm Z) : LitsOk n Y := ⟨fun x hx => h.rng x (p.mem_iff.1 hx), (p.map ltr).nodup_iff.2 h.nd⟩
end Go.Proofs.Ytnakpfbeeekmiaa
/- Letters and clauses: the model's side. -/
namespace Go.Proofs.Ytnakpfbeeekmiaa
open Go.RowKit Go.ChangeShapes Go.WideShapes

theorem Try.infoB : (Try.prog.info? 4).map (fun i => (i.zero, i.size, i.bytes)) = some (some (.bool false), 1, 1) := by kernel_rfl
theorem Arr.made_b {w : World} {n B e : Nat} (h : w.ownsRow B e 1 (.slice (some ⟨B, 0, none⟩) n n) n (madeCells (Value.bool false).cells (n * 1)).toList) : Arr Value.bool false w B 0 (List.replicate n false) := by
  refine ⟨fun i hi => ?_, h.frozenAt⟩
  rw [List.length_replicate] at hi
  rw [Nat.zero_add, h.cellAt i (by omega)]
  rcases made_one (.bool false) n hi with h1 | h1
  · rw [h1]; simp [Value.cells, List.getD, hi]
  · exact absurd rfl h1
/-- A row of the call's own in block B. -/
structure BoolAt (w : World) (B : Nat) (Z : List Bool) (wr : World) : Prop where
  below : Below w.heap.size w wr
  lt : B < wr.heap.size
  ge : w.heap.size ≤ B
  arr : Arr Value.bool false wr B 0 Z
theorem BoolAt.drew {w wr : World} {B : Nat} {Z : List Bool} (h : BoolAt w B Z wr) (n : Nat) : BoolAt w B Z (wr.drewN n) := ⟨below_drewN h.below n, h.lt, h.ge, h.arr.drewN n⟩
theorem BoolAt.set {w wr : World} {B : Nat} {Z : List Bool} (h : BoolAt w B Z wr) {i : Nat} (hi : i < Z.length) (x : Bool) : BoolAt w B (Z.set i x) (wr.setCell ⟨B, i, none⟩ (.bool x)) :=
  ⟨h.below.setCell h.ge _, by simpa using h.lt, h.ge, h.arr.set0 hi x⟩
theorem BoolAt.to {w wr : World} {B : Nat} {Z Y : List Bool} (h : BoolAt w B Z wr) (e : Z = Y) : BoolAt w B Y wr := e ▸ h
theorem BoolAt.cell {w wr : World} {B : Nat} {Z : List Bool} (h : BoolAt w B Z wr) {i : Nat} (hi : i < Z.length) : wr.cell? ⟨B, i, none⟩ = some (.bool (Z.getD i false)) := h.arr.cell0 hi
theorem l05Letter_is (x : Int) (w : World) (h1 : -9223372036854775808 < x) (h2 : x ≤ 9223372036854775807) :
    Calls Try.prog 64 #[.int .i64 x] w (fun e w' => e = .returned (.int .i64 (ltr x)) ∧ w = w') := by
  have hw : IntKind.i64.wrap (-x) = -x := by rw [IntKind.wrap_i64]; omega
  by_cases h3 : x < 0
  · have hl : ltr x = -x := by unfold ltr; rw [if_pos h3]
    rw [hl]
    go_enter Try.func64, Try.ntmps64
    go_wp2
    go_ret
    exact ⟨rfl, rfl⟩
  · have hl : ltr x = x := by unfold ltr; rw [if_neg h3]
    rw [hl]
    go_enter Try.func64, Try.ntmps64
    go_wp2
    go_ret
    exact ⟨rfl, rfl⟩
theorem l05Letter_at (x : Int) (a : Nat) (w : World) (h1 : -9223372036854775808 < x) (h2 : x ≤ 9223372036854775807) (h : ltr x = (a : Int)) :
    Calls Try.prog 64 #[.int .i64 x] w (fun e w' => e = .returned (.int .i64 (a : Int)) ∧ w = w') := by
  rw [← h]
  exact l05Letter_is x w h1 h2
theorem l05Letters_is (n : Int) (t : Bool) (w : World) (h : inB n 1 10 = t) : Calls Try.prog 77 #[.int .i64 n] w (Tells t w) := by
  have H0 := Lib.hid (show (decide (1 ≤ n) && decide (n ≤ 10)) = t from h)
  clear h
  go_enter Try.func77, Try.ntmps77
  go_wp2_with fail
  go_at_call 78; refine (l00In_is t n 1 10 _ H0.out).mono ?_; rintro e w' ⟨rfl, m, rfl⟩
  go_wp2_with fail
  go_ret
  exact tells _ rfl
/-- Which letters the first k literals have. -/
def seenL (c : List Int) (k : Nat) : List Bool := (List.range 11).map fun a => seenA c k (a : Nat)
theorem seenL_len (c : List Int) (k : Nat) : (seenL c k).length = 11 := by simp [seenL]
theorem seenL_at {c : List Int} {k a : Nat} (h : a < 11) : (seenL c k).getD a false = seenA c k (a : Nat) := by simp [seenL, List.getD, h]
theorem seenL_zero (c : List Int) : List.replicate 11 false = seenL c 0 := by
  refine List.ext_getElem (by simp [seenL]) fun i h1 h2 => ?_
  rw [List.getElem_replicate]
  simp [seenL, seenA]
theorem seenL_step {c : List Int} {k a : Nat} (e : ltr (c.getD k 0) = (a : Nat)) : (seenL c k).set a true = seenL c (k + 1) := by
  refine List.ext_getElem (by simp [seenL]) fun i h1 h2 => ?_
  rw [List.getElem_set]
  simp only [seenL, List.getElem_map, List.getElem_range]
  rw [seenA_succ, e]
  by_cases h : a = i
  · subst h; simp
  · rw [if_neg h]
    have : ((a : Nat) : Int) ≠ ((i : Nat) : Int) := by omega
    rw [beq_false_of_ne this, Bool.or_false]
theorem litsB_no {n : Int} {c : List Int} {k : Nat} (hk : k < c.length) (h : lit1 n c k = false) : litsB n c = false := rngNot hk h
theorem litsB_yes {n : Int} {c : List Int} (h : ∀ j, j < c.length → lit1 n c j = true) : litsB n c = true := rngAll h
set_option maxRecDepth 100000 in
set_option maxHeartbeats 4000000 in
theorem l05Lits_any (n : Int) (v : Value) (c : List Int) (w : World) (hv : IL w v c) (hn : c.length ≤ 1048576) (n1 : 1 ≤ n) (n2 : n ≤ 10) :
    Calls Try.prog 48 #[.int .i64 n, v] w (Says (litsB n c) w) := by
  obtain ⟨i0, hi, hz0, hz1, hz2⟩ := info_parts Try.infoB
  have hwn : IntKind.i64.wrap (-n) = -n := by rw [IntKind.wrap_i64]; omega
  rcases hv with ⟨rfl, ao, cap, rfl⟩ | ⟨b, off, cap, rfl, hpos, hbl, hcell⟩
  · go_enter Try.func48, Try.ntmps48
    go_wp2_with (at_make; refine wpList_make_full _ rfl _ _ 76 rfl w.heap.size 4 i0 (.bool false) 1 Try.underlying76 hi hz0 hz1 _ _ _ _ 11 rfl rfl rfl rfl (by rw [hz2]; omega) (by unfold maxLen; omega) (Nat.le_refl _) ?_; intro w1 hown hgrow)
    have HB := Lib.hid ((Below.refl _ _).grown hgrow (Nat.le_refl _) (fun g hg => by cases hg))
    clear hown hgrow
    go_wp2_with fail
    refine wp_loop_rounds 1 ?_
    rw [rounds_succ]
    go_wp2
    go_ret
    exact says rfl HB.out
  have HC := Lib.hid hcell
  clear hcell
  go_enter Try.func48, Try.ntmps48
  go_wp2_with (at_make; refine wpList_make_full _ rfl _ _ 76 rfl w.heap.size 4 i0 (.bool false) 1 Try.underlying76 hi hz0 hz1 _ _ _ _ 11 rfl rfl rfl rfl (by rw [hz2]; omega) (by unfold maxLen; omega) (Nat.le_refl _) ?_; intro w1 hown hgrow)
  have H0 : Hid (BoolAt w w.heap.size (seenL c 0) w1) := Lib.hid ⟨(Below.refl _ _).grown hgrow (Nat.le_refl _) (fun g hg => by cases hg), (hown.lt _ rfl).2, Nat.le_refl _, by rw [← seenL_zero]; exact Arr.made_b hown⟩
  clear hown hgrow
  go_wp2_with fail
  go_loopg [10] c.length (fun gk i wr => ∃ k : Nat, k ≤ c.length ∧ gk + k = c.length ∧ i = .int .i64 k ∧ (∀ j, j < k → lit1 n c j = true) ∧ BoolAt w w.heap.size (seenL c k) wr)
  case atStart => exact ⟨0, Nat.zero_le _, by omega, rfl, fun j hj => by omega, H0.out⟩
  case round =>
    obtain ⟨k, hk, hgk, rfl, hall, hA⟩ := hrel
    have HL := Lib.hid hall
    have HA := Lib.hid hA
    clear hall H0
    by_cases hlt : k < c.length
    · have c0 : wr.cell? ⟨b, off + k, none⟩ = some (.int .i64 (c.getD k 0)) := by rw [hA.below.cell (p := ⟨b, off + k, none⟩) hbl]; exact HC.out k hlt
      obtain ⟨x, hx⟩ : ∃ x, x = c.getD k 0 := ⟨_, rfl⟩
      obtain ⟨t, ht⟩ : ∃ t, t = inB x (-n) n := ⟨_, rfl⟩
      have hl1 : lit1 n c k = (t && (!(x == 0) && !seenA c k (ltr x))) := by unfold lit1; rw [ht, hx]
      have H1 := Lib.hid hl1
      have HX := Lib.hid hx
      have HT := Lib.hid (show (decide (-n ≤ x) && decide (x ≤ n)) = t from ht.symm)
      rw [← hx] at c0
      cases t with
      | false =>
        clear hA hl1 hx ht
        go_wp2_with fail
        go_at_call 78; refine (l00In_is false x (-n) n _ HT.out).mono ?_; rintro e w' ⟨rfl, m, rfl⟩
        go_wp2_with fail
        go_ret
        exact says (litsB_no hlt H1.out).symm (below_drewN HA.out.below _)
      | true =>
        obtain ⟨x1, x2⟩ := inB_ok ht.symm
        by_cases hx0 : x = 0
        · have HN : Hid (lit1 n c k = false) := Lib.hid (by rw [hl1, hx0]; rfl)
          have e0 : (x == 0) = true := by simpa using hx0
          clear hA hl1 hx ht hx0
          go_wp2_with fail
          go_at_call 78; refine (l00In_is true x (-n) n _ HT.out).mono ?_; rintro e w' ⟨rfl, m, rfl⟩
          go_wp2_with fail
          go_ret
          exact says (litsB_no hlt HN.out).symm (below_drewN HA.out.below _)
        · have e0 : (x == 0) = false := by simpa using hx0
          obtain ⟨a, ha⟩ : ∃ a : Nat, ltr x = (a : Int) := ⟨(ltr x).toNat, by have := ltr_pos x; omega⟩
          have ha1 : a < 11 := by unfold ltr at ha; split at ha <;> omega
          have ha2 : (a : Int) < 11 := by omega
          obtain ⟨s, hs⟩ : ∃ s, s = seenA c k (a : Nat) := ⟨_, rfl⟩
          have r0 : wr.cell? ⟨w.heap.size, a, none⟩ = some (.bool s) := by rw [hA.cell (by rw [seenL_len]; exact ha1), seenL_at ha1, hs]
          have HAA := Lib.hid ha
          have HN : Hid (lit1 n c k = !s) := Lib.hid (by rw [hl1, ha, ← hs, e0]; rfl)
          have hz : w.heap.size < wr.heap.size := hA.lt
          have rf : wr.frozen? ⟨w.heap.size, a, none⟩ = false := hA.arr.free a
          have HS : Hid (BoolAt w w.heap.size (seenL c (k + 1)) (wr.setCell ⟨w.heap.size, a, none⟩ (.bool true))) := Lib.hid ((hA.set (i := a) (by rw [seenL_len]; exact ha1) true).to (seenL_step (by rw [← hx]; exact ha)))
          clear hA hl1 hx ht hx0 ha hs
          cases s with
          | true =>
            go_wp2_with fail
            go_at_call 78; refine (l00In_is true x (-n) n _ HT.out).mono ?_; rintro e w' ⟨rfl, m, rfl⟩
            go_wp2_with fail
            go_at_call 64; refine (l05Letter_at x a _ (by omega) (by omega) HAA.out).mono ?_; rintro e w' ⟨rfl, rfl⟩
            go_wp2_with fail
            go_ret
            exact says (litsB_no hlt HN.out).symm (below_drewN HA.out.below _)
          | false =>
            go_wp2_with fail
            go_at_call 78; refine (l00In_is true x (-n) n _ HT.out).mono ?_; rintro e w' ⟨rfl, m, rfl⟩
            go_wp2_with fail
            go_at_call 64; refine (l05Letter_at x a _ (by omega) (by omega) HAA.out).mono ?_; rintro e w' ⟨rfl, rfl⟩
            go_wp2_with fail
            go_at_call 64; refine (l05Letter_at x a _ (by omega) (by omega) HAA.out).mono ?_; rintro e w' ⟨rfl, rfl⟩
            go_wp2_with fail
            go_roundg (gk - 1)
            case measure => omega
            case rel => exact ⟨k + 1, by omega, by omega, by go_num, fun j hj => by
              by_cases e : j = k
              · subst e; exact HN.out
              · exact HL.out j (by omega), HS.out.drew m⟩
    · obtain rfl : k = c.length := by omega
      clear hA
      go_wp2_with fail
      go_ret
      exact says (litsB_yes HL.out).symm HA.out.below
theorem spcl_no1 {n : Int} {c : List Int} (h : inB n 1 10 = false) : clB n c = false := by rw [← spcl_eq, spcl, h, Bool.false_and]
theorem spcl_no2 {n : Int} {c : List Int} (h : litsB n c = false) : clB n c = false := by rw [← spcl_eq, spcl, h, Bool.false_and, Bool.and_false]
theorem spcl_no3 {n : Int} {c : List Int} {k : Nat} (hk : k < c.length) (h : ord1 c k = false) : clB n c = false := by rw [← spcl_eq, spcl, rngNot hk h, Bool.and_false, Bool.and_false]
theorem spcl_yes {n : Int} {c : List Int} (h1 : inB n 1 10 = true) (h2 : litsB n c = true) (h3 : ∀ j, j < c.length → ord1 c j = true) : clB n c = true := by rw [← spcl_eq, spcl, h1, h2, rngAll h3]; rfl
theorem litsB_in {n : Int} {c : List Int} (h : litsB n c = true) {i : Nat} (hi : i < c.length) : -n ≤ c.getD i 0 ∧ c.getD i 0 ≤ n := by
  have := rngAt h hi
  unfold lit1 at this
  rw [Bool.and_eq_true] at this
  exact inB_ok this.1
set_option maxRecDepth 100000 in
set_option maxHeartbeats 4000000 in
theorem l05Clause_any (n : Int) (v : Value) (c : List Int) (w : World) (hv : IL w v c) (hn : c.length ≤ 1048576) :
    Calls Try.prog 54 #[.int .i64 n, v] w (Says (clB n c) w) := by
  have HV := Lib.hid hv
  cases h0 : inB n 1 10 with
  | false =>
    have HN := Lib.hid (spcl_no1 (c := c) h0)
    have H0 := Lib.hid h0
    obtain ⟨ao, cap, rfl⟩ := hv.long
    clear hv h0
    go_enter Try.func54, Try.ntmps54
    go_wp2_with fail
    go_at_call 77; refine (l05Letters_is n false _ H0.out).mono ?_; rintro e w' ⟨rfl, m, rfl⟩
    go_wp2_with fail
    go_ret
    exact says HN.out.symm (below_drewN (Below.refl _ _) _)
  | true =>
    obtain ⟨n1, n2⟩ := inB_ok h0
    have H0 := Lib.hid h0
    clear h0
    cases h1 : litsB n c with
    | false =>
      have HN := Lib.hid (spcl_no2 h1)
      obtain ⟨ao, cap, rfl⟩ := hv.long
      have H1 := Lib.hid h1
      clear hv h1
      go_enter Try.func54, Try.ntmps54
      go_wp2_with fail
      go_at_call 77; refine (l05Letters_is n true _ H0.out).mono ?_; rintro e w' ⟨rfl, m, rfl⟩
      go_wp2_with fail
      go_at_call 48; refine (l05Lits_any n _ c _ (VL.drewN HV.out _) hn n1 n2).mono ?_; rintro e w2 ⟨rfl, b⟩
      rw [H1.out]
      have HB := Lib.hid (Below.undrew b)
      clear b
      go_wp2_with fail
      go_ret
      exact says HN.out.symm HB.out
    | true =>
      have H1 := Lib.hid h1
      rcases hv with ⟨rfl, ao, cap, rfl⟩ | ⟨b, off, cap, rfl, hpos, hbl, hcell⟩
      · have HN := Lib.hid (spcl_yes H0.out h1 (fun j hj => by simp at hj))
        clear h1
        go_enter Try.func54, Try.ntmps54
        go_wp2_with fail
        go_at_call 77; refine (l05Letters_is n true _ H0.out).mono ?_; rintro e w' ⟨rfl, m, rfl⟩
        go_wp2_with fail
        go_at_call 48; refine (l05Lits_any n _ [] _ (VL.drewN HV.out _) hn n1 n2).mono ?_; rintro e w2 ⟨rfl, b⟩
        rw [H1.out]
        have HB := Lib.hid (Below.undrew b)
        clear b
        go_wp2_with fail
        refine wp_loop_rounds 1 ?_
        rw [rounds_succ]
        go_wp2
        go_ret
        exact says HN.out.symm HB.out
      have HC := Lib.hid hcell
      clear h1 hcell
      go_enter Try.func54, Try.ntmps54
      go_wp2_with fail
      go_at_call 77; refine (l05Letters_is n true _ H0.out).mono ?_; rintro e w' ⟨rfl, m, rfl⟩
      go_wp2_with fail
      go_at_call 48; refine (l05Lits_any n _ c _ (VL.drewN HV.out _) hn n1 n2).mono ?_; rintro e w2 ⟨rfl, b⟩
      rw [H1.out]
      have HB := Lib.hid (Below.undrew b)
      clear b
      go_wp2_with fail
      go_loopg [5] c.length (fun gk i wr => ∃ k : Nat, 1 ≤ k ∧ k ≤ c.length ∧ gk + k = c.length + 1 ∧ i = .int .i64 k ∧ (∀ j, j < k → ord1 c j = true) ∧ Below w.heap.size w wr)
      case atStart => exact ⟨1, Nat.le_refl _, hpos, by omega, rfl, fun j hj => by
        have hj1 : j < 1 := hj
        obtain rfl : j = 0 := by omega
        rfl, HB.out⟩
      case round =>
        obtain ⟨k, hk1, hk, hgk, rfl, hall, hwr⟩ := hrel
        have HL := Lib.hid hall
        have HW := Lib.hid hwr
        clear hall HB
        by_cases hlt : k < c.length
        · have c0 : wr.cell? ⟨b, off + k, none⟩ = some (.int .i64 (c.getD k 0)) := by rw [hwr.cell (p := ⟨b, off + k, none⟩) hbl]; exact HC.out k hlt
          have d0 : wr.cell? ⟨b, off + (k - 1), none⟩ = some (.int .i64 (c.getD (k - 1) 0)) := by rw [hwr.cell (p := ⟨b, off + (k - 1), none⟩) hbl]; exact HC.out (k - 1) (by omega)
          obtain ⟨x, hx⟩ : ∃ x, x = c.getD k 0 := ⟨_, rfl⟩
          obtain ⟨y, hy⟩ : ∃ y, y = c.getD (k - 1) 0 := ⟨_, rfl⟩
          have x1 := litsB_in H1.out hlt
          have y1 := litsB_in H1.out (i := k - 1) (by omega)
          rw [← hx] at c0 x1
          rw [← hy] at d0 y1
          have HO : Hid (ord1 c k = !decide (ltr x < ltr y)) := Lib.hid (by unfold ord1; rw [hx, hy, decide_eq_false (by omega : ¬ k = 0), Bool.false_or])
          have hsub : IntKind.i64.wrap ((k : Int) - 1) = (k : Int) - 1 := IntWalk.i64_in _ (by omega)
          have hsub1 : ((k : Int) - 1).toNat = k - 1 := by omega
          have hsub2 : (0 : Int) ≤ (k : Int) - 1 := by omega
          have hsub3 : (k : Int) - 1 < (c.length : Int) := by omega
          clear hwr hx hy
          by_cases hxy : ltr x < ltr y
          · have HN := Lib.hid (spcl_no3 (n := n) hlt (by rw [HO.out, decide_eq_true hxy]; rfl))
            go_wp2_with fail
            go_quiet ((go_at_call 64; first | (with_reducible exact Calls.quiet_of_same ((l05Letter_is x _ (by omega) (by omega)).mono fun _ _ ⟨q1, q2⟩ => ⟨q1, q2.symm⟩)) | (with_reducible exact Calls.quiet_of_same ((l05Letter_is y _ (by omega) (by omega)).mono fun _ _ ⟨q1, q2⟩ => ⟨q1, q2.symm⟩))))
            clear hsub hsub1 hsub2 hsub3
            go_wp2_with fail
            go_ret
            exact says HN.out.symm (below_drewN HW.out _)
          · have HN : Hid (ord1 c k = true) := Lib.hid (by rw [HO.out, decide_eq_false hxy]; rfl)
            go_wp2_with fail
            go_quiet ((go_at_call 64; first | (with_reducible exact Calls.quiet_of_same ((l05Letter_is x _ (by omega) (by omega)).mono fun _ _ ⟨q1, q2⟩ => ⟨q1, q2.symm⟩)) | (with_reducible exact Calls.quiet_of_same ((l05Letter_is y _ (by omega) (by omega)).mono fun _ _ ⟨q1, q2⟩ => ⟨q1, q2.symm⟩))))
            clear hsub hsub1 hsub2 hsub3
            go_wp2_with fail
            go_roundg (gk - 1)
            case measure => omega
            case rel => exact ⟨k + 1, by omega, by omega, by omega, by go_num, fun j hj => by
              by_cases e : j = k
              · subst e; exact HN.out
              · exact HL.out j (by omega), below_drewN HW.out _⟩
        · have HN := Lib.hid (spcl_yes H0.out H1.out (fun j hj => HL.out j (by omega)))
          clear hwr
          go_wp2_with fail
          go_ret
          exact says HN.out.symm HW.out
end Go.Proofs.Ytnakpfbeeekmiaa
/- What a search answers. -/
namespace Go.Proofs.Ytnakpfbeeekmiaa
open Go.RowKit Go.ChangeShapes Go.WideShapes

def FoundP (t : Bool) (w : World) (e : Ending) (w' : World) : Prop := ((t = true ∧ ∃ k : Nat, e = .returned (.int .i64 k)) ∨ (t = false ∧ e = .returned (.int .i64 (-1)))) ∧ Below w.heap.size w w'
end Go.Proofs.Ytnakpfbeeekmiaa
/- Valid forms: both sides. -/
namespace Go.Proofs.Ytnakpfbeeekmiaa
open Go.RowKit Go.ChangeShapes Go.WideShapes

def allCl (n : Int) (C : List (List Int)) : Bool := (List.range C.length).all fun i => clB n (C.getD i [])
def formB (F : Fm) : Bool := inB F.letters 1 10 && (decide (F.cs.length ≤ 48) && allCl F.letters F.cs)
theorem allCl_no {n : Int} {C : List (List Int)} {k : Nat} (hk : k < C.length) (h : clB n (C.getD k []) = false) : allCl n C = false := rngNot hk h
theorem allCl_yes {n : Int} {C : List (List Int)} (h : ∀ k, k < C.length → clB n (C.getD k []) = true) : allCl n C = true := rngAll h
theorem formB_1 {F : Fm} (h : inB F.letters 1 10 = false) : formB F = false := by unfold formB; rw [h, Bool.false_and]
theorem formB_2 {F : Fm} (h : ¬ F.cs.length ≤ 48) : formB F = false := by unfold formB; rw [decide_eq_false h, Bool.false_and, Bool.and_false]
theorem formB_3 {F : Fm} (h1 : inB F.letters 1 10 = true) (h2 : F.cs.length ≤ 48) : formB F = allCl F.letters F.cs := by unfold formB; rw [h1, decide_eq_true h2, Bool.true_and, Bool.true_and]
/-- What a valid form is. -/
structure FormOk (F : Fm) : Prop where
  n1 : 1 ≤ F.letters
  n2 : F.letters ≤ 10
  few : F.cs.length ≤ 48
  cl : ∀ i, i < F.cs.length → ClOk F.letters (F.cs.getD i [])
theorem formB_ok {F : Fm} (h : formB F = true) : FormOk F := by
  unfold formB at h
  simp only [Bool.and_eq_true, decide_eq_true_eq] at h
  have h1 := inB_ok h.1
  exact ⟨h1.1, h1.2, h.2.1, fun i hi => clB_ok (rngAt h.2.2 hi)⟩
/-- Does one of the first k lists fail? -/
theorem areCl1_any (n : Int) (B : Nat) (u : Value) (c : List Int) (w : World) (hu : IL w u c) (hB : w.cell? ⟨B, 0, none⟩ = some (.int .i64 n)) (hn : c.length ≤ 1048576) (hx : ∀ i, -9223372036854775808 ≤ c.getD i 0 ∧ c.getD i 0 ≤ 9223372036854775807) :
    Calls Try.prog 96 #[u, .pointer (some ⟨B, 0, none⟩)] w (Says (!clB n c) w) := by
  have HU := Lib.hid hu
  obtain ⟨ao, cap, rfl⟩ := hu.long
  clear hu
  go_enter Try.func96, Try.ntmps96
  go_wp2_with fail
  go_at_call 85; refine (implClause_any n _ c _ HU.out hn hx).mono ?_; rintro e w1 ⟨rfl, b⟩
  have HB := Lib.hid b
  clear b
  go_wp2_with fail
  go_ret
  exact says rfl HB.out
set_option maxHeartbeats 1000000 in
theorem indexCl_any (n : Int) (B : Nat) (v : Value) (C : List (List Int)) (w : World) (hv : LV w v C) (hB : w.cell? ⟨B, 0, none⟩ = some (.int .i64 n)) (o : OKL C) :
    Calls Try.prog 121 #[v, .func (.func 96) #[] #[.pointer (some ⟨B, 0, none⟩)]] w (FoundP (!allCl n C) w) := by
  have hn := o.len
  have OK := Lib.hid o
  rcases hv with ⟨rfl, ao, cap, rfl⟩ | ⟨b, off, cap, U, rfl, hpos, hbl, hcell⟩
  · clear hB
    go_enter Try.func121, Try.ntmps121
    go_wp2_with fail
    refine wp_loop_rounds 1 ?_
    rw [rounds_succ]
    go_wp2
    go_ret
    exact ⟨Or.inr ⟨rfl, rfl⟩, Below.refl _ _⟩
  have HC := Lib.hid hcell
  have HX := Lib.hid hB
  have hBl := cell_block hB
  clear hcell hB
  go_enter Try.func121, Try.ntmps121
  go_wp2_with fail
  go_loopg [8] C.length (fun gk i wr => ∃ k : Nat, k ≤ C.length ∧ gk + k = C.length ∧ i = .int .i64 k ∧ (∀ j, j < k → clB n (C.getD j []) = true) ∧ Below w.heap.size w wr)
  case atStart => exact ⟨0, Nat.zero_le _, by omega, rfl, fun j hj => by omega, Below.refl _ _⟩
  case round =>
    obtain ⟨k, hk, hgk, rfl, hall, hwr⟩ := hrel
    have HL := Lib.hid hall
    have HW := Lib.hid hwr
    clear hall
    by_cases hlt : k < C.length
    · have c0 : wr.cell? ⟨b, off + k, none⟩ = some (U k) := by rw [hwr.cell (p := ⟨b, off + k, none⟩) hbl]; exact (HC.out k hlt).1
      have HI := Lib.hid ((HC.out k hlt).2.below hwr (Nat.le_refl _))
      have HB : Hid (wr.cell? ⟨B, 0, none⟩ = some (.int .i64 n)) := Lib.hid (by rw [hwr.cell (p := ⟨B, 0, none⟩) hBl]; exact HX.out)
      clear hwr
      generalize U k = u at c0 HI
      cases q : clB n (C.getD k []) with
      | false =>
        have HQ := Lib.hid q
        clear q
        go_wp2_with fail
        go_at_call 96; refine (areCl1_any n B u (C.getD k []) _ HI.out HB.out (OK.out.short k) (OK.out.in k)).mono ?_; rintro e w1 ⟨rfl, b1⟩
        rw [HQ.out]
        have H1 := Lib.hid (HW.out.trans (b1.mono HW.out.size))
        clear b1 c0
        go_wp2_with fail
        go_ret
        exact ⟨Or.inl ⟨by rw [allCl_no hlt HQ.out]; rfl, k, rfl⟩, H1.out⟩
      | true =>
        have HQ := Lib.hid q
        clear q
        go_wp2_with fail
        go_at_call 96; refine (areCl1_any n B u (C.getD k []) _ HI.out HB.out (OK.out.short k) (OK.out.in k)).mono ?_; rintro e w1 ⟨rfl, b1⟩
        rw [HQ.out]
        have H1 := Lib.hid (HW.out.trans (b1.mono HW.out.size))
        clear b1 c0
        go_wp2_with fail
        go_roundg (gk - 1)
        case measure => omega
        case rel => exact ⟨k + 1, by omega, by omega, by go_num, fun j hj => by
          by_cases e : j = k
          · subst e; exact HQ.out
          · exact HL.out j (by omega), H1.out⟩
    · obtain rfl : k = C.length := by omega
      clear hwr
      go_wp2_with fail
      go_ret
      exact ⟨Or.inr ⟨by rw [allCl_yes HL.out]; rfl, rfl⟩, HW.out⟩
theorem containsCl_any (n : Int) (B : Nat) (v : Value) (C : List (List Int)) (w : World) (hv : LV w v C) (hB : w.cell? ⟨B, 0, none⟩ = some (.int .i64 n)) (o : OKL C) :
    Calls Try.prog 95 #[v, .func (.func 96) #[] #[.pointer (some ⟨B, 0, none⟩)]] w (Says (!allCl n C) w) := by
  have HV := Lib.hid hv
  have HB := Lib.hid hB
  obtain ⟨ao, cap, rfl⟩ := hv.long
  clear hv hB
  go_enter Try.func95, Try.ntmps95
  go_wp2_with fail
  go_at_call 121; refine (indexCl_any n B _ C _ HV.out HB.out o).mono ?_; rintro e w1 ⟨⟨ht, k, rfl⟩ | ⟨ht, rfl⟩, b1⟩
  · have HT := Lib.hid ht
    have H1 := Lib.hid b1
    have hk0 : (0 : Int) ≤ (k : Int) := by omega
    clear ht b1
    go_wp2_with fail
    go_ret
    exact says (by rw [HT.out]) H1.out
  · have HT := Lib.hid ht
    have H1 := Lib.hid b1
    clear ht b1
    go_wp2_with fail
    go_ret
    exact says HT.out.symm H1.out
theorem areClauses_any (n : Int) (v : Value) (C : List (List Int)) (w : World) (hv : LV w v C) (o : OKL C) :
    Calls Try.prog 57 #[.int .i64 n, v] w (Says (allCl n C) w) := by
  have HV := Lib.hid (fun o => hv.below (below_alloc w o) (Nat.le_refl _))
  obtain ⟨ao, cap, rfl⟩ := hv.long
  clear hv
  go_enter Try.func57, Try.ntmps57
  go_wp2_with fail
  go_at_call 95; refine (containsCl_any n w.heap.size _ C _ (HV.out _) (World.cell?_alloc_new _ _ _ _) o).mono ?_; rintro e w1 ⟨rfl, b1⟩
  have H1 := Lib.hid ((below_alloc w _).trans (b1.mono (by simp)))
  clear b1
  go_wp2_with fail
  go_ret
  exact says (by simp) H1.out
set_option maxHeartbeats 1000000 in
theorem implForm_any (v : Value) (F : Fm) (w : World) (hv : FmV w v F) (o : OKFm F) :
    Calls Try.prog 50 #[v] w (Says (formB F) w) := by
  obtain ⟨s1, rfl, g1⟩ := hv
  have G1 := Lib.hid (fun o => g1.below (below_alloc w o) (Nat.le_refl _))
  have OK := Lib.hid o.okl
  have hb0 := Lib.hid (fun o m => below_drewN (below_alloc w o) m)
  obtain ⟨ao, cap, rfl⟩ := g1.long
  clear g1
  cases h1 : inB F.letters 1 10 with
  | false =>
    have HN := Lib.hid (formB_1 h1)
    have H1 := Lib.hid (show (decide (1 ≤ F.letters) && decide (F.letters ≤ 10)) = false from h1)
    clear h1
    go_enter Try.func50, Try.ntmps50
    go_wp2_with fail
    go_at_call 56; refine (isFrom_is false F.letters 1 10 _ H1.out).mono ?_; rintro e w' ⟨rfl, m, rfl⟩
    go_wp2_with fail
    go_ret
    exact says HN.out.symm (hb0.out _ _)
  | true =>
    have H1 := Lib.hid (show (decide (1 ≤ F.letters) && decide (F.letters ≤ 10)) = true from h1)
    by_cases h2 : F.cs.length ≤ 48
    · have HN := Lib.hid (formB_3 h1 h2)
      have h2i : (F.cs.length : Int) ≤ 48 := by omega
      clear h1
      go_enter Try.func50, Try.ntmps50
      go_wp2_with fail
      go_at_call 56; refine (isFrom_is true F.letters 1 10 _ H1.out).mono ?_; rintro e w' ⟨rfl, m, rfl⟩
      go_wp2_with fail
      go_at_call 57; refine (areClauses_any F.letters _ F.cs _ ((G1.out _).drewN m) OK.out).mono ?_; rintro e w1 ⟨rfl, b1⟩
      have HB := Lib.hid ((hb0.out _ _).trans (b1.mono (hb0.out _ _).size))
      clear b1
      go_wp2_with fail
      go_ret
      exact says HN.out.symm HB.out
    · have HN := Lib.hid (formB_2 h2)
      have h2i : ¬ (F.cs.length : Int) ≤ 48 := by omega
      clear h1
      go_enter Try.func50, Try.ntmps50
      go_wp2_with fail
      go_at_call 56; refine (isFrom_is true F.letters 1 10 _ H1.out).mono ?_; rintro e w' ⟨rfl, m, rfl⟩
      go_wp2_with fail
      go_ret
      exact says HN.out.symm (hb0.out _ _)
/-- The form that lies in a box. -/
structure FmAt (w : World) (g : Nat) (F : Fm) : Prop where
  box : ∃ s, Box2 w g (.int .i64 F.letters) s ∧ LV w s F.cs
theorem FmAt.keep {w w' : World} {g : Nat} {F : Fm} (h : FmAt w g F) (b : Below w.heap.size w w') : FmAt w' g F := by
  obtain ⟨s, h1, h2⟩ := h.box
  exact ⟨s, h1.keep b h1.lt, h2.below b (Nat.le_refl _)⟩
theorem FmAt.drewN {w : World} {g : Nat} {F : Fm} (h : FmAt w g F) (m : Nat) : FmAt (w.drewN m) g F := h.keep (below_drewN (Below.refl _ _) m)
theorem FmAt.mk' {w : World} {v : Value} {F : Fm} (h : ∃ s1, v = .agg #[.int .i64 F.letters, s1] ∧ LV w s1 F.cs) (T : TypeId) : ∃ s1, v = .agg #[.int .i64 F.letters, s1] ∧ FmAt (w.alloc (.cells #[.int .i64 F.letters, s1] T)) w.heap.size F := by
  obtain ⟨s1, e, h1⟩ := h
  exact ⟨s1, e, s1, Box2.mk' _ _ _ _, h1.below (below_alloc w _) (Nat.le_refl _)⟩
set_option maxRecDepth 100000 in
set_option maxHeartbeats 4000000 in
theorem l05Is_any (g : Nat) (F : Fm) (w : World) (hg : FmAt w g F) (o : OKFm F) :
    Calls Try.prog 47 #[.pointer (some ⟨g, 0, none⟩)] w (Says (formB F) w) := by
  obtain ⟨s, hb, hs⟩ := hg.box
  have OK := Lib.hid o.okl
  have HBX := Lib.hid hb
  have hgl := hb.lt
  cases h1 : inB F.letters 1 10 with
  | false =>
    have HN := Lib.hid (formB_1 h1)
    have H1 := Lib.hid h1
    obtain ⟨c0, c1⟩ := hb
    clear h1 hs hg
    go_enter Try.func47, Try.ntmps47
    go_wp2_with fail
    go_at_call 77; refine (l05Letters_is F.letters false _ H1.out).mono ?_; rintro e w' ⟨rfl, m, rfl⟩
    go_wp2_with fail
    go_ret
    exact says HN.out.symm (below_drewN (Below.refl _ _) _)
  | true =>
    have H1 := Lib.hid h1
    by_cases h2 : F.cs.length ≤ 48
    · have HN := Lib.hid (formB_3 h1 h2)
      have h2i : ¬ (48 : Int) < (F.cs.length : Int) := by omega
      rcases hs with ⟨hz, ao, cap, rfl⟩ | ⟨b, off, cap, U, rfl, hpos, hbl, hcell⟩
      · obtain ⟨c0, c1⟩ := hb
        have HZ : Hid (true = formB F) := Lib.hid (by rw [HN.out, hz]; rfl)
        clear h1 hg hz HN h2 h2i
        go_enter Try.func47, Try.ntmps47
        go_wp2_with fail
        go_at_call 77; refine (l05Letters_is F.letters true _ H1.out).mono ?_; rintro e w' ⟨rfl, m, rfl⟩
        go_wp2_with fail
        refine wp_loop_rounds 1 ?_
        rw [rounds_succ]
        go_wp2
        go_ret
        exact says HZ.out (below_drewN (Below.refl _ _) _)
      have HC := Lib.hid hcell
      obtain ⟨c0, c1⟩ := hb
      clear h1 hg hcell
      go_enter Try.func47, Try.ntmps47
      go_wp2_with fail
      go_at_call 77; refine (l05Letters_is F.letters true _ H1.out).mono ?_; rintro e w' ⟨rfl, m, rfl⟩
      go_wp2_with fail
      go_loopg [23] F.cs.length (fun gk i wr => ∃ k : Nat, k ≤ F.cs.length ∧ gk + k = F.cs.length ∧ i = .int .i64 k ∧ (∀ j, j < k → clB F.letters (F.cs.getD j []) = true) ∧ Below w.heap.size w wr)
      case atStart => exact ⟨0, Nat.zero_le _, by omega, rfl, fun j hj => by omega, below_drewN (Below.refl _ _) _⟩
      case round =>
        obtain ⟨k, hk, hgk, rfl, hall, hwr⟩ := hrel
        have HL := Lib.hid hall
        have HW := Lib.hid hwr
        clear hall c0 c1
        by_cases hlt : k < F.cs.length
        · obtain ⟨c0, c1⟩ := HBX.out.keep hwr hgl
          have d0 : wr.cell? ⟨b, off + k, none⟩ = some (U k) := by rw [hwr.cell (p := ⟨b, off + k, none⟩) hbl]; exact (HC.out k hlt).1
          have HI := Lib.hid ((HC.out k hlt).2.below hwr (Nat.le_refl _))
          generalize U k = u at d0 HI
          have HD := Lib.hid d0
          have HC0 := Lib.hid c0
          have HC1 := Lib.hid c1
          have hgl2 : g < wr.heap.size := cell_block c0
          have hbl2 : b < wr.heap.size := cell_block d0
          clear hwr
          cases q : clB F.letters (F.cs.getD k []) with
          | false =>
            have HQ := Lib.hid q
            clear q
            go_wp2_with fail
            go_region_held3 (fun w' => w'.cell? ⟨g, 0, none⟩ = some (.int .i64 F.letters) ∧ w'.cell? ⟨g, 1, none⟩ = some (.slice (some ⟨b, off, none⟩) F.cs.length (F.cs.length + cap)) ∧ w'.cell? ⟨b, off + k, none⟩ = some u) (first | exact ⟨c0, c1, d0⟩ | exact S2.out) (first
              | (go_at_call 54; refine (l05Clause_any F.letters u (F.cs.getD k []) _ (VL.drewN HI.out _) (OK.out.short k)).mono ?_; rintro e w3 ⟨rfl, b3⟩; have bz := (below_drewN (Below.refl wr.heap.size wr) 1).trans b3; have H3 := Lib.hid (HW.out.trans (bz.mono HW.out.size)); have S2 : Hid (_ ∧ _ ∧ _) := Lib.hid ⟨keep_cell HC0.out bz hgl2, keep_cell HC1.out bz hgl2, keep_cell HD.out bz hbl2⟩; clear b3 bz; rw [HQ.out]))
            all_goals
              go_wp2_with fail
              go_ret
              exact says (by rw [HN.out, allCl_no hlt HQ.out]) H3.out
          | true =>
            have HQ := Lib.hid q
            clear q
            go_wp2_with fail
            go_region_held3 (fun w' => w'.cell? ⟨g, 0, none⟩ = some (.int .i64 F.letters) ∧ w'.cell? ⟨g, 1, none⟩ = some (.slice (some ⟨b, off, none⟩) F.cs.length (F.cs.length + cap)) ∧ w'.cell? ⟨b, off + k, none⟩ = some u) (first | exact ⟨c0, c1, d0⟩ | exact S2.out) (first
              | (go_at_call 54; refine (l05Clause_any F.letters u (F.cs.getD k []) _ (VL.drewN HI.out _) (OK.out.short k)).mono ?_; rintro e w3 ⟨rfl, b3⟩; have bz := (below_drewN (Below.refl wr.heap.size wr) 1).trans b3; have H3 := Lib.hid (HW.out.trans (bz.mono HW.out.size)); have S2 : Hid (_ ∧ _ ∧ _) := Lib.hid ⟨keep_cell HC0.out bz hgl2, keep_cell HC1.out bz hgl2, keep_cell HD.out bz hbl2⟩; clear b3 bz; rw [HQ.out]))
            all_goals
              go_wp2_with fail
              go_roundg (gk - 1)
              case measure => omega
              case rel => exact ⟨k + 1, by omega, by omega, by go_num, fun j hj => by
                by_cases e : j = k
                · subst e; exact HQ.out
                · exact HL.out j (by omega), H3.out⟩
        · have HE : Hid (true = formB F) := Lib.hid (by rw [HN.out, allCl_yes fun j hj => HL.out j (by omega)])
          clear hwr
          go_wp2_with fail
          go_ret
          exact says HE.out HW.out
    · have HN := Lib.hid (formB_2 h2)
      have h2i : (48 : Int) < (F.cs.length : Int) := by omega
      obtain ⟨ao, cap, rfl⟩ := hs.long
      obtain ⟨c0, c1⟩ := hb
      clear h1 hg hs
      go_enter Try.func47, Try.ntmps47
      go_wp2_with fail
      go_at_call 77; refine (l05Letters_is F.letters true _ H1.out).mono ?_; rintro e w' ⟨rfl, m, rfl⟩
      go_wp2_with fail
      go_ret
      exact says HN.out.symm (below_drewN (Below.refl _ _) _)
end Go.Proofs.Ytnakpfbeeekmiaa
/- What must hold then: units (plain). -/
namespace Go.Proofs.Ytnakpfbeeekmiaa

/-- No number stands beside its opposite. -/
def Cons (K : List Int) : Prop := ∀ y, inS K y = true → inS K (-y) = false
theorem cons_of {n : Int} {K : List Int} (h : LitsOk n K) : Cons K := fun y hy => by
  cases hq : inS K (-y) with
  | false => rfl
  | true =>
    exfalso
    have h1 := inS_mem.1 hy
    have h2 := inS_mem.1 hq
    have hl := (h.rng y h1).1
    obtain ⟨i, hi, ei⟩ := List.getElem_of_mem h1
    obtain ⟨j, hj, ej⟩ := List.getElem_of_mem h2
    have e : ltr (-y) = ltr y := by unfold ltr; split <;> split <;> omega
    have hnd := List.pairwise_iff_getElem.1 h.nd
    rcases Nat.lt_trichotomy i j with q | q | q
    · exact hnd i j (by simpa using hi) (by simpa using hj) q (by simp [ei, ej, e])
    · subst q
      rw [ei] at ej
      unfold ltr at hl
      split at hl <;> omega
    · exact hnd j i (by simpa using hj) (by simpa using hi) q (by simp [ei, ej, e])
theorem litsOk_len {n : Int} {K : List Int} (n1 : 1 ≤ n) (n2 : n ≤ 10) (h : LitsOk n K) : K.length ≤ 10 := by
  have hp := List.mergeSort_perm K fun a b => decide (ltr a ≤ ltr b)
  have ho := h.perm hp
  have hs := List.pairwise_mergeSort (le := fun a b => decide (ltr a ≤ ltr b)) (fun a b c h1 h2 => by simp only [decide_eq_true_eq] at *; omega) (fun a b => by simp only [Bool.or_eq_true, decide_eq_true_eq]; omega) K
  have hr : Rise (K.mergeSort fun a b => decide (ltr a ≤ ltr b)) := by
    rw [Rise, List.pairwise_iff_getElem]
    intro i j hi hj hij
    have h1 := (List.pairwise_iff_getElem.1 hs) i j hi hj hij
    have h2 := (List.pairwise_iff_getElem.1 ho.nd) i j (by simpa using hi) (by simpa using hj) hij
    simp only [decide_eq_true_eq] at h1
    simp only [List.getElem_map] at h2
    omega
  have hl := (cl_of n1 n2 hr ho.rng).len
  rw [List.length_mergeSort] at hl
  omega
def knB (K : List Int) (x : Int) : Int := if inS K x = true then 1 else if inS K (-x) = true then -1 else 0
theorem knB_yes {K : List Int} {x : Int} (h : inS K x = true) : knB K x = 1 := if_pos h
theorem knB_opp {K : List Int} {x : Int} (hK : Cons K) (h : inS K (-x) = true) : knB K x = -1 := by
  have h1 := hK _ h
  rw [Int.neg_neg] at h1
  unfold knB
  rw [h1, if_neg (by simp), if_pos h]
theorem knB_no {K : List Int} {x : Int} (h1 : inS K x = false) (h2 : inS K (-x) = false) : knB K x = 0 := by
  unfold knB; rw [h1, h2]; rfl
/-- A clause holds. -/
def hld (K c : List Int) : Bool := c.any fun x => inS K x
def lkO (K c : List Int) : Int := if hld K c = true then -1 else ((rst K c).length : Int)
def lkL (K c : List Int) : Int := if hld K c = true then 0 else (rst K c).getLastD 0
theorem hld_yes {K c : List Int} {k : Nat} (h : k < c.length) (hy : inS K (c.getD k 0) = true) : hld K c = true := by
  unfold hld
  rw [List.any_eq_true]
  refine ⟨c[k], List.getElem_mem h, ?_⟩
  rw [show c[k] = c.getD k 0 by simp [List.getD, h]]; exact hy
theorem hld_no {K c : List Int} (h : ∀ j, j < c.length → inS K (c.getD j 0) = false) : hld K c = false := by
  cases hq : hld K c with
  | false => rfl
  | true =>
    unfold hld at hq
    rw [List.any_eq_true] at hq
    obtain ⟨x, hx, h1⟩ := hq
    obtain ⟨i, hi, rfl⟩ := List.getElem_of_mem hx
    have := h i hi
    rw [show c.getD i 0 = c[i] by simp [List.getD, hi], h1] at this
    cases this
theorem mem_rst {K c : List Int} {y : Int} : y ∈ rst K c ↔ y ∈ c ∧ inS K (-y) = false := by unfold rst; rw [List.mem_filter]; simp
def un (K c : List Int) : Bool := decide ((rst K c).length = 1) && !inS K ((rst K c).getD 0 0)
theorem lk_zero {K c : List Int} (hK : Cons K) : lkO K c = 0 ↔ (rst K c).length = 0 := by
  unfold lkO
  cases hq : hld K c with
  | false => simp
  | true =>
    rw [if_pos rfl]
    constructor
    · intro h; omega
    · intro h
      unfold hld at hq
      rw [List.any_eq_true] at hq
      obtain ⟨x, hx, h1⟩ := hq
      have : x ∈ rst K c := mem_rst.2 ⟨hx, hK x h1⟩
      rw [List.eq_nil_of_length_eq_zero h] at this
      simp at this
theorem lk_one {K c : List Int} (hK : Cons K) : lkO K c = 1 ↔ un K c = true := by
  unfold lkO un
  rw [Bool.and_eq_true, decide_eq_true_iff, Bool.not_eq_true']
  cases hq : hld K c with
  | false =>
    simp only [Bool.false_eq_true, if_false]
    constructor
    · intro h
      have h1 : (rst K c).length = 1 := by omega
      refine ⟨h1, ?_⟩
      obtain ⟨y, hy⟩ := List.length_eq_one_iff.1 h1
      have hm : y ∈ c := (mem_rst.1 (by rw [hy]; exact List.mem_cons_self)).1
      rw [hy]
      show inS K y = false
      cases hi : inS K y with
      | false => rfl
      | true =>
        have : hld K c = true := by unfold hld; rw [List.any_eq_true]; exact ⟨y, hm, hi⟩
        rw [hq] at this; cases this
    · rintro ⟨h, -⟩; omega
  | true =>
    rw [if_pos rfl]
    constructor
    · intro h; omega
    · rintro ⟨h1, h2⟩
      exfalso
      unfold hld at hq
      rw [List.any_eq_true] at hq
      obtain ⟨x, hx, hi⟩ := hq
      have hm : x ∈ rst K c := mem_rst.2 ⟨hx, hK x hi⟩
      obtain ⟨y, hy⟩ := List.length_eq_one_iff.1 h1
      rw [hy] at hm h2
      rw [List.mem_singleton.1 hm] at hi
      rw [show ([y].getD 0 0 : Int) = y from rfl, hi] at h2
      cases h2
theorem lk_lit {K c : List Int} (hK : Cons K) (h : lkO K c = 1) : lkL K c = (rst K c).getD 0 0 := by
  have h1 := (lk_one hK).1 h
  unfold un at h1
  rw [Bool.and_eq_true, decide_eq_true_iff] at h1
  obtain ⟨y, hy⟩ := List.length_eq_one_iff.1 h1.1
  unfold lkO at h
  unfold lkL
  cases hq : hld K c with
  | true => rw [hq, if_pos rfl] at h; omega
  | false => rw [if_neg (by simp), hy]; rfl
/-- The first of n with p. -/
def fstP (p : Nat → Bool) (n : Nat) : Option Nat := (List.range n).find? p
theorem fstP_some {p : Nat → Bool} {n i : Nat} (hi : i < n) (h : p i = true) (hj : ∀ j, j < i → p j = false) : fstP p n = some i := by
  unfold fstP
  rw [List.find?_range_eq_some]
  exact ⟨h, List.mem_range.2 hi, fun j hji => by rw [hj j hji]; rfl⟩
theorem fstP_none {p : Nat → Bool} {n : Nat} (hj : ∀ j, j < n → p j = false) : fstP p n = none := by
  unfold fstP
  rw [List.find?_eq_none]
  intro x hx
  rw [hj x (List.mem_range.1 hx)]; simp
theorem fstP_at {p : Nat → Bool} {n i : Nat} (h : fstP p n = some i) : i < n ∧ p i = true ∧ ∀ j, j < i → p j = false := by
  unfold fstP at h
  rw [List.find?_range_eq_some] at h
  exact ⟨List.mem_range.1 h.2.1, h.1, fun j hj => by simpa using h.2.2 j hj⟩
def fb (K : List Int) (C : List (List Int)) : Option Nat := fstP (fun i => decide ((rst K (C.getD i [])).length = 0)) C.length
def fu (K : List Int) (C : List (List Int)) : Option Nat := fstP (fun i => un K (C.getD i [])) C.length
def unL (K : List Int) (C : List (List Int)) (i : Nat) : Int := (rst K (C.getD i [])).getD 0 0
/-- All that must hold: what is known, by which clauses, and the first clause that can't hold. -/
def uK (C : List (List Int)) : Nat → List Int → List Int → List Int × List Int × Int
  | 0, K, Y => (K, Y, -1)
  | f + 1, K, Y => match fb K C with
    | some i => (K, Y, (i : Int))
    | none => match fu K C with
      | none => (K, Y, -1)
      | some i => uK C f (K ++ [unL K C i]) (Y ++ [(i : Int)])
theorem uK_bad {C : List (List Int)} {f : Nat} {K Y : List Int} {i : Nat} (h : fb K C = some i) : uK C (f + 1) K Y = (K, Y, (i : Int)) := by rw [uK, h]
theorem uK_end {C : List (List Int)} {f : Nat} {K Y : List Int} (h : fb K C = none) (h2 : fu K C = none) : uK C (f + 1) K Y = (K, Y, -1) := by rw [uK, h]; simp only; rw [h2]
theorem uK_go {C : List (List Int)} {f : Nat} {K Y : List Int} {i : Nat} (h : fb K C = none) (h2 : fu K C = some i) : uK C (f + 1) K Y = uK C f (K ++ [unL K C i]) (Y ++ [(i : Int)]) := by rw [uK, h]; simp only; rw [h2]
theorem un_new {n : Int} {K : List Int} {C : List (List Int)} {i : Nat} (hK : LitsOk n K) (hC : ∀ k, k < C.length → ClOk n (C.getD k [])) (hi : i < C.length) (h : un K (C.getD i []) = true) : LitsOk n (K ++ [unL K C i]) ∧ unL K C i ∈ C.getD i [] := by
  unfold un at h
  rw [Bool.and_eq_true, decide_eq_true_iff, Bool.not_eq_true'] at h
  obtain ⟨y, hy⟩ := List.length_eq_one_iff.1 h.1
  have hm := mem_rst.1 (show y ∈ rst K (C.getD i []) by rw [hy]; exact List.mem_cons_self)
  have e : unL K C i = y := by unfold unL; rw [hy]; rfl
  rw [hy] at h
  have h2 : inS K y = false := h.2
  rw [e]
  refine ⟨⟨fun x hx => ?_, ?_⟩, hm.1⟩
  · rcases List.mem_append.1 hx with hx | hx
    · exact hK.rng x hx
    · rw [List.mem_singleton.1 hx]; exact cl_mem (hC i hi) hm.1
  · rw [List.map_append]
    refine List.nodup_append.2 ⟨hK.nd, by simp, fun a ha b hb => ?_⟩
    obtain ⟨z, hz, rfl⟩ := List.mem_map.1 ha
    have hb : b = ltr y := by simpa using hb
    rw [hb]
    intro q
    by_cases hzy : z = y
    · rw [hzy] at hz
      rw [inS_mem.2 hz] at h2; cases h2
    · rw [ltr_opp q hzy] at hz
      rw [inS_mem.2 hz] at hm
      cases hm.2
def unB (F : Fm) (G : List Int) : Bool := formB F && litsB F.letters G
def unR (F : Fm) (G : List Int) : List Int × List Int × Int := uK F.cs 11 G (List.replicate G.length (-1))
def unF (F : Fm) (G : List Int) : List Int := bif unB F G then (unR F G).1 else []
def unW (F : Fm) (G : List Int) : Bool := unB F G && decide (0 ≤ (unR F G).2.2)
theorem uK_len (C : List (List Int)) : ∀ (f : Nat) (K Y : List Int), (uK C f K Y).1.length ≤ K.length + f
  | 0, K, Y => Nat.le_refl _
  | f + 1, K, Y => by
    cases h1 : fb K C with
    | some i => rw [uK_bad h1]; simp
    | none =>
      cases h2 : fu K C with
      | none => rw [uK_end h1 h2]; simp
      | some i =>
        rw [uK_go h1 h2]
        have := uK_len C f (K ++ [unL K C i]) (Y ++ [(i : Int)])
        rw [List.length_append] at this
        simp only [List.length_singleton] at this
        omega
theorem unF_len (F : Fm) (G : List Int) : (unF F G).length ≤ 1048576 := by
  unfold unF
  cases h : unB F G with
  | false => simp
  | true =>
    unfold unB at h
    rw [Bool.and_eq_true] at h
    have h1 := formB_ok h.1
    have h2 := litsOk_len h1.n1 h1.n2 (litsB_ok h.2)
    have := uK_len F.cs 11 G (List.replicate G.length (-1))
    unfold unR
    simp only [cond_true]
    omega
end Go.Proofs.Ytnakpfbeeekmiaa
/- What must hold then: what is open in a clause (the model). -/
namespace Go.Proofs.Ytnakpfbeeekmiaa
open Go.RowKit Go.ChangeShapes Go.WideShapes
set_option maxRecDepth 100000

set_option maxHeartbeats 2000000 in
theorem l05Known_any (g : Nat) (kv : Value) (K : List Int) (x : Int) (w : World) (hc : w.cell? ⟨g, 0, none⟩ = some kv) (hk : IL w kv K) (hK : Cons K) (hx : -1000 ≤ x ∧ x ≤ 1000) (hn : K.length ≤ 64) :
    Calls Try.prog 99 #[.pointer (some ⟨g, 0, none⟩), .int .i64 x] w (fun e w' => e = .returned (.int .i64 (knB K x)) ∧ w = w') := by
  have HK := Lib.hid hK
  have HC : Hid (∀ k, k < K.length → ∃ b off cap, kv = .slice (some ⟨b, off, none⟩) K.length (K.length + cap) ∧ w.cell? ⟨b, off + k, none⟩ = some (.int .i64 (K.getD k 0))) := Lib.hid fun k hlt => by
    rcases hk with ⟨hz, -⟩ | ⟨b, off, cap, e, hpos, hbl, hcell⟩
    · rw [hz] at hlt; simp at hlt
    · exact ⟨b, off, cap, e, hcell k hlt⟩
  obtain ⟨ao, cp, rfl⟩ := hk.long
  have wx : IntKind.i64.wrap (-x) = -x := IntWalk.i64_in _ (by omega)
  clear hk hK
  go_enter Try.func99, Try.ntmps99
  go_wp2_with fail
  go_loopg [11] K.length (fun gk i wr => ∃ k : Nat, k ≤ K.length ∧ gk + k = K.length ∧ i = .int .i64 k ∧ (∀ j, j < k → (K.getD j 0 == x) = false ∧ (K.getD j 0 == -x) = false) ∧ w = wr)
  case atStart => exact ⟨0, Nat.zero_le _, by omega, rfl, fun j hj => by omega, rfl⟩
  case round =>
    obtain ⟨k, hkl, hgk, rfl, hj, rfl⟩ := hrel
    have HJ := Lib.hid hj
    clear hj
    by_cases hlt : k < K.length
    · obtain ⟨b, off, cap, e, ck⟩ := HC.out k hlt
      injection e with e1 _ e3
      subst e1
      have HKY : Hid (K.getD k 0 = x → knB K x = 1) := Lib.hid fun e => knB_yes (inS_mem.2 (by rw [← e, show K.getD k 0 = K[k] by simp [List.getD, hlt]]; exact List.getElem_mem _))
      have HKO : Hid (K.getD k 0 = -x → knB K x = -1) := Lib.hid fun e => knB_opp HK.out (inS_mem.2 (by rw [← e, show K.getD k 0 = K[k] by simp [List.getD, hlt]]; exact List.getElem_mem _))
      obtain ⟨y, hy⟩ : ∃ y, K.getD k 0 = y := ⟨_, rfl⟩
      have HY := Lib.hid hy
      rw [hy] at ck HKY HKO
      clear e3 hy
      by_cases c1 : y = x
      · have HE := Lib.hid (HKY.out c1)
        subst c1
        clear HKY HKO
        go_wp2_with fail
        go_ret
        exact ⟨ret_int HE.out.symm, rfl⟩
      · have c1' : (y == x) = false := by simpa using c1
        by_cases c2 : y = -x
        · have HE := Lib.hid (HKO.out c2)
          have c2' : (y == -x) = true := by simpa using c2
          clear HKY HKO c2
          go_wp2_with fail
          go_ret
          exact ⟨ret_int HE.out.symm, rfl⟩
        · have c2' : (y == -x) = false := by simpa using c2
          have HJ2 : Hid (∀ j, j < k + 1 → (K.getD j 0 == x) = false ∧ (K.getD j 0 == -x) = false) := Lib.hid fun j hj => by
            by_cases e : j = k
            · subst e; rw [HY.out]; exact ⟨c1', c2'⟩
            · exact HJ.out j (by omega)
          clear HKY HKO
          go_wp2_with fail
          go_roundg (gk - 1)
          case measure => omega
          case rel => exact ⟨k + 1, by omega, by omega, by go_num, HJ2.out, rfl⟩
    · obtain rfl : k = K.length := by omega
      have HE : Hid (knB K x = 0) := Lib.hid (knB_no (by
        cases hq : inS K x with
        | false => rfl
        | true =>
          unfold inS at hq
          rw [List.any_eq_true] at hq
          obtain ⟨i, hi, h⟩ := hq
          rw [(HJ.out i (List.mem_range.1 hi)).1] at h; cases h) (by
        cases hq : inS K (-x) with
        | false => rfl
        | true =>
          unfold inS at hq
          rw [List.any_eq_true] at hq
          obtain ⟨i, hi, h⟩ := hq
          rw [(HJ.out i (List.mem_range.1 hi)).2] at h; cases h))
      go_wp2_with fail
      go_ret
      exact ⟨ret_int HE.out.symm, rfl⟩
set_option maxHeartbeats 2000000 in
theorem l05Look_any (g : Nat) (kv cv : Value) (K c : List Int) (w : World) (hc : w.cell? ⟨g, 0, none⟩ = some kv) (hk : IL w kv K) (hv : IL w cv c) (hK : Cons K) (hr : ∀ i, i < c.length → -1000 ≤ c.getD i 0 ∧ c.getD i 0 ≤ 1000) (hn : K.length ≤ 64) (hcl : c.length ≤ 64) :
    Calls Try.prog 93 #[.pointer (some ⟨g, 0, none⟩), cv] w (fun e w' => e = .returned (.tuple #[.int .i64 (lkO K c), .int .i64 (lkL K c)]) ∧ w = w') := by
  have HR := Lib.hid hr
  have KN := Lib.hid fun x (hx : -1000 ≤ x ∧ x ≤ 1000) => l05Known_any g kv K x w hc hk hK hx hn
  have HK := Lib.hid hK
  have HC : Hid (∀ k, k < c.length → ∃ b off cap, cv = .slice (some ⟨b, off, none⟩) c.length (c.length + cap) ∧ w.cell? ⟨b, off + k, none⟩ = some (.int .i64 (c.getD k 0))) := Lib.hid fun k hlt => by
    rcases hv with ⟨hz, -⟩ | ⟨b, off, cap, e, hpos, hbl, hcell⟩
    · rw [hz] at hlt; simp at hlt
    · exact ⟨b, off, cap, e, hcell k hlt⟩
  obtain ⟨ao, cp, rfl⟩ := hv.long
  clear hk hK hc hr hv
  go_enter Try.func93, Try.ntmps93
  go_wp2_with fail
  go_loopg [6, 7, 12] c.length (fun gk o l i wr => ∃ k : Nat, k ≤ c.length ∧ gk + k = c.length ∧ i = .int .i64 k ∧ o = .int .i64 ((rst K (c.take k)).length : Int) ∧ l = .int .i64 ((rst K (c.take k)).getLastD 0) ∧ (∀ j, j < k → inS K (c.getD j 0) = false) ∧ w = wr)
  case atStart => exact ⟨0, Nat.zero_le _, by omega, rfl, rfl, rfl, fun j hj => by omega, rfl⟩
  case round =>
    obtain ⟨k, hkl, hgk, rfl, rfl, rfl, hj, rfl⟩ := hrel
    have HJ := Lib.hid hj
    clear hj
    have hl : (rst K (c.take k)).length ≤ k := by
      have := rst_len K (c.take k)
      rw [List.length_take] at this
      omega
    by_cases hlt : k < c.length
    · obtain ⟨b, off, cap, e, ck⟩ := HC.out k hlt
      injection e with e1 _ e3
      subst e1
      have HN1 := Lib.hid (@rst_yes K c k hlt)
      have HN2 := Lib.hid (@rst_no K c k hlt)
      have HHY := Lib.hid (@hld_yes K c k hlt)
      have hx := HR.out k hlt
      obtain ⟨x, hxx⟩ : ∃ x, c.getD k 0 = x := ⟨_, rfl⟩
      have HX := Lib.hid hxx
      rw [hxx] at ck hx HN1 HN2 HHY
      have CK := Lib.hid (KN.out x hx)
      generalize rst K (c.take k) = T at hl HN1 HN2
      obtain ⟨l0, hl0⟩ : ∃ l0, T.getLastD 0 = l0 := ⟨_, rfl⟩
      obtain ⟨o0, ho0⟩ : ∃ o0, T.length = o0 := ⟨_, rfl⟩
      have HO := Lib.hid ho0
      have HL := Lib.hid hl0
      rw [ho0, hl0]
      rw [ho0] at hl
      clear e3 hxx ho0 hl0 hx
      cases p : inS K x with
      | true =>
        have HH := Lib.hid (HHY.out p)
        rw [knB_yes p] at CK
        clear p HN1 HN2 HHY
        go_wp2_with fail
        go_at_call 99; refine CK.out.mono ?_; rintro e w' ⟨rfl, rfl⟩
        go_wp2_with fail
        go_ret2
        exact ⟨by unfold lkO lkL; rw [HH.out]; rfl, rfl⟩
      | false =>
        have HP := Lib.hid p
        have HJ2 : Hid (∀ j, j < k + 1 → inS K (c.getD j 0) = false) := Lib.hid fun j hj => by
          by_cases e : j = k
          · subst e; rw [HX.out]; exact HP.out
          · exact HJ.out j (by omega)
        cases q : inS K (-x) with
        | true =>
          have HN := Lib.hid (HN2.out q)
          rw [knB_opp HK.out q] at CK
          clear p q HN1 HN2 HHY
          go_wp2_with fail
          go_at_call 99; refine CK.out.mono ?_; rintro e w' ⟨rfl, rfl⟩
          go_wp2_with fail
          go_roundg (gk - 1)
          case measure => omega
          case rel => exact ⟨k + 1, by omega, by omega, by go_num, by rw [HN.out, HO.out], by rw [HN.out, HL.out], HJ2.out, rfl⟩
        | false =>
          have HN := Lib.hid (HN1.out q)
          rw [knB_no p q] at CK
          clear p q HN1 HN2 HHY
          go_wp2_with fail
          go_at_call 99; refine CK.out.mono ?_; rintro e w' ⟨rfl, rfl⟩
          go_wp2_with fail
          go_roundg (gk - 1)
          case measure => omega
          case rel => exact ⟨k + 1, by omega, by omega, by go_num, by rw [HN.out, List.length_append, HO.out]; go_num, by rw [HN.out]; simp, HJ2.out, rfl⟩
    · obtain rfl : k = c.length := by omega
      have HH := Lib.hid (hld_no HJ.out)
      have HT : Hid (rst K (c.take c.length) = rst K c) := Lib.hid (by rw [List.take_length])
      obtain ⟨l0, hl0⟩ : ∃ l0, (rst K (c.take c.length)).getLastD 0 = l0 := ⟨_, rfl⟩
      obtain ⟨o0, ho0⟩ : ∃ o0, (rst K (c.take c.length)).length = o0 := ⟨_, rfl⟩
      rw [ho0, hl0]
      have HO := Lib.hid ho0
      have HL := Lib.hid hl0
      clear ho0 hl0
      go_wp2_with fail
      go_ret2
      exact ⟨by unfold lkO lkL; rw [HH.out, ← HT.out, HO.out, HL.out]; rfl, rfl⟩
end Go.Proofs.Ytnakpfbeeekmiaa
/- Lists of lists that grow: a row of lists, and a list that lists are put behind. -/
namespace Go.Proofs.Ytnakpfbeeekmiaa
open Go.RowKit Go.ChangeShapes Go.WideShapes

theorem Grows.ib {B : Nat} {v : Value} {Z : List Int} {w : World} (h : Grows (Value.int .i64) 2 B v Z w) : IB (v.ownBlock.getD 0) w v Z ∧ (Z = [] ∨ ∃ b, v.ownBlock = some b ∧ B ≤ b ∧ b < w.heap.size) := by
  have s := h.si (d := (0 : Int))
  obtain ⟨g, hg, hr⟩ := II.ib s
  by_cases h0 : Z = []
  · subst h0
    rcases hg with ⟨_, ao, cap, rfl⟩ | ⟨off, cap, _, k2, _⟩
    · exact ⟨Or.inl ⟨rfl, ao, cap, rfl⟩, Or.inl rfl⟩
    · simp at k2
  · rcases hg with ⟨e, _⟩ | ⟨off, cap, e, k2, k3, k4, k5⟩
    · exact absurd e h0
    · subst e
      refine ⟨Or.inr ⟨off, cap, rfl, k2, k3, k4, k5⟩, Or.inr ⟨g, rfl, ?_⟩⟩
      rcases hr with e | e
      · exact absurd e h0
      · exact e
theorem Grows.lower {α : Type} {mk : α → Value} {E B C : Nat} {v : Value} {Z : List α} {w : World} (h : Grows mk E B v Z w) (hC : C ≤ B) : Grows mk E C v Z w := by
  refine ⟨h.1, ?_⟩
  rcases h.2 with hn | ⟨g, cap, cur, e, hb, rest⟩
  · exact .inl hn
  · exact .inr ⟨g, cap, cur, e, Nat.le_trans hC hb, rest⟩
theorem grown_set (w : World) (N k : Nat) (u : Value) : w.grownBy (w.setCell ⟨N, k, none⟩ u) (some N) :=
  ⟨rfl, rfl, rfl, by simp [World.setCell], fun i _ hne => Below.heap_setCell _ _ _ _ (by intro e; exact hne (by rw [e]))⟩
/-- Lists that grow, each of its own, in the cells of a row. -/
theorem ld_of {lo N : Nat} {C : List (List Int)} {w : World} {U : Nat → Value} (cap : Nat) (row : ∀ j, j < C.length → w.cell? ⟨N, j, none⟩ = some (U j)) (own : ∀ j, j < C.length → Grows (Value.int .i64) 2 lo (U j) (C.getD j []) w)
    (ne : ∀ j, j < C.length → (U j).ownBlock ≠ some N) (inj : ∀ i j, i < C.length → j < C.length → i ≠ j → ∀ b, (U i).ownBlock = some b → (U j).ownBlock ≠ some b) (free : ∀ i, w.frozen? ⟨N, i, none⟩ = false) (n1 : lo ≤ N) (n2 : N < w.heap.size) :
    LD lo w.heap.size w (.slice (some ⟨N, 0, none⟩) C.length (C.length + cap)) C := by
  by_cases h0 : C.length = 0
  · have : C = [] := List.eq_nil_of_length_eq_zero h0
    subst this
    exact LD.nil _ (Nat.le_refl _) _ _
  refine ⟨Nat.le_refl _, Or.inr ⟨N, 0, cap, U, fun j => (U j).ownBlock.getD 0, rfl, by omega, n1, n2, free, fun j hj => ?_, fun i j hij hj => ?_⟩⟩
  · obtain ⟨h1, h2⟩ := (own j hj).ib
    refine ⟨by rw [Nat.zero_add]; exact row j hj, h1, ?_⟩
    rcases h2 with e | ⟨b, e, e1, e2⟩
    · exact Or.inl e
    · have := ne j hj
      refine Or.inr ?_
      show lo ≤ (U j).ownBlock.getD 0 ∧ (U j).ownBlock.getD 0 < _ ∧ (U j).ownBlock.getD 0 ≠ N
      rw [e] at this ⊢
      exact ⟨e1, e2, fun q => this (by rw [← q]; rfl)⟩
  · rcases ((own i (by omega)).ib).2 with e | ⟨b, e, -⟩
    · exact Or.inl e
    · rcases ((own j hj).ib).2 with e' | ⟨b', e', -⟩
      · exact Or.inr (Or.inl e')
      · have := inj i j (by omega) hj (by omega) b e
        refine Or.inr (Or.inr ?_)
        show (U i).ownBlock.getD 0 ≠ (U j).ownBlock.getD 0
        rw [e, e']
        rw [e'] at this
        exact fun q => this (by rw [show b = b' from q])
/-- A row of lists that grow. -/
structure NarUp (lo N n : Nat) (R : Nat → List Int) (w wr : World) (U : Nat → Value) : Prop where
  row : ∀ j, j < n → wr.cell? ⟨N, j, none⟩ = some (U j)
  own : ∀ j, j < n → Grows (Value.int .i64) 2 lo (U j) (R j) wr
  ne : ∀ j, j < n → (U j).ownBlock ≠ some N
  inj : ∀ i j, i < n → j < n → i ≠ j → ∀ b, (U i).ownBlock = some b → (U j).ownBlock ≠ some b
  free : ∀ i, wr.frozen? ⟨N, i, none⟩ = false
  n1 : lo ≤ N
  n2 : N < wr.heap.size
  below : Below w.heap.size w wr
theorem NarUp.keep {lo N n : Nat} {R : Nat → List Int} {w wr w2 : World} {U : Nat → Value} (h : NarUp lo N n R w wr U) (b : Below wr.heap.size wr w2) : NarUp lo N n R w w2 U := by
  refine ⟨fun j hj => ?_, fun j hj => (h.own j hj).below b (Nat.le_refl _), h.ne, h.inj, fun i => ?_, h.n1, Nat.lt_of_lt_of_le h.n2 b.size, h.below.trans (b.mono h.below.size)⟩
  · rw [b.cell (p := ⟨N, j, none⟩) h.n2]; exact h.row j hj
  · rw [b.frozen (p := ⟨N, i, none⟩) h.n2]; exact h.free i
theorem NarUp.start {n lo e : Nat} {w wa w1 : World} (h : w1.ownsRow wa.heap.size e 1 (.slice (some ⟨wa.heap.size, 0, none⟩) n n) n (madeCells vnil.cells (n * 1)).toList) (hlo : lo ≤ wa.heap.size) (hb : Below w.heap.size w w1) (hl : wa.heap.size < w1.heap.size) : NarUp lo wa.heap.size n (fun _ => []) w w1 (fun _ => vnil) := by
  refine ⟨fun j hj => ?_, fun j hj => Grows.nil _ _ _ _, fun j hj => by simp [Value.ownBlock], fun i j hi hj hij b hb => by simp [Value.ownBlock] at hb, h.frozenAt, hlo, hl, hb⟩
  rw [h.cellAt j (by omega)]
  rcases made_one vnil n hj with h1 | h1
  · rw [h1]; simp [Value.cells]
  · exact absurd rfl h1
theorem NarUp.app {lo N n k g cap : Nat} {x : Int} {R : Nat → List Int} {w w1 w2 : World} {U : Nat → Value} (h : NarUp lo N n R w w1 U) (hk : k < n) (hw : w.heap.size ≤ lo)
    (hown : w2.ownsRow lo 2 1 (.slice (some ⟨g, 0, none⟩) ((R k).length + 1) cap) ((R k).length + 1) ((R k).map (Value.int .i64) ++ [.int .i64 x])) (hgr : w1.grownBy w2 (U k).ownBlock) (hat : (U k).ownBlock = some g ∨ g = w1.heap.size) :
    NarUp lo N n (fun j => if j = k then R k ++ [x] else R j) w (w2.setCell ⟨N, k, none⟩ (.slice (some ⟨g, 0, none⟩) ((R k).length + 1) cap)) (fun j => if j = k then .slice (some ⟨g, 0, none⟩) ((R k).length + 1) cap else U j) := by
  have hN := h.n2
  have hNk : w2.heap[N]? = w1.heap[N]? := hgr.block N hN (fun e => h.ne k hk e.symm)
  have hgN : g ≠ N := by
    rcases hat with e | e
    · intro q; exact h.ne k hk (by rw [e, q])
    · omega
  have far : ∀ j, j < n → ∀ b, (U j).ownBlock = some b → b < w1.heap.size := fun j hj b hb => (World.ownsRow.lt (h.own j hj) b hb).2
  refine ⟨fun j hj => ?_, fun j hj => ?_, fun j hj => ?_, fun i j hi hj hij b hb => ?_, fun i => ?_, h.n1, by simp [World.setCell]; exact Nat.lt_of_lt_of_le hN hgr.size, ?_⟩
  · by_cases e : j = k
    · subst e
      rw [if_pos rfl, World.cell?_setCell_same _ _ _ (show w2.cell? ⟨N, j, none⟩ = some (U j) from by rw [World.cell?_of_block (w := w1) (a := ⟨N, j, none⟩) hNk]; exact h.row j hj)]
    · rw [if_neg e, World.cell?_setCell_other _ _ _ _ (by intro q; injection q with _ q _; exact e q.symm), World.cell?_of_block (w := w1) (a := ⟨N, j, none⟩) hNk]
      exact h.row j hj
  · by_cases e : j = k
    · subst e
      simp only [if_true]
      have h2 : Grows (Value.int .i64) 2 lo (.slice (some ⟨g, 0, none⟩) ((R j).length + 1) cap) (R j ++ [x]) w2 := by
        show World.ownsRow _ _ _ _ _ _ _
        rw [List.length_append, List.map_append]
        exact hown
      exact World.ownsRow.kept h2 (grown_set _ _ _ _) (Or.inr (by simp [Value.ownBlock]; exact hgN))
    · simp only [e, if_false]
      have h2 := World.ownsRow.kept (h.own j hj) hgr (by
        cases q : (U j).ownBlock with
        | none => exact Or.inl rfl
        | some b => exact Or.inr (fun q2 => h.inj j k hj hk e b q q2.symm))
      exact World.ownsRow.kept h2 (grown_set _ _ _ _) (Or.inr (h.ne j hj))
  · by_cases e : j = k
    · simp only [e, if_true, Value.ownBlock]
      intro q; injection q with q; exact hgN q
    · simp only [e, if_false]; exact h.ne j hj
  · by_cases e1 : i = k
    · subst e1
      have e2 : ¬ j = i := fun q => hij q.symm
      simp only [if_true, Value.ownBlock] at hb
      simp only [e2, if_false]
      injection hb with hb
      have hb2 : g = b := hb
      subst hb2
      rcases hat with q | q
      · exact h.inj i j hi hj hij g q
      · intro q2; have := far j hj g q2; omega
    · simp only [e1, if_false] at hb
      by_cases e2 : j = k
      · subst e2
        simp only [if_true, Value.ownBlock]
        intro q; injection q with q
        have q : g = b := q
        subst q
        rcases hat with q | q
        · exact h.inj i j hi hj hij g hb q
        · have := far i hi g hb; omega
      · simp only [e2, if_false]
        exact h.inj i j hi hj hij b hb
  · rw [World.frozen?_setCell, World.frozen?_of_block (w := w1) (a := ⟨N, i, none⟩) hNk]; exact h.free i
  · refine (h.below.grown hgr h.below.size (fun b hb => ?_)).setCell (Nat.le_trans hw h.n1) _
    exact Nat.le_trans hw (World.ownsRow.lt (h.own k hk) b hb).1
theorem NarUp.ld {lo N : Nat} {R : Nat → List Int} {w wr : World} {U : Nat → Value} {C : List (List Int)} (h : NarUp lo N C.length R w wr U) (e : ∀ j, j < C.length → R j = C.getD j []) : LD lo wr.heap.size wr (.slice (some ⟨N, 0, none⟩) C.length C.length) C :=
  ld_of 0 h.row (fun j hj => by rw [← e j hj]; exact h.own j hj) h.ne h.inj h.free h.n1 h.n2
/-- A list that lists are put behind. -/
structure OutUp (lo : Nat) (L : List (List Int)) (s : Value) (w wr : World) (U : Nat → Value) : Prop where
  own : wr.ownsRow lo 25 1 s L.length ((List.range L.length).map U)
  row : ∀ j, j < L.length → Grows (Value.int .i64) 2 lo (U j) (L.getD j []) wr
  ne : ∀ j, j < L.length → ∀ b, (U j).ownBlock = some b → s.ownBlock ≠ some b
  inj : ∀ i j, i < L.length → j < L.length → i ≠ j → ∀ b, (U i).ownBlock = some b → (U j).ownBlock ≠ some b
  below : Below w.heap.size w wr
theorem OutUp.keep {lo : Nat} {L : List (List Int)} {s : Value} {w wr w2 : World} {U : Nat → Value} (h : OutUp lo L s w wr U) (b : Below wr.heap.size wr w2) : OutUp lo L s w w2 U := by
  refine ⟨h.own.kept (row := none) ⟨b.os, b.tape, b.output, b.size, fun i hi _ => b.block i hi⟩ ?_, fun j hj => (h.row j hj).below b (Nat.le_refl _), h.ne, h.inj, h.below.trans (b.mono h.below.size)⟩
  cases hs : s.ownBlock with
  | none => exact Or.inl rfl
  | some b => exact Or.inr (by simp)
theorem OutUp.step {lo : Nat} {L : List (List Int)} {Z : List Int} {s d : Value} {g cap : Nat} {w w1 w2 : World} {U : Nat → Value} (h : OutUp lo L s w w1 U) (hw : w.heap.size ≤ lo) (hd : Grows (Value.int .i64) 2 lo d Z w1)
    (hds : ∀ b, d.ownBlock = some b → s.ownBlock ≠ some b ∧ ∀ j, j < L.length → (U j).ownBlock ≠ some b)
    (hown : w2.ownsRow lo 25 1 (.slice (some ⟨g, 0, none⟩) (L.length + 1) cap) (L.length + 1) ((List.range L.length).map U ++ [d])) (hgr : w1.grownBy w2 s.ownBlock) (hat : s.ownBlock = some g ∨ g = w1.heap.size) :
    OutUp lo (L ++ [Z]) (.slice (some ⟨g, 0, none⟩) (L.length + 1) cap) w w2 (fun j => if j = L.length then d else U j) := by
  have hl : (L ++ [Z]).length = L.length + 1 := by simp
  have gat : ∀ j, j < L.length → (L ++ [Z]).getD j [] = L.getD j [] := fun j hj => by simp [List.getD, List.getElem?_append_left hj]
  have far : ∀ j, j < L.length → ∀ b, (U j).ownBlock = some b → b < w1.heap.size := fun j hj b hb => (World.ownsRow.lt (h.row j hj) b hb).2
  have fard : ∀ b, d.ownBlock = some b → b < w1.heap.size := fun b hb => (World.ownsRow.lt hd b hb).2
  refine ⟨?_, fun j hj => ?_, fun j hj b hb => ?_, fun i j hi hj hij b hb => ?_, h.below.grown hgr h.below.size (fun b hb => Nat.le_trans hw (World.ownsRow.lt h.own b hb).1)⟩
  · rw [hl]
    have e : (List.range (L.length + 1)).map (fun j => if j = L.length then d else U j) = (List.range L.length).map U ++ [d] := by
      rw [List.range_succ, List.map_append]
      congr 1
      · exact List.map_congr_left fun j hj => by
          have := List.mem_range.1 hj
          rw [if_neg (by omega)]
      · simp
    rw [e]; exact hown
  · rw [hl] at hj
    by_cases e : j = L.length
    · subst e
      simp only [if_true]
      rw [show (L ++ [Z]).getD L.length [] = Z by simp [List.getD]]
      exact World.ownsRow.kept hd hgr (by
        cases q : d.ownBlock with
        | none => exact Or.inl rfl
        | some b => exact Or.inr (fun q2 => (hds b q).1 q2.symm))
    · simp only [e, if_false]
      rw [gat j (by omega)]
      exact World.ownsRow.kept (h.row j (by omega)) hgr (by
        cases q : (U j).ownBlock with
        | none => exact Or.inl rfl
        | some b => exact Or.inr (fun q2 => h.ne j (by omega) b q q2.symm))
  · rw [hl] at hj
    intro q
    have q : some g = some b := q
    injection q with q
    subst q
    by_cases e : j = L.length
    · simp only [e, if_true] at hb
      rcases hat with q | q
      · exact (hds g hb).1 q
      · have := fard g hb; omega
    · simp only [e, if_false] at hb
      rcases hat with q | q
      · exact h.ne j (by omega) g hb q
      · have := far j (by omega) g hb; omega
  · rw [hl] at hi hj
    by_cases e1 : i = L.length
    · have e2 : ¬ j = L.length := by omega
      simp only [e1, if_true] at hb
      simp only [e2, if_false]
      exact (hds b hb).2 j (by omega)
    · simp only [e1, if_false] at hb
      by_cases e2 : j = L.length
      · simp only [e2, if_true]
        intro q
        exact (hds b q).2 i (by omega) hb
      · simp only [e2, if_false]
        exact h.inj i j (by omega) (by omega) hij b hb
theorem OutUp.ld {lo : Nat} {L : List (List Int)} {s : Value} {w wr : World} {U : Nat → Value} (h : OutUp lo L s w wr U) (h0 : 0 < L.length) : LD lo wr.heap.size wr s L := by
  rcases h.own.2 with ⟨_, hz⟩ | ⟨g, cap, cur, rfl, hB, hg, hn, hc, hs, ht⟩
  · omega
  · have hl := World.ownsRow.lt h.own g rfl
    obtain ⟨c, rfl⟩ := Nat.le.dest hn
    exact ld_of c (fun j hj => by rw [h.own.cellAt j (by omega)]; simp [hj]) h.row (fun j hj e => h.ne j hj g e rfl) h.inj h.own.frozenAt hl.1 hl.2
end Go.Proofs.Ytnakpfbeeekmiaa
/- What must hold then: the model's state, two lists that grow in a box. -/
namespace Go.Proofs.Ytnakpfbeeekmiaa
open Go.RowKit Go.ChangeShapes Go.WideShapes

/-- The state in block g: what is known, by which clauses, which clause is wrong. -/
structure StU (g : Nat) (kv bv : Value) (K Y : List Int) (ws : Int) (w wr : World) : Prop where
  box : wr.heap[g]? = some (.cells #[kv, bv, .int .i64 ws] 63 (0, 0))
  known : Grows (Value.int .i64) 2 w.heap.size kv K wr
  bys : Grows (Value.int .i64) 3 w.heap.size bv Y wr
  below : Below w.heap.size w wr
  ge : w.heap.size ≤ g
theorem StU.lt {g : Nat} {kv bv : Value} {K Y : List Int} {ws : Int} {w wr : World} (h : StU g kv bv K Y ws w wr) : g < wr.heap.size := (Array.getElem?_eq_some_iff.1 h.box).1
theorem StU.cells {g : Nat} {kv bv : Value} {K Y : List Int} {ws : Int} {w wr : World} (h : StU g kv bv K Y ws w wr) :
    wr.cell? ⟨g, 0, none⟩ = some kv ∧ wr.cell? ⟨g, 1, none⟩ = some bv ∧ wr.cell? ⟨g, 2, none⟩ = some (.int .i64 ws) ∧ ∀ i, wr.frozen? ⟨g, i, none⟩ = false :=
  ⟨by rw [Lib.cell_of_heap h.box]; rfl, by rw [Lib.cell_of_heap h.box]; rfl, by rw [Lib.cell_of_heap h.box]; rfl, fun i => Lib.frozen_of_heap h.box i⟩
theorem StU.keep {g : Nat} {kv bv : Value} {K Y : List Int} {ws : Int} {w wr w2 : World} (h : StU g kv bv K Y ws w wr) (b : Below wr.heap.size wr w2) : StU g kv bv K Y ws w w2 :=
  ⟨by rw [b.block g h.lt]; exact h.box, h.known.below b (Nat.le_refl _), h.bys.below b (Nat.le_refl _), h.below.trans (b.mono h.below.size), h.ge⟩
theorem StU.apart {g : Nat} {kv bv : Value} {K Y : List Int} {ws : Int} {w wr : World} (h : StU g kv bv K Y ws w wr) : kv.ownBlock ≠ some g ∧ bv.ownBlock ≠ some g ∧ (bv.ownBlock = none ∨ bv.ownBlock ≠ kv.ownBlock) ∧ (kv.ownBlock = none ∨ kv.ownBlock ≠ bv.ownBlock) := by
  have n1 : kv.ownBlock ≠ some g := Lib.ownBlock_ne h.known h.box (by decide)
  have n2 : bv.ownBlock ≠ some g := Lib.ownBlock_ne h.bys h.box (by decide)
  have n3 : ∀ b, kv.ownBlock = some b → bv.ownBlock ≠ some b := fun b hb => by
    rcases h.known.2 with ⟨e, _⟩ | ⟨q, cap, cur, e, _, hq, _⟩
    · rw [e] at hb; cases hb
    · rw [e] at hb
      have hb : q = b := by injection hb
      subst hb
      exact Lib.ownBlock_ne h.bys hq (by decide)
  refine ⟨n1, n2, ?_, ?_⟩
  · cases hb : bv.ownBlock with
    | none => exact Or.inl rfl
    | some b => exact Or.inr fun e => n3 b e.symm hb
  · cases hb : kv.ownBlock with
    | none => exact Or.inl rfl
    | some b => exact Or.inr fun e => n3 b hb e.symm
theorem box_set {g i : Nat} {u : Value} {cs : Array Value} {e : TypeId} {w : World} (h : w.heap[g]? = some (.cells cs e (0, 0))) : (w.setCell ⟨g, i, none⟩ u).heap[g]? = some (.cells (cs.setIfInBounds i u) e (0, 0)) := by
  rw [World.setCell]
  simp only [Array.getElem?_modify, if_true, h]
  rfl
/-- The fields stand while the known literals grow. -/
theorem StU.keptK {g : Nat} {kv bv : Value} {K Y : List Int} {ws : Int} {w wr w0 w1 : World} (h : StU g kv bv K Y ws w wr) (h0 : Below wr.heap.size wr w0) (hgr : w0.grownBy w1 kv.ownBlock) :
    w1.cell? ⟨g, 0, none⟩ = some kv ∧ w1.cell? ⟨g, 1, none⟩ = some bv ∧ w1.frozen? ⟨g, 0, none⟩ = false ∧ w1.frozen? ⟨g, 1, none⟩ = false := by
  have hk := h.keep h0
  have hb : w1.heap[g]? = some (.cells #[kv, bv, .int .i64 ws] 63 (0, 0)) := by rw [hgr.block g hk.lt (fun e => h.apart.1 e.symm)]; exact hk.box
  exact ⟨by rw [Lib.cell_of_heap hb]; rfl, by rw [Lib.cell_of_heap hb]; rfl, Lib.frozen_of_heap hb 0, Lib.frozen_of_heap hb 1⟩
theorem StU.nextK {g gg cap : Nat} {x ws : Int} {kv bv : Value} {K Y : List Int} {w wr w0 w1 : World} (h : StU g kv bv K Y ws w wr) (h0 : Below wr.heap.size wr w0)
    (hown : w1.ownsRow w.heap.size 2 1 (.slice (some ⟨gg, 0, none⟩) (K.length + 1) cap) (K.length + 1) (K.map (Value.int .i64) ++ [.int .i64 x])) (hgr : w0.grownBy w1 kv.ownBlock) (q : Nat) :
    StU g (.slice (some ⟨gg, 0, none⟩) (K.length + 1) cap) bv (K ++ [x]) Y ws w ((w1.drewN q).setCell ⟨g, 0, none⟩ (.slice (some ⟨gg, 0, none⟩) (K.length + 1) cap)) := by
  have hk := h.keep h0
  obtain ⟨n1, n2, n3, n4⟩ := hk.apart
  have hb1 : w1.heap[g]? = some (.cells #[kv, bv, .int .i64 ws] 63 (0, 0)) := by rw [hgr.block g hk.lt (fun e => n1 e.symm)]; exact hk.box
  have hnew : Grows (Value.int .i64) 2 w.heap.size (.slice (some ⟨gg, 0, none⟩) (K.length + 1) cap) (K ++ [x]) w1 := Grows.more (news := [x]) rfl hown
  have m1 : (Value.slice (some ⟨gg, 0, none⟩) (K.length + 1) cap).ownBlock ≠ some g := Lib.ownBlock_ne hown hb1 (by decide)
  have hby : Grows (Value.int .i64) 3 w.heap.size bv Y w1 := World.ownsRow.kept hk.bys hgr n3
  have hgw : (w1.drewN q).grownBy ((w1.drewN q).setCell ⟨g, 0, none⟩ (.slice (some ⟨gg, 0, none⟩) (K.length + 1) cap)) (some g) := grown_set _ _ _ _
  refine ⟨box_set (w := w1.drewN q) hb1, World.ownsRow.kept (w := w1.drewN q) hnew hgw (Or.inr m1), World.ownsRow.kept (w := w1.drewN q) hby hgw (Or.inr n2), ?_, h.ge⟩
  have hb9 : Below w.heap.size w w1 := hk.below.grown hgr hk.below.size (fun b hb => (World.ownsRow.lt hk.known b hb).1)
  exact (below_drewN hb9 q).setCell h.ge _
theorem StU.keptY {g : Nat} {kv bv : Value} {K Y : List Int} {ws : Int} {w wr w0 w1 : World} (h : StU g kv bv K Y ws w wr) (h0 : Below wr.heap.size wr w0) (hgr : w0.grownBy w1 bv.ownBlock) :
    w1.cell? ⟨g, 1, none⟩ = some bv ∧ w1.frozen? ⟨g, 1, none⟩ = false := by
  have hk := h.keep h0
  have hb : w1.heap[g]? = some (.cells #[kv, bv, .int .i64 ws] 63 (0, 0)) := by rw [hgr.block g hk.lt (fun e => h.apart.2.1 e.symm)]; exact hk.box
  exact ⟨by rw [Lib.cell_of_heap hb]; rfl, Lib.frozen_of_heap hb 1⟩
theorem StU.nextY {g gg cap : Nat} {x ws : Int} {kv bv : Value} {K Y : List Int} {w wr w0 w1 : World} (h : StU g kv bv K Y ws w wr) (h0 : Below wr.heap.size wr w0)
    (hown : w1.ownsRow w.heap.size 3 1 (.slice (some ⟨gg, 0, none⟩) (Y.length + 1) cap) (Y.length + 1) (Y.map (Value.int .i64) ++ [.int .i64 x])) (hgr : w0.grownBy w1 bv.ownBlock) (q : Nat) :
    StU g kv (.slice (some ⟨gg, 0, none⟩) (Y.length + 1) cap) K (Y ++ [x]) ws w ((w1.drewN q).setCell ⟨g, 1, none⟩ (.slice (some ⟨gg, 0, none⟩) (Y.length + 1) cap)) := by
  have hk := h.keep h0
  obtain ⟨n1, n2, n3, n4⟩ := hk.apart
  have hb1 : w1.heap[g]? = some (.cells #[kv, bv, .int .i64 ws] 63 (0, 0)) := by rw [hgr.block g hk.lt (fun e => n2 e.symm)]; exact hk.box
  have hnew : Grows (Value.int .i64) 3 w.heap.size (.slice (some ⟨gg, 0, none⟩) (Y.length + 1) cap) (Y ++ [x]) w1 := Grows.more (news := [x]) rfl hown
  have m1 : (Value.slice (some ⟨gg, 0, none⟩) (Y.length + 1) cap).ownBlock ≠ some g := Lib.ownBlock_ne hown hb1 (by decide)
  have hkn : Grows (Value.int .i64) 2 w.heap.size kv K w1 := World.ownsRow.kept hk.known hgr n4
  have hgw : (w1.drewN q).grownBy ((w1.drewN q).setCell ⟨g, 1, none⟩ (.slice (some ⟨gg, 0, none⟩) (Y.length + 1) cap)) (some g) := grown_set _ _ _ _
  refine ⟨box_set (w := w1.drewN q) hb1, World.ownsRow.kept (w := w1.drewN q) hkn hgw (Or.inr n1), World.ownsRow.kept (w := w1.drewN q) hnew hgw (Or.inr m1), ?_, h.ge⟩
  have hb9 : Below w.heap.size w w1 := hk.below.grown hgr hk.below.size (fun b hb => (World.ownsRow.lt hk.bys b hb).1)
  exact (below_drewN hb9 q).setCell h.ge _
theorem StU.start {w w1 : World} (hb : Below w.heap.size w w1) : StU w1.heap.size (.slice none 0 0) (.slice none 0 0) [] [] (-1) w (w1.alloc (.cells #[.slice none 0 0, .slice none 0 0, .int .i64 (-1)] 63)) :=
  ⟨heap_alloc_new w1 _, Grows.nil _ _ _ _, Grows.nil _ _ _ _, hb.alloc hb.size _, hb.size⟩
theorem StU.wrong {g : Nat} {kv bv : Value} {K Y : List Int} {ws : Int} {w wr : World} (h : StU g kv bv K Y ws w wr) (x : Int) : StU g kv bv K Y x w (wr.setCell ⟨g, 2, none⟩ (.int .i64 x)) := by
  obtain ⟨n1, n2, -, -⟩ := h.apart
  have hgw : wr.grownBy (wr.setCell ⟨g, 2, none⟩ (.int .i64 x)) (some g) := grown_set _ _ _ _
  exact ⟨box_set h.box, World.ownsRow.kept h.known hgw (Or.inr n1), World.ownsRow.kept h.bys hgw (Or.inr n2), h.below.setCell h.ge _, h.ge⟩
end Go.Proofs.Ytnakpfbeeekmiaa
/- What must hold then: the model. -/
namespace Go.Proofs.Ytnakpfbeeekmiaa
open Go.RowKit Go.ChangeShapes Go.WideShapes
set_option maxRecDepth 100000

theorem Try.infoInt : (Try.prog.info? 3).map (fun i => (i.zero, i.size, i.bytes)) = some (some (.int .i64 0), 1, 8) := by kernel_rfl
/-- A box of three cells that may be written. -/
structure Res3 (w : World) (g : Nat) : Prop where
  c0 : ∃ u, w.cell? ⟨g, 0, none⟩ = some u
  c1 : ∃ u, w.cell? ⟨g, 1, none⟩ = some u
  c2 : ∃ u, w.cell? ⟨g, 2, none⟩ = some u
  free : ∀ i, w.frozen? ⟨g, i, none⟩ = false
theorem Res3.keep {B : Nat} {w w' : World} {g : Nat} (h : Res3 w g) (hb : Below B w w') (hg : g < B) : Res3 w' g := by
  obtain ⟨⟨u, h0⟩, ⟨v, h1⟩, ⟨t, h2⟩, hf⟩ := h
  exact ⟨⟨u, by rw [hb.cell (p := ⟨g, 0, none⟩) hg]; exact h0⟩, ⟨v, by rw [hb.cell (p := ⟨g, 1, none⟩) hg]; exact h1⟩, ⟨t, by rw [hb.cell (p := ⟨g, 2, none⟩) hg]; exact h2⟩, fun i => by rw [hb.frozen (p := ⟨g, i, none⟩) hg]; exact hf i⟩
/-- What the model's units answer. -/
def UnitsS (R : List Int × List Int × Int) (w : World) (e : Ending) (w' : World) : Prop :=
  ∃ kv bv, e = .returned (.agg #[kv, bv, .int .i64 R.2.2]) ∧ Grows (Value.int .i64) 2 w.heap.size kv R.1 w' ∧ Grows (Value.int .i64) 3 w.heap.size bv R.2.1 w' ∧ Below w.heap.size w w'
theorem turned_row {mk : Int → Value} {E B g : Nat} {v : Value} {Z : List Int} {w X : World} (h : Grows mk E (g + 1) v Z w) (ht : Turned g (g + 1) w X) (hB : B ≤ g + 1) : Grows mk E B v Z X := by
  have hg : w.grownBy X (some g) := ⟨ht.os, ht.tape, ht.output, ht.size, fun k hk hne => ht.block k hk (by
    by_cases e : k = g
    · subst e; exact absurd rfl hne
    · omega)⟩
  refine Grows.lower (World.ownsRow.kept h hg ?_) hB
  cases q : v.ownBlock with
  | none => exact Or.inl rfl
  | some b => exact Or.inr (fun e => by have h2 := (World.ownsRow.lt h b q).1; injection e with e; omega)
theorem units_end {g : Nat} {kv bv : Value} {K Y : List Int} {ws : Int} {R : List Int × List Int × Int} {w W1 wr X : World} (h1 : Below w.heap.size w W1 ∧ W1.heap.size = w.heap.size + 1) (h : StU g kv bv K Y ws W1 wr) (ht : Turned w.heap.size (w.heap.size + 1) wr X) (hR : (K, Y, ws) = R) :
    UnitsS R w (.returned (.agg #[kv, bv, .int .i64 ws])) X := by
  subst hR
  have hk := h.known
  have hy := h.bys
  rw [h1.2] at hk hy
  exact ⟨kv, bv, rfl, turned_row hk ht (by omega), turned_row hy ht (by omega), (h1.1.trans (h.below.mono h1.1.size)).trans ((ht.below (by have := h.below.size; omega)).mono (by omega))⟩
set_option maxHeartbeats 16000000 in
theorem l05Units_any (n : Int) (v : Value) (C : List (List Int)) (u : Value) (G : List Int) (w : World) (hv : LV w v C) (hu : IL w u G) (n1 : 1 ≤ n) (n2 : n ≤ 10) (hC : ∀ k, k < C.length → ClOk n (C.getD k [])) (few : C.length ≤ 1000) (hG : LitsOk n G) :
    Calls Try.prog 49 #[v, u] w (UnitsS (uK C 11 G (List.replicate G.length (-1))) w) := by
  obtain ⟨i0, hi, hz0, hz1, hz2⟩ := info_parts Try.infoI
  obtain ⟨n0, hn, hy0, hy1, hy2⟩ := info_parts Try.infoInt
  have HC := Lib.hid hC
  have HGO := Lib.hid hG
  have HL : Hid (∀ W, Below w.heap.size w W → LV W v C) := Lib.hid fun W b => hv.below b (Nat.le_refl _)
  have HU : Hid (∀ W, Below w.heap.size w W → IL W u G) := Lib.hid fun W b => hu.below b (Nat.le_refl _)
  have hgl := litsOk_len n1 n2 hG
  obtain ⟨R, hR⟩ : ∃ R, uK C 11 G (List.replicate G.length (-1)) = R := ⟨_, rfl⟩
  have HR0 := Lib.hid hR
  rw [hR]
  obtain ⟨va, vc, rfl⟩ := hv.long
  obtain ⟨ua, uc, rfl⟩ := hu.long
  obtain ⟨W1, hW1⟩ : ∃ W1, W1 = w.alloc (.cells #[.slice none 0 0, .slice none 0 0, .int .i64 0] 63) := ⟨_, rfl⟩
  have HW0 : Hid (Below w.heap.size w W1 ∧ W1.heap.size = w.heap.size + 1) := Lib.hid (by rw [hW1]; exact ⟨below_alloc _ _, by simp⟩)
  have HR3 : Hid (Res3 W1 w.heap.size) := Lib.hid (by rw [hW1]; exact ⟨⟨.slice none 0 0, by go_simp⟩, ⟨.slice none 0 0, by go_simp⟩, ⟨.int .i64 0, by go_simp⟩, fun i => by go_simp⟩)
  have hw1 : W1.heap.size = w.heap.size + 1 := HW0.out.2
  have HBW : Hid (∀ W, Below W1.heap.size W1 W → Below w.heap.size w W) := Lib.hid fun W b => HW0.out.1.trans (b.mono HW0.out.1.size)
  have S0 : Hid (StU (w.heap.size + 1) (.slice none 0 0) (.slice none 0 0) [] [] (-1) W1 (W1.alloc (.cells #[.slice none 0 0, .slice none 0 0, .int .i64 (-1)] 63))) := Lib.hid (by have h := StU.start (Below.refl W1.heap.size W1); rw [hw1] at h; exact h)
  have HW1 := Lib.hid hW1
  clear hv hu hC hG hR hW1
  go_enter Try.func49, Try.ntmps49
  go_wp2_with fail
  rw [← HW1.out]
  go_loopg [15] G.length (fun gk i wr => ∃ (k : Nat) (kv bv : Value), k ≤ G.length ∧ gk + k = G.length ∧ i = .int .i64 k ∧ StU (w.heap.size + 1) kv bv (G.take k) (List.replicate k (-1)) (-1) W1 wr)
  case atStart => exact ⟨0, _, _, Nat.zero_le _, by omega, rfl, S0.out⟩
  case round =>
    clear S0
    obtain ⟨k, kv, bv, hk, hgk, rfl, hS⟩ := hrel
    have HS := Lib.hid hS
    have hgw := hS.lt
    have hww : W1.heap.size ≤ wr.heap.size := hS.below.size
    clear hS
    by_cases hlt : k < G.length
    · obtain ⟨c0, c1, c2, cf⟩ := HS.out.cells
      have cf0 := cf 0
      have cf1 := cf 1
      have HUC : Hid (IL wr (.slice ua G.length uc) G) := Lib.hid (HU.out _ (HBW.out _ HS.out.below))
      rcases HUC.out with ⟨hz, -⟩ | ⟨b, off, cap, e, hpos, hbl, hcell⟩
      · rw [hz] at hlt; simp at hlt
      injection e with e1 _ e3
      subst e1
      have cx := hcell k hlt
      have HN1 : Hid (G.take (k + 1) = G.take k ++ [G.getD k 0]) := Lib.hid (by rw [List.take_succ_eq_append_getElem hlt]; simp [List.getD, hlt])
      have HN2 : Hid (List.replicate (k + 1) (-1 : Int) = List.replicate k (-1) ++ [-1]) := Lib.hid List.replicate_succ'
      have hT : (G.take k).length = k := by rw [List.length_take]; omega
      have hY : (List.replicate k (-1 : Int)).length = k := List.length_replicate
      generalize G.take k = T at HS HN1 hT
      generalize List.replicate k (-1 : Int) = Y at HS HN2 hY
      generalize G.getD k 0 = x at cx HN1
      have HOWN : Hid (∀ W, Below wr.heap.size wr W → W.ownsRow W1.heap.size 2 1 kv T.length (T.map (Value.int .i64))) := Lib.hid fun W b => (HS.out.keep b).known
      have c0a : ∀ o, (wr.alloc o).cell? ⟨w.heap.size + 1, 0, none⟩ = some kv := fun o => keep_cell c0 (below_alloc wr o) hgw
      have HT := Lib.hid hT
      have HY := Lib.hid hY
      have hTl : T.length ≤ 10 := by omega
      have hYl : Y.length ≤ 10 := by omega
      clear e3 hcell hbl hpos hT hY cf
      go_wp2_with fail
      go_region_law (first
        | (refine step_append_lies _ (by rfl) _ _ _ (by rfl) W1.heap.size 2 i0 _ 1 8 Try.underlying25 hi hz0 hz1 hz2 rfl (by omega) kv T.length (T.map (Value.int .i64)) (by rfl) (HOWN.out _ (by first | exact below_alloc wr _ | exact (below_drewN (Below.refl wr.heap.size wr) _).alloc (Nat.le_refl _) _ | exact below_drewN (below_alloc wr _) _ | exact (Below.refl wr.heap.size wr).drew.alloc (Nat.le_refl _) _ | exact (below_alloc wr _).drew)) ⟨wr.heap.size, 0, none⟩ 1 1 [.int .i64 x] (by rfl) (by rfl) (World.news_of_block (cs := #[_]) (t := 2) (fr := (0, 0)) (heap_alloc_new _ _)) (by simp [Value.oneCell']) (by omega) (by unfold maxLen; omega) (by omega) (by simp; omega) (wr.heap.size + 1) (by simp) ?_; intro gg gcap w9 hown hgrow hat hlt9; obtain ⟨hk9, hk91, hf9, hf91⟩ := HS.out.keptK (by first | exact below_alloc wr _ | exact (below_drewN (Below.refl wr.heap.size wr) _).alloc (Nat.le_refl _) _ | exact below_drewN (below_alloc wr _) _ | exact (Below.refl wr.heap.size wr).drew.alloc (Nat.le_refl _) _ | exact (below_alloc wr _).drew) hgrow; have HNX := Lib.hid (fun q => StU.nextK HS.out (by first | exact below_alloc wr _ | exact (below_drewN (Below.refl wr.heap.size wr) _).alloc (Nat.le_refl _) _ | exact below_drewN (below_alloc wr _) _ | exact (Below.refl wr.heap.size wr).drew.alloc (Nat.le_refl _) _ | exact (below_alloc wr _).drew) hown hgrow q); clear hown hgrow hat hlt9))
      all_goals
        generalize hwB : World.setCell _ _ _ = wB
        have H5 : Hid (StU (w.heap.size + 1) (.slice (some ⟨gg, 0, none⟩) (T.length + 1) gcap) bv (T ++ [x]) Y (-1) W1 wB) := Lib.hid (by rw [← hwB]; exact HNX.out 0)
        clear hwB c0 c1 c2 cf0 cf1 c0a hk9 hk91 hf9 hf91
        obtain ⟨d0, d1, d2, df⟩ := H5.out.cells
        have df1 := df 1
        have hwB2 := H5.out.lt
        have hwB3 : W1.heap.size ≤ wB.heap.size := H5.out.below.size
        clear df
        go_wp2_with (at_builtin; (refine wpList_append_lies _ rfl _ _ 61 rfl W1.heap.size 3 n0 (.int .i64 0) 1 8 Try.underlying61 hn hy0 hy1 hy2 rfl (by decide) _ _ _ rfl (World.ownsRow.alloc H5.out.bys _) ⟨wB.heap.size, 0, none⟩ 1 1 [.int .i64 (-1)] rfl rfl one_new (by intro u hu; simp at hu; subst hu; rfl) (by omega) (by unfold maxLen; omega) (by omega) (by simp; omega) (wB.heap.size + 1) (by simp) ?_); intro gb capb wb hown hgrow hat hgl; (have HNB := Lib.hid (fun q => StU.nextY H5.out (below_alloc wB _) hown hgrow q)); (obtain ⟨kb9, fb9⟩ := H5.out.keptY (below_alloc wB _) hgrow); clear hown hgrow hat)
        go_roundg (gk - 1)
        case measure => omega
        case rel => exact ⟨k + 1, _, _, by omega, by omega, by go_num, by rw [HN1.out, HN2.out]; exact HNB.out 0⟩
    · obtain rfl : k = G.length := by omega
      have HS2 : Hid (StU (w.heap.size + 1) kv bv G (List.replicate G.length (-1)) (-1) W1 wr) := Lib.hid (by have h := HS.out; rwa [List.take_length] at h)
      have hY : (List.replicate G.length (-1 : Int)).length = G.length := List.length_replicate
      generalize List.replicate G.length (-1 : Int) = Y0 at HS2 HR0 hY
      clear HS
      go_wp2_with fail
      go_loopg [7] (11 - G.length) (fun gk _ wr => ∃ (K Y : List Int) (kv bv : Value), gk + K.length = 11 ∧ Y.length = K.length ∧ LitsOk n K ∧ StU (w.heap.size + 1) kv bv K Y (-1) W1 wr ∧ uK C (gk + G.length) K Y = R)
      case atStart => exact ⟨G, Y0, _, _, by omega, hY, HGO.out, HS2.out, by rw [show 11 - G.length + G.length = 11 by omega]; exact HR0.out⟩
      case round =>
        clear HS2 HR0 hY HGO HU
        obtain ⟨K, Y, kv, bv, hgk, hYK, hK, hS, hR⟩ := hrel
        have HYK := Lib.hid hYK
        have HKO := Lib.hid hK
        have HS := Lib.hid hS
        have HR1 := Lib.hid hR
        have HCN := Lib.hid (cons_of hK)
        have hKl := litsOk_len n1 n2 hK
        have hgw := hS.lt
        have hww : W1.heap.size ≤ wr.heap.size := hS.below.size
        have HIK : Hid (IL wr kv K) := Lib.hid (SI.vl (Grows.si hS.known))
        have HLC : Hid (LV wr (.slice va C.length vc) C) := Lib.hid (HL.out _ (HBW.out _ hS.below))
        obtain ⟨f, hf⟩ : ∃ f, gk + G.length = f + 1 := ⟨gk + G.length - 1, by omega⟩
        have HR2 : Hid (uK C (f + 1) K Y = R) := Lib.hid (by rw [← hf]; exact hR)
        have HF : Hid (gk - 1 + G.length = f) := Lib.hid (by omega)
        have RR := Lib.hid (HR3.out.keep hS.below (by omega))
        obtain ⟨c0, c1, c2, cf⟩ := hS.cells
        have cf0 := cf 0
        have cf1 := cf 1
        have cf2 := cf 2
        have hYl : Y.length ≤ 10 := by omega
        clear hK hS hR cf hf HR1 hYK
        obtain ⟨ka, kc, rfl⟩ := VL.len (d := (0 : Int)) HIK.out
        obtain ⟨ba, bc, rfl⟩ := SI.len (d := (0 : Int)) (Grows.si HS.out.bys)
        obtain ⟨wA, rfl⟩ : ∃ x : World, x = wr := ⟨_, rfl⟩
        obtain ⟨g2, rfl⟩ : ∃ x : Nat, x = gk := ⟨_, rfl⟩
        go_wp2_with fail
        go_loopg [7, 8, 35] C.length (fun gk uv lv i wr => ∃ k : Nat, k ≤ C.length ∧ gk + k = C.length ∧ i = .int .i64 k ∧ (∀ j, j < k → ¬ (rst K (C.getD j [])).length = 0) ∧ ((uv = .int .i64 (-1) ∧ lv = .int .i64 0 ∧ ∀ j, j < k → un K (C.getD j []) = false) ∨ (∃ q0 : Nat, q0 < k ∧ uv = .int .i64 (q0 : Int) ∧ lv = .int .i64 (unL K C q0) ∧ un K (C.getD q0 []) = true ∧ ∀ j, j < q0 → un K (C.getD j []) = false)) ∧ wr = wA)
        case atStart => exact ⟨0, Nat.zero_le _, by omega, rfl, fun j hj => by omega, Or.inl ⟨rfl, rfl, fun j hj => by omega⟩, rfl⟩
        case round =>
          obtain ⟨k, hk, hgk2, rfl, hb, huv, rfl⟩ := hrel
          have HBR := Lib.hid hb
          clear hb
          by_cases hlt : k < C.length
          · rcases HLC.out with ⟨hz, -⟩ | ⟨b, off, cap, D, e, hpos, hbl, hcell⟩
            · rw [hz] at hlt; simp at hlt
            injection e with e1 _ e3
            subst e1
            have cD := (hcell k hlt).1
            have ID := (hcell k hlt).2
            have hcl := HC.out k hlt
            have LK := Lib.hid (l05Look_any (w.heap.size + 1) _ (D k) K (C.getD k []) wr c0 HIK.out ID HCN.out (fun i hi2 => by have := hcl.a i hi2; have := hcl.n2; unfold ltr at *; split at * <;> omega) (by omega) (by have := hcl.len; omega))
            have LZ := Lib.hid (@lk_zero K (C.getD k []) HCN.out)
            have LO := Lib.hid (@lk_one K (C.getD k []) HCN.out)
            have LI := Lib.hid (@lk_lit K (C.getD k []) HCN.out)
            generalize D k = dv at cD LK
            obtain ⟨o, ho⟩ : ∃ o, lkO K (C.getD k []) = o := ⟨_, rfl⟩
            obtain ⟨l, hl⟩ : ∃ l, lkL K (C.getD k []) = l := ⟨_, rfl⟩
            rw [ho, hl] at LK
            rw [ho] at LZ LO LI
            rw [hl] at LI
            clear e3 hcell hbl hpos ID hcl ho hl
            by_cases z : o = 0
            · have HFB : Hid (fb K C = some k) := Lib.hid (fstP_some hlt (decide_eq_true (LZ.out.1 z)) fun j hj => decide_eq_false (HBR.out j hj))
              have HR : Hid ((K, Y, (k : Int)) = R) := Lib.hid (by rw [← HR2.out, uK_bad HFB.out])
              have HH := Lib.hid (HS.out.wrong (k : Int))
              obtain ⟨⟨v0, r0⟩, ⟨v1, r1⟩, ⟨v2, r2⟩, rf⟩ := RR.out
              have rf0 := rf 0
              have rf1 := rf 1
              have rf2 := rf 2
              have hne : ¬ w.heap.size = w.heap.size + 1 := by omega
              have hne2 : ¬ w.heap.size + 1 = w.heap.size := by omega
              subst z
              clear rf huv LZ LO LI
              go_wp2_with fail
              go_at_call 93; refine LK.out.mono ?_; rintro e w' ⟨rfl, rfl⟩
              go_wp2_with fail
              refine bodyPost_ret (v := .agg #[.slice ka K.length kc, .slice ba Y.length bc, .int .i64 (k : Int)]) (by simp [results, Try.results49, r0, r1, r2, go_sem]) rfl ?_
              generalize hX : World.setCell _ _ _ = X
              have hT : Turned w.heap.size (w.heap.size + 1) (wr.setCell ⟨w.heap.size + 1, 2, none⟩ (.int .i64 (k : Int))) X := by
                rw [← hX]
                iterate 3 (refine Turned.setCell ?_ (by simp) (by simp) _)
                exact Turned.refl _ _ _
              clear hX
              exact units_end HW0.out HH.out hT HR.out
            · have HBR2 : Hid (∀ j, j < k + 1 → ¬ (rst K (C.getD j [])).length = 0) := Lib.hid fun j hj => by
                by_cases e : j = k
                · subst e; exact fun q => z (LZ.out.2 q)
                · exact HBR.out j (by omega)
              have z' : (o == 0) = false := by simpa using z
              cases hun : un K (C.getD k []) with
              | false =>
                have o1 : ¬ o = 1 := fun q => by rw [LO.out.1 q] at hun; cases hun
                have o1' : (o == 1) = false := by simpa using o1
                have HV2 : Hid ((u7 = .int .i64 (-1) ∧ u8 = .int .i64 0 ∧ ∀ j, j < k + 1 → un K (C.getD j []) = false) ∨ (∃ q0 : Nat, q0 < k + 1 ∧ u7 = .int .i64 (q0 : Int) ∧ u8 = .int .i64 (unL K C q0) ∧ un K (C.getD q0 []) = true ∧ ∀ j, j < q0 → un K (C.getD j []) = false)) := Lib.hid (by
                  rcases huv with ⟨a, b, c⟩ | ⟨q0, a, b⟩
                  · refine Or.inl ⟨a, b, fun j hj => ?_⟩
                    by_cases e : j = k
                    · subst e; exact hun
                    · exact c j (by omega)
                  · exact Or.inr ⟨q0, by omega, b⟩)
                clear huv hun LZ LO LI
                go_wp2_with fail
                go_at_call 93; refine LK.out.mono ?_; rintro e w' ⟨rfl, rfl⟩
                go_wp2_with fail
                go_roundg (gk - 1)
                case measure => omega
                case rel => exact ⟨k + 1, by omega, by omega, by go_num, HBR2.out, HV2.out, rfl⟩
              | true =>
                have o1 : o = 1 := LO.out.2 hun
                have HLL : Hid (l = unL K C k) := Lib.hid (LI.out o1)
                have HUN := Lib.hid hun
                subst o1
                clear LZ LO LI hun z z'
                rcases huv with ⟨rfl, rfl, hnone⟩ | ⟨q0, hq0, rfl, rfl, hun0, hno0⟩
                · have HNN := Lib.hid hnone
                  clear hnone
                  go_wp2_with fail
                  go_at_call 93; refine LK.out.mono ?_; rintro e w' ⟨rfl, rfl⟩
                  go_wp2_with fail
                  go_roundg (gk - 1)
                  case measure => omega
                  case rel => exact ⟨k + 1, by omega, by omega, by go_num, HBR2.out, Or.inr ⟨k, by omega, rfl, by rw [HLL.out], HUN.out, HNN.out⟩, rfl⟩
                · have HV2 := Lib.hid (And.intro hun0 hno0)
                  have hlt0 : ¬ (q0 : Int) < 0 := by omega
                  obtain ⟨l0, hl0⟩ : ∃ l0, unL K C q0 = l0 := ⟨_, rfl⟩
                  have HL0 := Lib.hid hl0
                  rw [hl0]
                  clear hun0 hno0 hl0
                  go_wp2_with fail
                  go_at_call 93; refine LK.out.mono ?_; rintro e w' ⟨rfl, rfl⟩
                  go_wp2_with fail
                  go_roundg (gk - 1)
                  case measure => omega
                  case rel => exact ⟨k + 1, by omega, by omega, by go_num, HBR2.out, Or.inr ⟨q0, by omega, rfl, by rw [HL0.out], HV2.out.1, HV2.out.2⟩, rfl⟩
          · obtain rfl : k = C.length := by omega
            have HFB : Hid (fb K C = none) := Lib.hid (fstP_none fun j hj => decide_eq_false (HBR.out j hj))
            rcases huv with ⟨rfl, rfl, hnone⟩ | ⟨q0, hq0, rfl, rfl, hun0, hno0⟩
            · have HR : Hid ((K, Y, -1) = R) := Lib.hid (by rw [← HR2.out, uK_end HFB.out (fstP_none hnone)])
              have HH := HS
              obtain ⟨⟨v0, r0⟩, ⟨v1, r1⟩, ⟨v2, r2⟩, rf⟩ := RR.out
              have rf0 := rf 0
              have rf1 := rf 1
              have rf2 := rf 2
              have hne : ¬ w.heap.size = w.heap.size + 1 := by omega
              have hne2 : ¬ w.heap.size + 1 = w.heap.size := by omega
              clear rf hnone
              go_wp2_with fail
              refine bodyPost_ret (v := .agg #[.slice ka K.length kc, .slice ba Y.length bc, .int .i64 (-1)]) (by simp [results, Try.results49, r0, r1, r2, go_sem]) rfl ?_
              generalize hX : World.setCell _ _ _ = X
              have hT : Turned w.heap.size (w.heap.size + 1) wr X := by
                rw [← hX]
                iterate 3 (refine Turned.setCell ?_ (by simp) (by simp) _)
                exact Turned.refl _ _ _
              clear hX
              exact units_end HW0.out HH.out hT HR.out
            · have HFU : Hid (fu K C = some q0) := Lib.hid (fstP_some hq0 hun0 hno0)
              have HR3' : Hid (uK C f (K ++ [unL K C q0]) (Y ++ [(q0 : Int)]) = R) := Lib.hid (by rw [← HR2.out, uK_go HFB.out HFU.out])
              have hnw := un_new HKO.out HC.out hq0 hun0
              have HK2 := Lib.hid hnw.1
              have hrg := HC.out q0 hq0
              obtain ⟨l0, hl0⟩ : ∃ l0, unL K C q0 = l0 := ⟨_, rfl⟩
              rw [hl0] at HR3' HK2 ⊢
              have hlt0 : ¬ (q0 : Int) < 0 := by omega
              have c1a : ∀ o, (wr.alloc o).cell? ⟨w.heap.size + 1, 1, none⟩ = some (.slice ba Y.length bc) := fun o => keep_cell c1 (below_alloc wr o) hgw
              clear hun0 hno0 hnw hrg hl0
              go_upto_region 24 with (at_builtin; go_loud ((refine wpList_append_lies _ rfl _ _ 25 rfl W1.heap.size 2 i0 (.int .i64 0) 1 8 Try.underlying25 hi hz0 hz1 hz2 rfl (by decide) _ _ _ rfl (World.ownsRow.alloc HS.out.known _) ⟨wr.heap.size, 0, none⟩ 1 1 [.int .i64 l0] rfl rfl one_new (by intro u hu; simp at hu; subst hu; rfl) (by omega) (by unfold maxLen; omega) (by omega) (by simp; omega) (wr.heap.size + 1) (by simp) ?_); intro ga capa wa hown hgrow hat hgl; (have HNA := Lib.hid (fun q => StU.nextK HS.out (below_alloc wr _) hown hgrow q)); (obtain ⟨ka9, ka91, fa9, fa91⟩ := HS.out.keptK (below_alloc wr _) hgrow); clear hown hgrow hat))
              generalize hwB : World.setCell _ _ _ = wB
              have H5 : Hid (StU (w.heap.size + 1) (.slice (some ⟨ga, 0, none⟩) (K.length + 1) capa) (.slice ba Y.length bc) (K ++ [l0]) Y (-1) W1 wB) := Lib.hid (by rw [← hwB]; exact HNA.out 0)
              clear hwB c0 c1 c2 cf0 cf1 cf2 c1a ka9 ka91 fa9 fa91
              obtain ⟨d0, d1, d2, df⟩ := H5.out.cells
              have df1 := df 1
              have hwB2 := H5.out.lt
              have hwB3 : W1.heap.size ≤ wB.heap.size := H5.out.below.size
              clear df
              go_wp2_with (at_builtin; go_loud ((refine wpList_append_lies _ rfl _ _ 61 rfl W1.heap.size 3 n0 (.int .i64 0) 1 8 Try.underlying61 hn hy0 hy1 hy2 rfl (by decide) _ _ _ rfl (World.ownsRow.alloc H5.out.bys _) ⟨wB.heap.size, 0, none⟩ 1 1 [.int .i64 (q0 : Int)] rfl rfl one_new (by intro u hu; simp at hu; subst hu; rfl) (by omega) (by unfold maxLen; omega) (by omega) (by simp; omega) (wB.heap.size + 1) (by simp) ?_); intro gb capb wb hown hgrow hat hgl; (have HNB := Lib.hid (fun q => StU.nextY H5.out (below_alloc wB _) hown hgrow q)); (obtain ⟨kb9, fb9⟩ := H5.out.keptY (below_alloc wB _) hgrow); clear hown hgrow hat))
              go_roundg (g2 - 1)
              case measure => omega
              case rel => exact ⟨K ++ [l0], Y ++ [(q0 : Int)], _, _, by rw [List.length_append]; simp; omega, by rw [List.length_append, List.length_append, HYK.out]; rfl, HK2.out, HNB.out 0, by rw [HF.out]; exact HR3'.out⟩
end Go.Proofs.Ytnakpfbeeekmiaa
/- The letters that a number tells (plain). -/
namespace Go.Proofs.Ytnakpfbeeekmiaa

/-- The letters up to k that are true. -/
def trueK (L n k : Nat) : List Int := ((List.range k).filter fun i => n.testBit (L - (i + 1))).map fun i : Nat => (i : Int) + 1
theorem trueK_yes {L n k : Nat} (h : n.testBit (L - (k + 1)) = true) : trueK L n (k + 1) = trueK L n k ++ [(k : Int) + 1] := by
  unfold trueK
  rw [List.range_succ, List.filter_append, List.map_append]
  simp [h]
theorem trueK_no {L n k : Nat} (h : n.testBit (L - (k + 1)) = false) : trueK L n (k + 1) = trueK L n k := by
  unfold trueK
  rw [List.range_succ, List.filter_append, List.map_append]
  simp [h]
theorem trueK_len (L n : Nat) : ∀ k, (trueK L n k).length ≤ k
  | 0 => by simp [trueK]
  | k + 1 => by
    have ih := trueK_len L n k
    cases h : n.testBit (L - (k + 1)) with
    | true => rw [trueK_yes h, List.length_append]; simp; omega
    | false => rw [trueK_no h]; omega
theorem trueK_mem {L n k : Nat} {x : Int} : x ∈ trueK L n k ↔ ∃ i : Nat, i < k ∧ n.testBit (L - (i + 1)) = true ∧ x = (i : Int) + 1 := by
  unfold trueK
  rw [List.mem_map]
  constructor
  · rintro ⟨i, hi, rfl⟩
    rw [List.mem_filter, List.mem_range] at hi
    exact ⟨i, hi.1, hi.2, rfl⟩
  · rintro ⟨i, h1, h2, rfl⟩
    exact ⟨i, List.mem_filter.2 ⟨List.mem_range.2 h1, h2⟩, rfl⟩
end Go.Proofs.Ytnakpfbeeekmiaa
/- How many binary digits are 1 (plain): the way of masks, for numbers below 65536. -/
namespace Go.Proofs.Ytnakpfbeeekmiaa

def ones1 (x : Nat) : Nat := ((x >>> 1) &&& 6148914691236517205) + (x &&& 6148914691236517205)
def ones2 (x : Nat) : Nat := ((x >>> 2) &&& 3689348814741910323) + (x &&& 3689348814741910323)
def ones3 (x : Nat) : Nat := ((x >>> 4) + x) &&& 1085102592571150095
def ones4 (x : Nat) : Nat := x + (x >>> 8)
def ones5 (x : Nat) : Nat := x + (x >>> 16)
def ones6 (x : Nat) : Nat := x + (x >>> 32)
def onesX (x : Nat) : Nat := ones6 (ones5 (ones4 (ones3 (ones2 (ones1 x))))) &&& 127
def popN : Nat → Nat → Nat
  | 0, _ => 0
  | k + 1, x => x % 2 + popN k (x / 2)
def pop (x : Nat) : Nat := popN 16 x
def chk (a : Nat) : Nat → Bool
  | 0 => true
  | n + 1 => Nat.beq (onesX (a + n)) (pop (a + n)) && (Nat.ble (ones1 (a + n)) 65536 && (Nat.ble (ones2 (ones1 (a + n))) 65536 && (Nat.ble (ones3 (ones2 (ones1 (a + n)))) 65536 && chk a n)))
theorem chk_at {a : Nat} : ∀ {n : Nat}, chk a n = true → ∀ k, k < n → onesX (a + k) = pop (a + k) ∧ ones1 (a + k) ≤ 65536 ∧ ones2 (ones1 (a + k)) ≤ 65536 ∧ ones3 (ones2 (ones1 (a + k))) ≤ 65536
  | 0, _, k, hk => by omega
  | n + 1, h, k, hk => by
    simp only [chk, Bool.and_eq_true] at h
    obtain ⟨h1, h2, h3, h4, h5⟩ := h
    by_cases e : k = n
    · subst e; exact ⟨Nat.eq_of_beq_eq_true h1, Nat.le_of_ble_eq_true h2, Nat.le_of_ble_eq_true h3, Nat.le_of_ble_eq_true h4⟩
    · exact chk_at h5 k (by omega)
theorem chk_0 : chk 0 1024 = true := by decide +kernel
theorem chk_1 : chk 1024 1024 = true := by decide +kernel
theorem chk_2 : chk 2048 1024 = true := by decide +kernel
theorem chk_3 : chk 3072 1024 = true := by decide +kernel
theorem chk_4 : chk 4096 1024 = true := by decide +kernel
theorem chk_5 : chk 5120 1024 = true := by decide +kernel
theorem chk_6 : chk 6144 1024 = true := by decide +kernel
theorem chk_7 : chk 7168 1024 = true := by decide +kernel
theorem chk_8 : chk 8192 1024 = true := by decide +kernel
theorem chk_9 : chk 9216 1024 = true := by decide +kernel
theorem chk_10 : chk 10240 1024 = true := by decide +kernel
theorem chk_11 : chk 11264 1024 = true := by decide +kernel
theorem chk_12 : chk 12288 1024 = true := by decide +kernel
theorem chk_13 : chk 13312 1024 = true := by decide +kernel
theorem chk_14 : chk 14336 1024 = true := by decide +kernel
theorem chk_15 : chk 15360 1024 = true := by decide +kernel
theorem chk_16 : chk 16384 1024 = true := by decide +kernel
theorem chk_17 : chk 17408 1024 = true := by decide +kernel
theorem chk_18 : chk 18432 1024 = true := by decide +kernel
theorem chk_19 : chk 19456 1024 = true := by decide +kernel
theorem chk_20 : chk 20480 1024 = true := by decide +kernel
theorem chk_21 : chk 21504 1024 = true := by decide +kernel
theorem chk_22 : chk 22528 1024 = true := by decide +kernel
theorem chk_23 : chk 23552 1024 = true := by decide +kernel
theorem chk_24 : chk 24576 1024 = true := by decide +kernel
theorem chk_25 : chk 25600 1024 = true := by decide +kernel
theorem chk_26 : chk 26624 1024 = true := by decide +kernel
theorem chk_27 : chk 27648 1024 = true := by decide +kernel
theorem chk_28 : chk 28672 1024 = true := by decide +kernel
theorem chk_29 : chk 29696 1024 = true := by decide +kernel
theorem chk_30 : chk 30720 1024 = true := by decide +kernel
theorem chk_31 : chk 31744 1024 = true := by decide +kernel
theorem chk_32 : chk 32768 1024 = true := by decide +kernel
theorem chk_33 : chk 33792 1024 = true := by decide +kernel
theorem chk_34 : chk 34816 1024 = true := by decide +kernel
theorem chk_35 : chk 35840 1024 = true := by decide +kernel
theorem chk_36 : chk 36864 1024 = true := by decide +kernel
theorem chk_37 : chk 37888 1024 = true := by decide +kernel
theorem chk_38 : chk 38912 1024 = true := by decide +kernel
theorem chk_39 : chk 39936 1024 = true := by decide +kernel
theorem chk_40 : chk 40960 1024 = true := by decide +kernel
theorem chk_41 : chk 41984 1024 = true := by decide +kernel
theorem chk_42 : chk 43008 1024 = true := by decide +kernel
theorem chk_43 : chk 44032 1024 = true := by decide +kernel
theorem chk_44 : chk 45056 1024 = true := by decide +kernel
theorem chk_45 : chk 46080 1024 = true := by decide +kernel
theorem chk_46 : chk 47104 1024 = true := by decide +kernel
theorem chk_47 : chk 48128 1024 = true := by decide +kernel
theorem chk_48 : chk 49152 1024 = true := by decide +kernel
theorem chk_49 : chk 50176 1024 = true := by decide +kernel
theorem chk_50 : chk 51200 1024 = true := by decide +kernel
theorem chk_51 : chk 52224 1024 = true := by decide +kernel
theorem chk_52 : chk 53248 1024 = true := by decide +kernel
theorem chk_53 : chk 54272 1024 = true := by decide +kernel
theorem chk_54 : chk 55296 1024 = true := by decide +kernel
theorem chk_55 : chk 56320 1024 = true := by decide +kernel
theorem chk_56 : chk 57344 1024 = true := by decide +kernel
theorem chk_57 : chk 58368 1024 = true := by decide +kernel
theorem chk_58 : chk 59392 1024 = true := by decide +kernel
theorem chk_59 : chk 60416 1024 = true := by decide +kernel
theorem chk_60 : chk 61440 1024 = true := by decide +kernel
theorem chk_61 : chk 62464 1024 = true := by decide +kernel
theorem chk_62 : chk 63488 1024 = true := by decide +kernel
theorem chk_63 : chk 64512 1024 = true := by decide +kernel
theorem chk_all : ∀ i, i < 64 → chk (1024 * i) 1024 = true
  | 0, _ => chk_0
  | 1, _ => chk_1
  | 2, _ => chk_2
  | 3, _ => chk_3
  | 4, _ => chk_4
  | 5, _ => chk_5
  | 6, _ => chk_6
  | 7, _ => chk_7
  | 8, _ => chk_8
  | 9, _ => chk_9
  | 10, _ => chk_10
  | 11, _ => chk_11
  | 12, _ => chk_12
  | 13, _ => chk_13
  | 14, _ => chk_14
  | 15, _ => chk_15
  | 16, _ => chk_16
  | 17, _ => chk_17
  | 18, _ => chk_18
  | 19, _ => chk_19
  | 20, _ => chk_20
  | 21, _ => chk_21
  | 22, _ => chk_22
  | 23, _ => chk_23
  | 24, _ => chk_24
  | 25, _ => chk_25
  | 26, _ => chk_26
  | 27, _ => chk_27
  | 28, _ => chk_28
  | 29, _ => chk_29
  | 30, _ => chk_30
  | 31, _ => chk_31
  | 32, _ => chk_32
  | 33, _ => chk_33
  | 34, _ => chk_34
  | 35, _ => chk_35
  | 36, _ => chk_36
  | 37, _ => chk_37
  | 38, _ => chk_38
  | 39, _ => chk_39
  | 40, _ => chk_40
  | 41, _ => chk_41
  | 42, _ => chk_42
  | 43, _ => chk_43
  | 44, _ => chk_44
  | 45, _ => chk_45
  | 46, _ => chk_46
  | 47, _ => chk_47
  | 48, _ => chk_48
  | 49, _ => chk_49
  | 50, _ => chk_50
  | 51, _ => chk_51
  | 52, _ => chk_52
  | 53, _ => chk_53
  | 54, _ => chk_54
  | 55, _ => chk_55
  | 56, _ => chk_56
  | 57, _ => chk_57
  | 58, _ => chk_58
  | 59, _ => chk_59
  | 60, _ => chk_60
  | 61, _ => chk_61
  | 62, _ => chk_62
  | 63, _ => chk_63
  | i + 64, h => by omega
theorem ones_ok {x : Nat} (h : x < 65536) : onesX x = pop x ∧ ones1 x ≤ 65536 ∧ ones2 (ones1 x) ≤ 65536 ∧ ones3 (ones2 (ones1 x)) ≤ 65536 := by
  have := chk_at (chk_all (x / 1024) (by omega)) (x % 1024) (by omega)
  rw [show 1024 * (x / 1024) + x % 1024 = x by omega] at this
  exact this
end Go.Proofs.Ytnakpfbeeekmiaa
/- How many binary digits are 1 (plain): the way of masks, for numbers below 2^48. -/
namespace Go.Proofs.Ytnakpfbeeekmiaa

/-- Masks part by part. -/
theorem and_parts (k a b m n : Nat) (ha : a < 2 ^ k) (hm : m < 2 ^ k) : (a + 2 ^ k * b) &&& (m + 2 ^ k * n) = (a &&& m) + 2 ^ k * (b &&& n) := by
  have hx : a &&& m < 2 ^ k := Nat.lt_of_le_of_lt Nat.and_le_left ha
  rw [Nat.add_comm a, Nat.add_comm m, Nat.add_comm (a &&& m)]
  apply Nat.eq_of_testBit_eq
  intro i
  rw [Nat.testBit_and, Nat.testBit_two_pow_mul_add _ ha, Nat.testBit_two_pow_mul_add _ hm, Nat.testBit_two_pow_mul_add _ hx]
  split
  · rw [Nat.testBit_and]
  · rw [Nat.testBit_and]
theorem and_low (k a b m : Nat) (ha : a < 2 ^ k) (hm : m < 2 ^ k) : (a + 2 ^ k * b) &&& m = a &&& m := by
  have := and_parts k a b m 0 ha hm
  rw [Nat.mul_zero, Nat.add_zero, Nat.and_zero, Nat.mul_zero, Nat.add_zero] at this
  exact this
/-- A mask of parts that repeat, three of 16 digits each. -/
theorem and3 (p a b c : Nat) (q : Nat) (hp : p < 65536) (hq : q = p + 65536 * (p + 65536 * (p + 65536 * p))) (ha : a < 65536) (hb : b < 65536) (hc : c < 65536) :
    (a + 65536 * (b + 65536 * c)) &&& q = (a &&& p) + 65536 * ((b &&& p) + 65536 * (c &&& p)) := by
  subst hq
  have h1 := and_parts 16 a (b + 65536 * c) p (p + 65536 * (p + 65536 * p)) (by omega) (by omega)
  have h2 := and_parts 16 b c p (p + 65536 * p) (by omega) (by omega)
  have h3 := and_parts 16 c 0 p p (by omega) (by omega)
  have e : (2 : Nat) ^ 16 = 65536 := by decide
  rw [e] at h1 h2 h3
  rw [Nat.mul_zero, Nat.add_zero, Nat.zero_and, Nat.mul_zero, Nat.add_zero] at h3
  rw [h1, h2, h3]
theorem and1 (p a q : Nat) (hp : p < 65536) (hq : q = p + 65536 * (p + 65536 * (p + 65536 * p))) (ha : a < 65536) : a &&& q = a &&& p := by
  have h := and3 p a 0 0 q hp hq ha (by omega) (by omega)
  rw [Nat.zero_and] at h
  simpa using h
def M1 : Nat := 6148914691236517205
def M2 : Nat := 3689348814741910323
def M3 : Nat := 1085102592571150095
theorem m1_eq : (6148914691236517205 : Nat) = 21845 + 65536 * (21845 + 65536 * (21845 + 65536 * 21845)) := by decide
theorem m2_eq : (3689348814741910323 : Nat) = 13107 + 65536 * (13107 + 65536 * (13107 + 65536 * 13107)) := by decide
theorem m3_eq : (1085102592571150095 : Nat) = 3855 + 65536 * (3855 + 65536 * (3855 + 65536 * 3855)) := by decide
theorem shr_div (x k : Nat) : x >>> k = x / 2 ^ k := Nat.shiftRight_eq_div_pow x k
/-- The first step, part by part. -/
def st1 (a : Nat) : Nat := ((a / 2) &&& 21845) + (a &&& 21845)
theorem st1_le (a : Nat) : st1 a ≤ 43690 := by
  have h1 : (a / 2) &&& 21845 ≤ 21845 := Nat.and_le_right
  have h2 : a &&& 21845 ≤ 21845 := Nat.and_le_right
  unfold st1
  omega
theorem ones1_16 {a : Nat} (ha : a < 65536) : ones1 a = st1 a := by
  unfold ones1 st1
  rw [shr_div, Nat.pow_one, and1 21845 (a / 2) _ (by omega) m1_eq (by omega), and1 21845 a _ (by omega) m1_eq ha]
theorem ones1_48 {a b c : Nat} (ha : a < 65536) (hb : b < 65536) (hc : c < 65536) : ones1 (a + 65536 * (b + 65536 * c)) = st1 a + 65536 * (st1 b + 65536 * st1 c) := by
  unfold ones1 st1
  have e : (a + 65536 * (b + 65536 * c)) / 2 = (a / 2 + 2 ^ 15 * (b % 2)) + 65536 * ((b / 2 + 2 ^ 15 * (c % 2)) + 65536 * (c / 2)) := by omega
  rw [shr_div, Nat.pow_one, e, and3 21845 _ _ _ _ (by omega) m1_eq (by omega) (by omega) (by omega), and3 21845 _ _ _ _ (by omega) m1_eq ha hb hc]
  rw [and_low 15 (a / 2) (b % 2) 21845 (by omega) (by omega), and_low 15 (b / 2) (c % 2) 21845 (by omega) (by omega)]
  omega
/-- The second step. -/
def st2 (a : Nat) : Nat := ((a / 4) &&& 13107) + (a &&& 13107)
theorem st2_le (a : Nat) : st2 a ≤ 26214 := by
  have h1 : (a / 4) &&& 13107 ≤ 13107 := Nat.and_le_right
  have h2 : a &&& 13107 ≤ 13107 := Nat.and_le_right
  unfold st2
  omega
theorem nib (a : Nat) : (a &&& 13107) % 16 ≤ 3 := by
  have := Nat.and_mod_two_pow (a := a) (b := 13107) (n := 4)
  rw [show (2 : Nat) ^ 4 = 16 by decide] at this
  rw [this, show 13107 % 16 = 3 by decide]
  exact Nat.and_le_right
theorem st2_nib (a : Nat) : st2 a % 16 ≤ 6 := by
  have h1 := nib (a / 4)
  have h2 := nib a
  unfold st2
  omega
theorem ones2_16 {a : Nat} (ha : a < 65536) : ones2 a = st2 a := by
  unfold ones2 st2
  rw [shr_div, show (2 : Nat) ^ 2 = 4 by decide, and1 13107 (a / 4) _ (by omega) m2_eq (by omega), and1 13107 a _ (by omega) m2_eq ha]
theorem ones2_48 {a b c : Nat} (ha : a < 65536) (hb : b < 65536) (hc : c < 65536) : ones2 (a + 65536 * (b + 65536 * c)) = st2 a + 65536 * (st2 b + 65536 * st2 c) := by
  unfold ones2 st2
  have e : (a + 65536 * (b + 65536 * c)) / 4 = (a / 4 + 2 ^ 14 * (b % 4)) + 65536 * ((b / 4 + 2 ^ 14 * (c % 4)) + 65536 * (c / 4)) := by omega
  rw [shr_div, show (2 : Nat) ^ 2 = 4 by decide, e, and3 13107 _ _ _ _ (by omega) m2_eq (by omega) (by omega) (by omega), and3 13107 _ _ _ _ (by omega) m2_eq ha hb hc]
  rw [and_low 14 (a / 4) (b % 4) 13107 (by omega) (by omega), and_low 14 (b / 4) (c % 4) 13107 (by omega) (by omega)]
  omega
/-- The third step. -/
def st3 (a : Nat) : Nat := (a / 16 + a) &&& 3855
theorem st3_le (a : Nat) : st3 a ≤ 3855 := Nat.and_le_right
theorem st3_top (y t : Nat) : (y + 4096 * t) &&& 3855 = y &&& 3855 := by
  have h1 := and_low 12 (y % 4096) (y / 4096 + t) 3855 (by omega) (by omega)
  have h2 := and_low 12 (y % 4096) (y / 4096) 3855 (by omega) (by omega)
  rw [show (2 : Nat) ^ 12 = 4096 by decide] at h1 h2
  rw [show y % 4096 + 4096 * (y / 4096 + t) = y + 4096 * t by omega] at h1
  rw [show y % 4096 + 4096 * (y / 4096) = y by omega] at h2
  rw [h1, h2]
theorem ones3_16 {a : Nat} (ha : a ≤ 26214) : ones3 a = st3 a := by
  unfold ones3 st3
  rw [shr_div, show (2 : Nat) ^ 4 = 16 by decide, and1 3855 _ _ (by omega) m3_eq (by omega)]
theorem ones3_48 {a b c : Nat} (ha : a ≤ 26214) (hb : b ≤ 26214) (hc : c ≤ 26214) (nb : b % 16 ≤ 6) (nc : c % 16 ≤ 6) : ones3 (a + 65536 * (b + 65536 * c)) = st3 a + 65536 * (st3 b + 65536 * st3 c) := by
  unfold ones3 st3
  have e : (a + 65536 * (b + 65536 * c)) / 16 + (a + 65536 * (b + 65536 * c)) = ((a / 16 + a) + 4096 * (b % 16)) + 65536 * (((b / 16 + b) + 4096 * (c % 16)) + 65536 * (c / 16 + c)) := by omega
  rw [shr_div, show (2 : Nat) ^ 4 = 16 by decide, e, and3 3855 _ _ _ _ (by omega) m3_eq (by omega) (by omega) (by omega), st3_top, st3_top]
theorem end_16 {u : Nat} (h : u ≤ 3855) : ones6 (ones5 (ones4 u)) &&& 127 = (u % 256 + u / 256) % 128 := by
  have h4 : ones4 u = u + u / 256 := by unfold ones4; rw [shr_div]
  have h5 : ones5 (u + u / 256) = u + u / 256 := by unfold ones5; rw [shr_div]; omega
  have h6 : ones6 (u + u / 256) = u + u / 256 := by unfold ones6; rw [shr_div]; omega
  rw [h4, h5, h6, show (127 : Nat) = 2 ^ 7 - 1 by decide, Nat.and_two_pow_sub_one_eq_mod]
  omega
theorem st3_low (a : Nat) : st3 a % 256 ≤ 15 := by
  unfold st3
  have := Nat.and_mod_two_pow (a := a / 16 + a) (b := 3855) (n := 8)
  rw [show (2 : Nat) ^ 8 = 256 by decide] at this
  rw [this, show 3855 % 256 = 15 by decide]
  exact Nat.and_le_right
theorem popN_split : ∀ (j k a b : Nat), a < 2 ^ j → popN (j + k) (a + 2 ^ j * b) = popN j a + popN k b
  | 0, k, a, b, h => by
    have : a = 0 := by simpa using h
    subst this
    simp [popN]
  | j + 1, k, a, b, h => by
    rw [show j + 1 + k = (j + k) + 1 by omega]
    show (a + 2 ^ (j + 1) * b) % 2 + popN (j + k) ((a + 2 ^ (j + 1) * b) / 2) = (a % 2 + popN j (a / 2)) + popN k b
    have e : 2 ^ (j + 1) * b = 2 * (2 ^ j * b) := by rw [Nat.pow_succ]; rw [Nat.mul_comm (2 ^ j) 2, Nat.mul_assoc]
    rw [e]
    have h2 : a / 2 < 2 ^ j := by rw [Nat.pow_succ] at h; omega
    rw [show (a + 2 * (2 ^ j * b)) / 2 = a / 2 + 2 ^ j * b by omega, show (a + 2 * (2 ^ j * b)) % 2 = a % 2 by omega, popN_split j k (a / 2) b h2]
    omega
theorem end_48 {u v w : Nat} (hu : u ≤ 3855) (hv : v ≤ 3855) (hw : w ≤ 3855) (lu : u % 256 ≤ 15) (lv : v % 256 ≤ 15) (lw : w % 256 ≤ 15) :
    ones6 (ones5 (ones4 (u + 65536 * (v + 65536 * w)))) &&& 127 = (u % 256 + u / 256) + ((v % 256 + v / 256) + (w % 256 + w / 256)) := by
  obtain ⟨u0, hu0⟩ : ∃ q, q = u % 256 := ⟨_, rfl⟩
  obtain ⟨u1, hu1⟩ : ∃ q, q = u / 256 := ⟨_, rfl⟩
  obtain ⟨v0, hv0⟩ : ∃ q, q = v % 256 := ⟨_, rfl⟩
  obtain ⟨v1, hv1⟩ : ∃ q, q = v / 256 := ⟨_, rfl⟩
  obtain ⟨w0, hw0⟩ : ∃ q, q = w % 256 := ⟨_, rfl⟩
  obtain ⟨w1, hw1⟩ : ∃ q, q = w / 256 := ⟨_, rfl⟩
  rw [← hu0, ← hu1, ← hv0, ← hv1, ← hw0, ← hw1]
  have eu : u = u0 + 256 * u1 := by omega
  have ev : v = v0 + 256 * v1 := by omega
  have ew : w = w0 + 256 * w1 := by omega
  have bu : u0 ≤ 15 ∧ u1 ≤ 15 := by omega
  have bv : v0 ≤ 15 ∧ v1 ≤ 15 := by omega
  have bw : w0 ≤ 15 ∧ w1 ≤ 15 := by omega
  rw [eu, ev, ew]
  clear hu hv hw lu lv lw hu0 hu1 hv0 hv1 hw0 hw1 eu ev ew
  have h4 : ones4 (u0 + 256 * u1 + 65536 * (v0 + 256 * v1 + 65536 * (w0 + 256 * w1))) = (u0 + u1) + 256 * (u1 + v0) + 65536 * (v0 + v1) + 16777216 * (v1 + w0) + 4294967296 * (w0 + w1) + 1099511627776 * w1 := by
    unfold ones4
    rw [shr_div, show (2 : Nat) ^ 8 = 256 by decide]
    omega
  rw [h4]
  have h5 : ones5 ((u0 + u1) + 256 * (u1 + v0) + 65536 * (v0 + v1) + 16777216 * (v1 + w0) + 4294967296 * (w0 + w1) + 1099511627776 * w1) = (u0 + u1 + v0 + v1) + 256 * (u1 + v0 + v1 + w0) + 65536 * (v0 + v1 + w0 + w1) + 16777216 * (v1 + w0 + w1) + 4294967296 * (w0 + w1) + 1099511627776 * w1 := by
    unfold ones5
    rw [shr_div, show (2 : Nat) ^ 16 = 65536 by decide]
    omega
  rw [h5]
  unfold ones6
  rw [shr_div, show (2 : Nat) ^ 32 = 4294967296 by decide, show (127 : Nat) = 2 ^ 7 - 1 by decide, Nat.and_two_pow_sub_one_eq_mod, show (2 : Nat) ^ 7 = 128 by decide]
  clear h4 h5
  have h6 : ((u0 + u1 + v0 + v1) + 256 * (u1 + v0 + v1 + w0) + 65536 * (v0 + v1 + w0 + w1) + 16777216 * (v1 + w0 + w1) + 4294967296 * (w0 + w1) + 1099511627776 * w1) / 4294967296 = (w0 + w1) + 256 * w1 := by omega
  rw [h6]
  clear h6
  omega
theorem pop_16 {a : Nat} (ha : a < 65536) : pop a = (st3 (st2 (st1 a)) % 256 + st3 (st2 (st1 a)) / 256) := by
  have h := (ones_ok ha).1
  unfold onesX at h
  have b1 := st1_le a
  have b2 := st2_le (st1 a)
  have b3 := st3_le (st2 (st1 a))
  have b4 := st3_low (st2 (st1 a))
  rw [ones1_16 ha, ones2_16 (by omega), ones3_16 b2, end_16 b3] at h
  omega
/-- Numbers below 2^48. -/
theorem ones48 {x : Nat} (hx : x < 281474976710656) : onesX x = popN 48 x ∧ ones1 x < 281474976710656 ∧ ones2 (ones1 x) < 281474976710656 ∧ ones3 (ones2 (ones1 x)) < 281474976710656 := by
  obtain ⟨a, b, c, e, ha, hb, hc⟩ : ∃ a b c, x = a + 65536 * (b + 65536 * c) ∧ a < 65536 ∧ b < 65536 ∧ c < 65536 := ⟨x % 65536, x / 65536 % 65536, x / 4294967296, by omega, by omega, by omega, by omega⟩
  subst e
  have a1 := st1_le a
  have b1 := st1_le b
  have c1 := st1_le c
  have a2 := st2_le (st1 a)
  have b2 := st2_le (st1 b)
  have c2 := st2_le (st1 c)
  have a3 := st3_le (st2 (st1 a))
  have b3 := st3_le (st2 (st1 b))
  have c3 := st3_le (st2 (st1 c))
  have h1 := ones1_48 ha hb hc
  have h2 := ones2_48 (a := st1 a) (b := st1 b) (c := st1 c) (by omega) (by omega) (by omega)
  have h3 := ones3_48 a2 b2 c2 (st2_nib _) (st2_nib _)
  have h4 := end_48 a3 b3 c3 (st3_low _) (st3_low _) (st3_low _)
  have p1 := popN_split 16 32 a (b + 65536 * c) (by omega)
  have p2 := popN_split 16 16 b c (by omega)
  rw [show (2 : Nat) ^ 16 = 65536 by decide] at p1 p2
  have q1 := pop_16 ha
  have q2 := pop_16 hb
  have q3 := pop_16 hc
  unfold pop at q1 q2 q3
  refine ⟨?_, by rw [h1]; omega, by rw [h1, h2]; omega, by rw [h1, h2, h3]; omega⟩
  unfold onesX
  rw [h1, h2, h3, h4, show (48 : Nat) = 16 + 32 by omega, p1, show (32 : Nat) = 16 + 16 by omega, p2, q1, q2, q3]
theorem popN_leN : ∀ k x, popN k x ≤ k
  | 0, _ => Nat.le_refl _
  | k + 1, x => by have := popN_leN k (x / 2); unfold popN; omega
end Go.Proofs.Ytnakpfbeeekmiaa
/- The form of at most some letters (plain). -/
namespace Go.Proofs.Ytnakpfbeeekmiaa

def opp (T : List Int) : List Int := T.map fun x => -x
theorem opp_len (T : List Int) : (opp T).length = T.length := by simp [opp]
/-- The clauses of c letters out of the last d, in order. -/
def cmb (L : Nat) : Nat → Nat → List (List Int)
  | _, 0 => [[]]
  | 0, _ + 1 => []
  | d + 1, c + 1 => (cmb L d c).map (fun T => (-((L - d : Nat) : Int)) :: T) ++ cmb L d (c + 1)
theorem cmb_zero (L d : Nat) : cmb L d 0 = [[]] := by cases d <;> rfl
theorem cmb_none (L c : Nat) : cmb L 0 (c + 1) = [] := rfl
theorem cmb_step (L d c : Nat) : cmb L (d + 1) (c + 1) = (cmb L d c).map (fun T => (-((L - d : Nat) : Int)) :: T) ++ cmb L d (c + 1) := rfl
/-- The letters of a number among the last d. -/
def low (L d m : Nat) : List Int := ((List.range d).filter fun i => m.testBit (d - (i + 1))).map fun (i : Nat) => ((i + (L - d) : Nat) : Int) + 1
theorem low_step {L d m : Nat} (h : d + 1 ≤ L) : low L (d + 1) m = (if m.testBit d then [((L - d : Nat) : Int)] else []) ++ low L d m := by
  unfold low
  rw [List.range_succ_eq_map, List.filter_cons, List.filter_map]
  have e0 : d + 1 - (0 + 1) = d := by omega
  rw [e0]
  have e1 : (List.filter ((fun i => m.testBit (d + 1 - (i + 1))) ∘ Nat.succ) (List.range d)) = List.filter (fun i => m.testBit (d - (i + 1))) (List.range d) := by
    refine List.filter_congr fun i hi => ?_
    show m.testBit (d + 1 - (i + 1 + 1)) = _
    congr 1; omega
  rw [e1]
  have e2 : ∀ T : List Nat, (List.map Nat.succ T).map (fun (i : Nat) => ((i + (L - (d + 1)) : Nat) : Int) + 1) = T.map (fun (i : Nat) => ((i + (L - d) : Nat) : Int) + 1) := fun T => by
    rw [List.map_map]
    refine List.map_congr_left fun i _ => ?_
    show ((i + 1 + (L - (d + 1)) : Nat) : Int) + 1 = _
    omega
  split
  · rw [List.map_cons, e2]
    show (((0 + (L - (d + 1)) : Nat) : Int) + 1) :: _ = [_] ++ _
    rw [List.singleton_append]
    congr 1
    omega
  · rw [e2]; rfl
theorem low_all (L m : Nat) : low L L m = trueK L m L := by
  unfold low trueK
  refine List.map_congr_left fun i _ => ?_
  omega
theorem low_more {L d m : Nat} : low L d (m + 2 ^ d) = low L d m := by
  unfold low
  congr 1
  refine List.filter_congr fun i hi => ?_
  have := List.mem_range.1 hi
  rw [Nat.add_comm, Nat.testBit_two_pow_add_gt (by omega)]
theorem popN_more {n d m : Nat} (hm : m < 2 ^ d) (hd : d < n) : popN n (m + 2 ^ d) = popN n m + 1 := by
  have h1 := popN_split d (n - d) m 1 hm
  have h0 := popN_split d (n - d) m 0 hm
  rw [Nat.mul_one, show d + (n - d) = n by omega] at h1
  rw [Nat.mul_zero, Nat.add_zero, show d + (n - d) = n by omega] at h0
  rw [h1, h0]
  obtain ⟨q, hq⟩ : ∃ q, n - d = q + 1 := ⟨n - d - 1, by omega⟩
  rw [hq]
  show popN d m + (1 % 2 + popN q (1 / 2)) = popN d m + (0 % 2 + popN q (0 / 2)) + 1
  simp
  omega
theorem popN_0 : ∀ n, popN n 0 = 0
  | 0 => rfl
  | n + 1 => by unfold popN; rw [Nat.zero_div, popN_0 n]
/-- All clauses, the greatest number first. -/
def desc (L d c : Nat) : List (List Int) := ((List.range (2 ^ d)).reverse.filter fun m => popN 48 m == c).map fun m => opp (low L d m)
theorem desc_cmb {L : Nat} (hL : L ≤ 10) : ∀ d c, d ≤ L → desc L d c = cmb L d c
  | 0, 0, _ => by unfold desc; simp [cmb, popN_0, low, opp]
  | 0, c + 1, _ => by unfold desc; simp [cmb, popN_0]
  | d + 1, c, h => by
    have ih := fun c => desc_cmb hL d c (by omega)
    have hr : (List.range (2 ^ (d + 1))).reverse = ((List.range (2 ^ d)).reverse.map fun m => m + 2 ^ d) ++ (List.range (2 ^ d)).reverse := by
      rw [Nat.pow_succ, Nat.mul_two, List.range_add, List.reverse_append, List.map_reverse]
      congr 2
      refine List.map_congr_left fun i _ => Nat.add_comm _ _
    have hlo : ((List.range (2 ^ d)).reverse.filter fun m => popN 48 m == c).map (fun m => opp (low L (d + 1) m)) = desc L d c := by
      unfold desc
      refine List.map_congr_left fun m hm => ?_
      have hm2 : m < 2 ^ d := by
        have := (List.mem_filter.1 hm).1
        rw [List.mem_reverse] at this
        exact List.mem_range.1 this
      rw [low_step h, Nat.testBit_lt_two_pow hm2]; rfl
    have e : desc L (d + 1) c = (((List.range (2 ^ d)).reverse.filter fun m => popN 48 m + 1 == c).map fun m => (-((L - d : Nat) : Int)) :: opp (low L d m)) ++ desc L d c := by
      show ((List.range (2 ^ (d + 1))).reverse.filter fun m => popN 48 m == c).map (fun m => opp (low L (d + 1) m)) = _
      rw [hr, List.filter_append, List.map_append, hlo]
      congr 1
      rw [List.filter_map, List.map_map]
      have hf : (List.range (2 ^ d)).reverse.filter ((fun m => popN 48 m == c) ∘ fun m => m + 2 ^ d) = (List.range (2 ^ d)).reverse.filter fun m => popN 48 m + 1 == c := by
        refine List.filter_congr fun m hm => ?_
        rw [List.mem_reverse] at hm
        show (popN 48 (m + 2 ^ d) == c) = _
        rw [popN_more (List.mem_range.1 hm) (by omega)]
      rw [hf]
      refine List.map_congr_left fun m hm => ?_
      have hm2 : m < 2 ^ d := by
        have := (List.mem_filter.1 hm).1
        rw [List.mem_reverse] at this
        exact List.mem_range.1 this
      show opp (low L (d + 1) (m + 2 ^ d)) = _
      rw [low_step h, low_more, Nat.add_comm, Nat.testBit_two_pow_add_eq, Nat.testBit_lt_two_pow hm2]
      rfl
    rw [e, ih]
    cases c with
    | zero =>
      have : ((List.range (2 ^ d)).reverse.filter fun m => popN 48 m + 1 == 0) = [] := by
        rw [List.filter_eq_nil_iff]; intro m _; simp
      rw [this, cmb_zero, cmb_zero]; rfl
    | succ c =>
      rw [cmb_step, ← ih c]
      congr 1
      unfold desc
      rw [List.map_map]
      have : ((List.range (2 ^ d)).reverse.filter fun m => popN 48 m + 1 == c + 1) = (List.range (2 ^ d)).reverse.filter fun m => popN 48 m == c := by
        refine List.filter_congr fun m _ => ?_
        rw [Bool.eq_iff_iff]; simp
      rw [this]; rfl
/-- What the program has put together behind j numbers. -/
def amK (L c N : Nat) : Nat → List (List Int)
  | 0 => []
  | j + 1 => if popN 48 (N - 1 - j) = c then amK L c N j ++ [opp (trueK L (N - 1 - j) L)] else amK L c N j
theorem amK_yes {L c N j : Nat} (h : popN 48 (N - 1 - j) = c) : amK L c N (j + 1) = amK L c N j ++ [opp (trueK L (N - 1 - j) L)] := by rw [amK, if_pos h]
theorem amK_no {L c N j : Nat} (h : ¬ popN 48 (N - 1 - j) = c) : amK L c N (j + 1) = amK L c N j := by rw [amK, if_neg h]
theorem amK_few (L c N : Nat) : ∀ j, (amK L c N j).length ≤ j
  | 0 => Nat.le_refl _
  | j + 1 => by have := amK_few L c N j; unfold amK; split <;> simp <;> omega
theorem amK_is (L c N : Nat) : ∀ j, amK L c N j = (((List.range j).map fun i => N - 1 - i).filter fun m => popN 48 m == c).map fun m => opp (trueK L m L)
  | 0 => rfl
  | j + 1 => by
    rw [List.range_succ, List.map_append, List.filter_append, List.map_append, ← amK_is L c N j]
    by_cases h : popN 48 (N - 1 - j) = c
    · rw [amK_yes h]; simp [h]
    · rw [amK_no h]; simp [h]
theorem amK_cmb {L c : Nat} (hL : L ≤ 10) (hc : 1 ≤ c) : amK L c (2 ^ L) (2 ^ L - 1) = cmb L L c := by
  rw [← desc_cmb hL L c (Nat.le_refl _)]
  have hN : 0 < 2 ^ L := Nat.two_pow_pos L
  obtain ⟨N, hN2⟩ : ∃ N, N = 2 ^ L := ⟨_, rfl⟩
  rw [← hN2] at hN ⊢
  have hr : (List.range N).reverse = (List.range N).map fun i => N - 1 - i := by
    refine List.ext_getElem (by simp) fun i h1 h2 => ?_
    simp only [List.length_reverse, List.length_range] at h1
    rw [List.getElem_reverse, List.getElem_range, List.getElem_map, List.getElem_range, List.length_range]
  have h2 : amK L c N N = amK L c N (N - 1) := by
    obtain ⟨q, rfl⟩ : ∃ q, N = q + 1 := ⟨N - 1, by omega⟩
    rw [Nat.add_sub_cancel]
    refine amK_no ?_
    rw [Nat.add_sub_cancel, Nat.sub_self, popN_0]; omega
  have h3 : desc L L c = (((List.range (2 ^ L)).reverse).filter fun m => popN 48 m == c).map fun m => opp (trueK L m L) := by
    unfold desc
    refine List.map_congr_left fun m _ => ?_
    rw [low_all]
  rw [← h2, amK_is, ← hr, h3, hN2]
theorem cmb_mem {L : Nat} : ∀ d c T, d ≤ L → T ∈ cmb L d c → (∀ x ∈ T, ((L - d : Nat) : Int) + 1 ≤ -x ∧ -x ≤ (L : Int)) ∧ T.Pairwise (fun a b => -a < -b) ∧ T.length = c
  | d, 0, T, _, h => by
    rw [cmb_zero, List.mem_singleton] at h
    subst h; simp
  | 0, c + 1, T, _, h => by rw [cmb_none] at h; simp at h
  | d + 1, c + 1, T, hd, h => by
    rw [cmb_step, List.mem_append, List.mem_map] at h
    rcases h with ⟨T', h, rfl⟩ | h
    · obtain ⟨h1, h2, h3⟩ := cmb_mem d c T' (by omega) h
      refine ⟨fun x hx => ?_, List.pairwise_cons.2 ⟨fun x hx => ?_, h2⟩, by rw [List.length_cons, h3]⟩
      · rcases List.mem_cons.1 hx with rfl | hx
        · omega
        · have := h1 x hx; omega
      · have := h1 x hx; omega
    · obtain ⟨h1, h2, h3⟩ := cmb_mem d (c + 1) T (by omega) h
      exact ⟨fun x hx => by have := h1 x hx; omega, h2, h3⟩
theorem cmb_cl {L c : Nat} (h1 : 1 ≤ L) (hL : L ≤ 10) {T : List Int} (h : T ∈ cmb L L c) : ClOk (L : Int) T := by
  obtain ⟨a, b, -⟩ := cmb_mem L c T (Nat.le_refl _) h
  have e : ∀ x ∈ T, ltr x = -x := fun x hx => by have := a x hx; unfold ltr; rw [if_pos (by omega)]
  have m : ∀ i, (hi : i < T.length) → T.getD i 0 = T[i] := fun i hi => by simp [List.getD, hi]
  refine ⟨by omega, by omega, fun i hi => ?_, fun i j hij hj => ?_⟩
  · rw [m i hi, e _ (List.getElem_mem _)]
    have := a _ (List.getElem_mem hi)
    omega
  · rw [m i (by omega), m j hj, e _ (List.getElem_mem _), e _ (List.getElem_mem _)]
    exact (List.pairwise_iff_getElem.1 b) i j (by omega) hj hij
theorem getDL {X : List (List Int)} {k : Nat} (hk : k < X.length) : X.getD k [] = X[k] := by simp [List.getD, hk]
theorem cmb_form {L c n : Nat} (h1 : 1 ≤ L) (hL : L ≤ 10) : formB ⟨(L : Int), (cmb L L c).take n⟩ = decide (((cmb L L c).take n).length ≤ 48) := by
  unfold formB
  have a : inB (L : Int) 1 10 = true := by unfold inB; rw [decide_eq_true (by omega), decide_eq_true (by omega)]; rfl
  have b : allCl (L : Int) ((cmb L L c).take n) = true := allCl_yes fun k hk => by
    refine clB_of (cmb_cl (c := c) h1 hL ?_)
    rw [getDL hk]
    exact List.mem_of_mem_take (List.getElem_mem hk)
  show (inB (L : Int) 1 10 && (decide (((cmb L L c).take n).length ≤ 48) && allCl (L : Int) ((cmb L L c).take n))) = _
  rw [a, b, Bool.true_and, Bool.and_true]
def amB (n m : Int) : Bool := inB n 1 10 && (inB m 0 n && decide ((cmb n.toNat n.toNat (m.toNat + 1)).length ≤ 48))
def amF (n m : Int) : Fm := if amB n m then ⟨n, cmb n.toNat n.toNat (m.toNat + 1)⟩ else ⟨0, []⟩
theorem amF_no {n m : Int} (h : amB n m = false) : amF n m = ⟨0, []⟩ := by unfold amF; rw [h]; rfl
theorem amF_yes {n m : Int} (h : amB n m = true) : amF n m = ⟨n, cmb n.toNat n.toNat (m.toNat + 1)⟩ := by unfold amF; rw [if_pos h]
theorem amF_len (n m : Int) : szL (amF n m).cs ≤ 1048576 := by
  unfold amF
  split
  · rename_i h
    unfold amB at h
    simp only [Bool.and_eq_true, decide_eq_true_eq] at h
    have hn := inB_ok h.1
    have hl := h.2.2
    have each : ∀ i, i < (cmb n.toNat n.toNat (m.toNat + 1)).length → ((cmb n.toNat n.toNat (m.toNat + 1)).getD i []).length ≤ 10 := fun i hi => by
      rw [getDL hi]
      have h4 := (cmb_cl (L := n.toNat) (by omega) (by omega) (List.getElem_mem hi)).len
      rw [Int.toNat_natCast] at h4
      omega
    have ht : ∀ k, k ≤ (cmb n.toNat n.toNat (m.toNat + 1)).length → totAt (cmb n.toNat n.toNat (m.toNat + 1)) k ≤ 10 * k := by
      intro k
      induction k with
      | zero => intro _; exact Nat.le_refl _
      | succ k ih =>
        intro hk
        have := ih (by omega)
        have := each k (by omega)
        show totAt _ k + ((cmb n.toNat n.toNat (m.toNat + 1)).getD k []).length ≤ _
        omega
    have := ht _ (Nat.le_refl _)
    show szL (cmb n.toNat n.toNat (m.toNat + 1)) ≤ _
    unfold szL
    omega
  · simp [szL, totAt]
end Go.Proofs.Ytnakpfbeeekmiaa
