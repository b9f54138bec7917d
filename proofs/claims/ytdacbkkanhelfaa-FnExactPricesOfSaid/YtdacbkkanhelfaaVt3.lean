/- Tables are valid: the program says so; both sides, of tables by value. -/
import Derived.Test.YtdacbkkanhelfaaVt2
namespace Go.Proofs.Ytdacbkkanhelfaa
open Go.RowKit Go.ChangeShapes Go.WideShapes

/-- A call that answers a number, and lets the old memory be. -/
def SaysI (n : Int) (w : World) (e : Ending) (w' : World) : Prop := e = .returned (.int .i64 n) ∧ Below w.heap.size w w'
theorem widthOf_any (v : Value) (T : Tb) (w : World) (hv : TV w v T) (h1 : 1 ≤ T.vars) (h2 : T.vars ≤ 8) (hn : T.S.length ≤ 1048576) :
    Calls Try.prog 74 #[v] w (SaysI T.wide w) := by
  have HB := Lib.hid (below_alloc w)
  obtain ⟨s1, s2, rfl, g1, g2⟩ := hv
  obtain ⟨ao, cap, rfl⟩ := g2.long
  clear g1 g2
  go_enter Try.func74, Try.ntmps74
  go_wp2
  go_ret
  exact ⟨ret_int (by unfold Tb.wide; rfl), HB.out _⟩
theorem lastOf_any (v : Value) (T : Tb) (w : World) (hv : TV w v T) (h1 : 1 ≤ T.vars) (h2 : T.vars ≤ 8) (hn : T.S.length ≤ 1048576) :
    Calls Try.prog 82 #[v] w (SaysI (T.wide - 1) w) := by
  have HB := Lib.hid (below_alloc w)
  have HV := Lib.hid hv
  have hx : 0 ≤ T.wide ∧ T.wide ≤ 2097152 := by unfold Tb.wide; omega
  obtain ⟨hx1, hx2⟩ := hx
  obtain ⟨s1, s2, rfl, g1, g2⟩ := hv
  clear g1 g2
  go_enter Try.func82, Try.ntmps82
  go_wp2_with fail
  go_at_call 74; refine (widthOf_any _ T _ (HV.out.below (HB.out _) (Nat.le_refl _)) h1 h2 hn).mono ?_; rintro e w1 ⟨rfl, b⟩
  have B1 := Lib.hid ((HB.out _).trans (b.mono (by simp)))
  clear b
  go_wp2_with fail
  go_ret
  exact ⟨rfl, B1.out⟩
theorem isColumn_any (v : Value) (T : Tb) (c : Int) (w : World) (hv : TV w v T) (h1 : 1 ≤ T.vars) (h2 : T.vars ≤ 8) (hn : T.S.length ≤ 1048576) (t : Bool) (ht : (decide (0 ≤ c) && decide (c ≤ T.wide - 2)) = t) :
    Calls Try.prog 72 #[v, .int .i64 c] w (Says t w) := by
  have HB := Lib.hid (below_alloc w)
  have HV := Lib.hid hv
  have hx : 0 ≤ T.wide ∧ T.wide ≤ 2097152 := by unfold Tb.wide; omega
  obtain ⟨hx1, hx2⟩ := hx
  obtain ⟨s1, s2, rfl, g1, g2⟩ := hv
  clear g1 g2
  by_cases hc : 0 ≤ c
  · have hd : decide (0 ≤ c) = true := decide_eq_true hc
    by_cases hk : c < T.wide - 1
    · have ht2 : t = true := by rw [← ht, decide_eq_true hc, decide_eq_true (by omega)]; rfl
      subst ht2
      have hd2 : decide (c < T.wide - 1) = true := decide_eq_true hk
      clear ht hc hk
      go_enter Try.func72, Try.ntmps72
      go_wp2_with fail
      go_at_call 82; refine (lastOf_any _ T _ (HV.out.below (HB.out _) (Nat.le_refl _)) h1 h2 hn).mono ?_; rintro e w1 ⟨rfl, b⟩
      have B1 := Lib.hid ((HB.out _).trans (b.mono (by simp)))
      clear b
      go_wp2_with fail
      go_ret
      exact says (by simp) B1.out
    · have ht2 : t = false := by rw [← ht, decide_eq_true hc, decide_eq_false (by omega)]; rfl
      subst ht2
      have hd2 : decide (c < T.wide - 1) = false := decide_eq_false hk
      clear ht hc hk
      go_enter Try.func72, Try.ntmps72
      go_wp2_with fail
      go_at_call 82; refine (lastOf_any _ T _ (HV.out.below (HB.out _) (Nat.le_refl _)) h1 h2 hn).mono ?_; rintro e w1 ⟨rfl, b⟩
      have B1 := Lib.hid ((HB.out _).trans (b.mono (by simp)))
      clear b
      go_wp2_with fail
      go_ret
      exact says (by simp) B1.out
  · have ht2 : t = false := by rw [← ht, decide_eq_false hc]; rfl
    subst ht2
    have hd : decide (0 ≤ c) = false := decide_eq_false hc
    clear ht hc
    go_enter Try.func72, Try.ntmps72
    go_wp2_with fail
    go_ret
    exact says rfl (HB.out _)

/-! ### Contains -/
def hasI (Z : List Int) (x : Int) : Bool := !((List.range Z.length).all fun k => !(Z.getD k 0 == x))
theorem hasI_yes {Z : List Int} {x : Int} {i : Nat} (hi : i < Z.length) (h : (Z.getD i 0 == x) = true) : hasI Z x = true := by unfold hasI; rw [not_range hi (by rw [h]; rfl)]; rfl
theorem hasI_no {Z : List Int} {x : Int} (h : ∀ i, i < Z.length → (Z.getD i 0 == x) = false) : hasI Z x = false := by unfold hasI; rw [all_range fun i hi => by rw [h i hi]; rfl]; rfl
/-- Index answers at least 0 just where the list has it. -/
def Found (t : Bool) (w : World) (e : Ending) (w' : World) : Prop := ∃ n : Int, e = .returned (.int .i64 n) ∧ decide (0 ≤ n) = t ∧ w = w'
set_option maxHeartbeats 400000 in
theorem index_any (v : Value) (Z : List Int) (x : Int) (w : World) (hv : IL w v Z) (hn : Z.length ≤ 1048576) :
    Calls Try.prog 106 #[v, .int .i64 x] w (Found (hasI Z x) w) := by
  rcases hv with ⟨rfl, ao, cap, rfl⟩ | ⟨b, off, cap, rfl, hpos, hbl, hcell⟩
  · go_enter Try.func106, Try.ntmps106
    go_wp2
    refine wp_loop_rounds 1 ?_
    rw [rounds_succ]
    go_wp2
    go_ret
    exact ⟨_, rfl, rfl, rfl⟩
  · go_enter Try.func106, Try.ntmps106
    go_wp2
    go_loop [8] (fun i => ∃ k : Nat, k ≤ Z.length ∧ i = .int .i64 k ∧ (∀ j, j < k → (Z.getD j 0 == x) = false)) (fun i => Z.length - (intOf i).toNat)
    case atStart => exact ⟨0, Nat.zero_le _, rfl, fun j hj => by omega⟩
    case round =>
      obtain ⟨k, hk, rfl, hall⟩ := hrel
      have HA := Lib.hid hall
      clear hall
      by_cases hlt : k < Z.length
      · have c1 := hcell k hlt
        clear hcell
        cases hs : (Z.getD k 0 == x) with
        | true =>
          have HS := Lib.hid hs
          generalize Z.getD k 0 = z at c1 hs
          have hs2 : (x == z) = true := by rw [beq_iff_eq] at hs ⊢; exact hs.symm
          clear hs
          go_wp2
          go_ret
          exact ⟨_, rfl, by rw [hasI_yes hlt HS.out]; exact decide_eq_true (by omega), rfl⟩
        | false =>
          have HS := Lib.hid hs
          generalize Z.getD k 0 = z at c1 hs
          have hs2 : (x == z) = false := by rw [beq_eq_false_iff_ne] at hs ⊢; exact fun h => hs h.symm
          clear hs
          go_wp2
          go_round
          case rel => exact ⟨k + 1, by omega, by go_num, fun j hj => by
            by_cases e : j = k
            · subst e; exact HS.out
            · exact HA.out j (by omega)⟩
          case measure => simp [intOf]; omega
      · obtain rfl : k = Z.length := by omega
        clear hcell
        go_wp2
        go_ret
        exact ⟨_, rfl, by rw [hasI_no HA.out]; rfl, rfl⟩
theorem contains_any (v : Value) (Z : List Int) (x : Int) (w : World) (hv : IL w v Z) (hn : Z.length ≤ 1048576) (t : Bool) (ht : hasI Z x = t) :
    Calls Try.prog 73 #[v, .int .i64 x] w (Says t w) := by
  subst ht
  have HV := Lib.hid hv
  clear hv
  go_enter Try.func73, Try.ntmps73
  go_wp2_with fail
  go_at_call 106; refine (index_any _ Z x _ HV.out hn).mono ?_; rintro e w1 ⟨n, rfl, hd, rfl⟩
  go_wp2_with fail
  go_ret
  exact says rfl (Below.refl _ _)
theorem take_il {w : World} {b off cap : Nat} {Z : List Int} {k : Nat} (hk : k ≤ Z.length) (hb : b < w.heap.size) (h : ∀ i, i < Z.length → w.cell? ⟨b, off + i, none⟩ = some (.int .i64 (Z.getD i 0))) :
    IL w (.slice (some ⟨b, off, none⟩) k (Z.length + cap)) (Z.take k) := by
  have hl : (Z.take k).length = k := by rw [List.length_take]; omega
  by_cases h0 : k = 0
  · subst h0; exact Or.inl ⟨rfl, _, _, rfl⟩
  · refine Or.inr ⟨b, off, Z.length + cap - k, by rw [hl, Nat.add_sub_cancel' (by omega)], by omega, hb, fun i hi => ?_⟩
    rw [hl] at hi
    rw [h i (by omega)]
    simp [List.getD, hi]
theorem has_new {T : Tb} {i : Nat} (hi : i ≤ T.S.length) : hasI (T.S.take i) (T.S.getD i 0) = !newB T i := by
  have hl : (T.S.take i).length = i := by rw [List.length_take]; omega
  unfold hasI newB
  rw [hl]
  congr 1
  refine (Bool.eq_iff_iff.2 ?_)
  simp only [List.all_eq_true, List.mem_range]
  constructor
  · intro h k hk
    have := h k hk
    simpa [List.getD, List.getElem?_take, hk] using this
  · intro h k hk
    have := h k hk
    simpa [List.getD, List.getElem?_take, hk] using this
end Go.Proofs.Ytdacbkkanhelfaa
