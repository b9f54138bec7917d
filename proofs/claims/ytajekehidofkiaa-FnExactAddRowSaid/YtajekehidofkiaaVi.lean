/- Rows are valid: the program says so; both sides, of rows by value. -/
import Derived.Test.YtajekehidofkiaaVr
namespace Go.Proofs.Ytajekehidofkiaa
open Go.RowKit Go.ChangeShapes Go.WideShapes

/-- A call that answers so, and lets the old memory be. -/
def Says (b : Bool) (w : World) (e : Ending) (w' : World) : Prop := e = .returned (.bool b) ∧ Below w.heap.size w w'
theorem says {b c : Bool} {w w' : World} (h : b = c) (k : Below w.heap.size w w') : Says c w (.returned (.bool b)) w' := ⟨by rw [h], k⟩

/-- A finite number is at least 0 just if it is not less. -/
theorem fin_ge {x : Nat} (h : fin32 x = true) : geB x 0 = !ltB x 0 := by
  have hx : Fl.Fin Ieee.single x := by
    unfold fin32 at h
    unfold Fl.Fin
    rw [Fl.single_inf]
    exact of_decide_eq_true h
  have h0 : Fl.Fin Ieee.single 0 := by unfold Fl.Fin; decide
  have ho := Fl.order_fin hx h0
  unfold geB ltB
  show (Ieee.single.order x 0 == some Ordering.gt || Ieee.single.order x 0 == some Ordering.eq) = !(Ieee.single.order x 0 == some Ordering.lt)
  by_cases hl : Fl.sv Ieee.single x < Fl.sv Ieee.single 0
  · rw [ho.1.2 hl]; rfl
  · by_cases he : Fl.sv Ieee.single x = Fl.sv Ieee.single 0
    · rw [ho.2.1.2 he]; rfl
    · rw [ho.2.2.2 (by grind)]; rfl
theorem least_split : ∀ Z : List Nat, leastAll Z = (finAll Z && noLess 0 Z)
  | [] => rfl
  | x :: Z => by
    have ih := least_split Z
    unfold leastAll finAll noLess at ih ⊢
    simp only [List.all_cons]
    rw [ih]
    unfold leastB
    cases hf : fin32 x with
    | true => rw [fin_ge hf]; cases ltB x 0 <;> cases Z.all fin32 <;> rfl
    | false => simp
theorem areFinite_is (n : Int) (b : Bool) (v : Value) (Z : List Nat) (w : World) (hv : SL w v Z) (hn : Z.length ≤ 1048576) (hb : finN n Z = b) :
    Calls Try.prog 84 #[.int .i64 n, v] w (Tells b w) := by
  subst hb
  exact areFinite_any n v Z w hv hn
theorem areAtLeast_is (l : Nat) (b : Bool) (v : Value) (Z : List Nat) (w : World) (hv : SL w v Z) (hn : Z.length ≤ 1048576) (hb : noLess l Z = b) :
    Calls Try.prog 85 #[.float .f32 l, v] w (Tells b w) := by
  subst hb
  exact areAtLeast_any l v Z w hv hn
/-- What the program asks of rows, in its order. -/
def okI (R : Rw) (b1 b2 b3 b4 : Bool) : Prop := finN (R.vars * R.B.length) R.N = b1 ∧ finN R.vars R.G = b2 ∧ finN (R.B.length : Nat) R.B = b3 ∧ noLess 0 R.B = b4
theorem okI_ok {R : Rw} {b1 b2 b3 b4 : Bool} (h : okI R b1 b2 b3 b4) (v1 : 1 ≤ R.vars) (v2 : R.vars ≤ 8) (r1 : 1 ≤ R.B.length) (r2 : R.B.length ≤ 8) : (b1 && (b2 && (b3 && b4))) = okR R := by
  obtain ⟨rfl, rfl, rfl, rfl⟩ := h
  unfold okR finN
  rw [least_split, decide_eq_true v1, decide_eq_true v2, decide_eq_true r1, decide_eq_true r2, decide_eq_true (rfl : ((R.B.length : Nat) : Int) = (R.B.length : Nat))]
  simp only [Bool.true_and]
  cases decide ((R.G.length : Int) = R.vars) <;> cases decide ((R.N.length : Int) = R.vars * R.B.length) <;> cases finAll R.N <;> cases finAll R.G <;> rfl

set_option maxHeartbeats 1000000 in
theorem implValid_in (v : Value) (R : Rw) (w : World) (b1 b2 b3 b4 : Bool) (hv : RV w v R) (hn : R.size ≤ 1048576) (v1 : 1 ≤ R.vars) (v2 : R.vars ≤ 8) (r1 : 1 ≤ R.B.length) (r2 : R.B.length ≤ 8) (hI : okI R b1 b2 b3 b4) :
    Calls Try.prog 56 #[v] w (Says (b1 && (b2 && (b3 && b4))) w) := by
  have HB := Lib.hid (below_alloc w)
  obtain ⟨s1, s2, s3, rfl, g1, g2, g3⟩ := hv
  have hn1 : R.N.length ≤ 1048576 := by unfold Rw.size at hn; omega
  have hn2 : R.B.length ≤ 1048576 := by unfold Rw.size at hn; omega
  have hn3 : R.G.length ≤ 1048576 := by unfold Rw.size at hn; omega
  obtain ⟨ao2, cap2, rfl⟩ := g2.long
  have G1 := Lib.hid g1
  have G2 := Lib.hid g2
  have G3 := Lib.hid g3
  have HI := Lib.hid hI
  clear hn g1 g2 g3 hI
  have t1 : decide (R.vars < 1) = false := by simp; omega
  have t2 : decide (8 < R.vars) = false := by simp; omega
  have t3 : decide ((R.B.length : Int) < 1) = false := by simp; omega
  have t4 : decide ((8 : Int) < (R.B.length : Int)) = false := by simp; omega
  have hp : 0 ≤ R.vars * (R.B.length : Int) ∧ R.vars * (R.B.length : Int) ≤ 64 := ⟨Int.mul_nonneg (by omega) (by omega), Int.le_trans (Int.mul_le_mul v2 (by omega : (R.B.length : Int) ≤ 8) (by omega) (by omega)) (by omega)⟩
  have hw : IntKind.i64.wrap (R.vars * (R.B.length : Int)) = R.vars * (R.B.length : Int) := IntWalk.i64_in _ (by omega)
  cases b1 with
  | false =>
    go_enter Try.func56, Try.ntmps56
    go_wp2_with (go_at_call 84; refine (areFinite_is _ false _ R.N _ (G1.out.below (HB.out _) (Nat.le_refl _)) hn1 HI.out.1).mono ?_; rintro e w' ⟨rfl, n1, rfl⟩)
    go_ret
    exact says rfl (below_drewN (HB.out _) _)
  | true =>
  cases b2 with
  | false =>
    go_enter Try.func56, Try.ntmps56
    go_wp2_with fail
    go_at_call 84; refine (areFinite_is _ true _ R.N _ (G1.out.below (HB.out _) (Nat.le_refl _)) hn1 HI.out.1).mono ?_; rintro e w' ⟨rfl, n1, rfl⟩
    go_wp2_with fail
    go_at_call 84; refine (areFinite_is _ false _ R.G _ (G3.out.below (below_drewN (HB.out _) _) (Nat.le_refl _)) hn3 HI.out.2.1).mono ?_; rintro e w' ⟨rfl, n1, rfl⟩
    go_wp2_with fail
    go_ret
    exact says rfl (below_drewN (HB.out _) _)
  | true =>
  cases b3 with
  | false =>
    go_enter Try.func56, Try.ntmps56
    go_wp2_with fail
    go_at_call 84; refine (areFinite_is _ true _ R.N _ (G1.out.below (HB.out _) (Nat.le_refl _)) hn1 HI.out.1).mono ?_; rintro e w' ⟨rfl, n1, rfl⟩
    go_wp2_with fail
    go_at_call 84; refine (areFinite_is _ true _ R.G _ (G3.out.below (below_drewN (HB.out _) _) (Nat.le_refl _)) hn3 HI.out.2.1).mono ?_; rintro e w' ⟨rfl, n1, rfl⟩
    go_wp2_with fail
    go_at_call 84; refine (areFinite_is _ false _ R.B _ (G2.out.below (below_drewN (HB.out _) _) (Nat.le_refl _)) hn2 HI.out.2.2.1).mono ?_; rintro e w' ⟨rfl, n1, rfl⟩
    go_wp2_with fail
    go_ret
    exact says rfl (below_drewN (HB.out _) _)
  | true =>
    go_enter Try.func56, Try.ntmps56
    go_wp2_with fail
    go_at_call 84; refine (areFinite_is _ true _ R.N _ (G1.out.below (HB.out _) (Nat.le_refl _)) hn1 HI.out.1).mono ?_; rintro e w' ⟨rfl, n1, rfl⟩
    go_wp2_with fail
    go_at_call 84; refine (areFinite_is _ true _ R.G _ (G3.out.below (below_drewN (HB.out _) _) (Nat.le_refl _)) hn3 HI.out.2.1).mono ?_; rintro e w' ⟨rfl, n1, rfl⟩
    go_wp2_with fail
    go_at_call 84; refine (areFinite_is _ true _ R.B _ (G2.out.below (below_drewN (HB.out _) _) (Nat.le_refl _)) hn2 HI.out.2.2.1).mono ?_; rintro e w' ⟨rfl, n1, rfl⟩
    go_wp2_with fail
    go_at_call 85; refine (areAtLeast_is _ _ _ R.B _ (G2.out.below (below_drewN (HB.out _) _) (Nat.le_refl _)) hn2 HI.out.2.2.2).mono ?_; rintro e w' ⟨rfl, n1, rfl⟩
    go_wp2_with fail
    go_ret
    exact says rfl (below_drewN (HB.out _) _)
theorem implValid_any (v : Value) (R : Rw) (w : World) (hv : RV w v R) (hn : R.size ≤ 1048576) :
    Calls Try.prog 56 #[v] w (Says (okR R) w) := by
  by_cases v1 : 1 ≤ R.vars
  · by_cases v2 : R.vars ≤ 8
    · by_cases r1 : 1 ≤ R.B.length
      · by_cases r2 : R.B.length ≤ 8
        · have hI : okI R _ _ _ _ := ⟨rfl, rfl, rfl, rfl⟩
          rw [← okI_ok hI v1 v2 r1 r2]
          exact implValid_in v R w _ _ _ _ hv hn v1 v2 r1 r2 hI
        · have NO := Lib.hid (okR_no (R := R) fun h => r2 h.b2)
          obtain ⟨s1, s2, s3, rfl, g1, g2, g3⟩ := hv
          obtain ⟨ao2, cap2, rfl⟩ := g2.long
          have hn2 : R.B.length ≤ 1048576 := by unfold Rw.size at hn; omega
          clear g1 g2 g3 hn
          have t1 : decide (R.vars < 1) = false := by simp; omega
          have t2 : decide (8 < R.vars) = false := by simp; omega
          have t3 : decide ((R.B.length : Int) < 1) = false := by simp; omega
          have t4 : decide ((8 : Int) < (R.B.length : Int)) = true := by simp; omega
          clear r1 r2
          go_enter Try.func56, Try.ntmps56
          go_wp2
          go_ret
          exact says NO.out.symm (below_alloc _ _)
      · have NO := Lib.hid (okR_no (R := R) fun h => r1 h.b1)
        obtain ⟨s1, s2, s3, rfl, g1, g2, g3⟩ := hv
        obtain ⟨ao2, cap2, rfl⟩ := g2.long
        clear g1 g2 g3 hn
        have t1 : decide (R.vars < 1) = false := by simp; omega
        have t2 : decide (8 < R.vars) = false := by simp; omega
        have t3 : decide ((R.B.length : Int) < 1) = true := by simp; omega
        clear r1
        go_enter Try.func56, Try.ntmps56
        go_wp2
        go_ret
        exact says NO.out.symm (below_alloc _ _)
    · have NO := Lib.hid (okR_no (R := R) fun h => v2 h.v2)
      obtain ⟨s1, s2, s3, rfl, g1, g2, g3⟩ := hv
      obtain ⟨ao2, cap2, rfl⟩ := g2.long
      clear g1 g2 g3 hn
      have t1 : decide (R.vars < 1) = false := by simp; omega
      have t2 : decide (8 < R.vars) = true := by simp; omega
      clear v2
      go_enter Try.func56, Try.ntmps56
      go_wp2
      go_ret
      exact says NO.out.symm (below_alloc _ _)
  · have NO := Lib.hid (okR_no (R := R) fun h => v1 h.v1)
    obtain ⟨s1, s2, s3, rfl, g1, g2, g3⟩ := hv
    obtain ⟨ao2, cap2, rfl⟩ := g2.long
    clear g1 g2 g3 hn
    have t1 : decide (R.vars < 1) = true := by simp; omega
    clear v1
    go_enter Try.func56, Try.ntmps56
    go_wp2
    go_ret
    exact says NO.out.symm (below_alloc _ _)

end Go.Proofs.Ytajekehidofkiaa
