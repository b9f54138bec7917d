/- The angle's parts are within bounds. -/
import Derived.Test.YtimdlnbdnednaacAngleS
import Derived.Test.YtimdlnbdnednaacTurns
namespace Go.Proofs.Ytimdlnbdnednaac
open Go.RowKit Ieee

theorem sq_bc {a : Option Nat} {hi : Rat} (h : BC a 1 hi) (hh : hi ≤ (2 : Rat) ^ 100) : BC (sqC a) 0 ((2 : Rat) ^ 100) := by
  obtain ⟨r, rfl, f, x1, x2⟩ := h
  have hr := Fl.read_fin f
  have hs : Fl.sg double r = false := by
    have := Fl.rv_nonneg double (Fl.rg double r)
    unfold Fl.sv at x1
    cases hc : Fl.sg double r with
    | false => rfl
    | true => rw [hc] at x1; simp only [if_true] at x1; grind
  have hv : Fl.sv double r = Fl.rv double (Fl.rg double r) := by unfold Fl.sv; rw [hs]; rfl
  rw [hv] at x1 x2
  rw [hs] at hr
  have hq : Fl.rv double (Fl.rg double r) ≤ Fl.qv 1 128 := by
    have e1 : Fl.qv 1 128 = (2 : Rat) ^ 128 := by unfold Fl.qv; exact Rat.one_mul _
    rw [e1]
    exact Rat.le_trans x2 (Rat.le_trans hh (pow_le (by decide)))
  have hm : Fl.rk double (Fl.rg double r) ≠ 0 := by
    intro h0
    unfold Fl.rv Fl.qv at x1
    rw [h0] at x1
    simp at x1
    revert x1; decide
  have hb := log_of_qv hm hq
  cases hroot : Datum.root 54 (.number false (Fl.rk double (Fl.rg double r)) (double.leastPlace + (Fl.rq double (Fl.rg double r) : Nat))) with
  | none => simp [Datum.root, hm] at hroot
  | some d =>
    obtain ⟨s', m', e', rfl, hq2, _⟩ := root_small hroot (Or.inr (by omega))
    have hs' : s' = false := by
      simp only [Datum.root, if_neg hm, Bool.false_eq_true, if_false] at hroot
      injection hroot with hroot
      injection hroot with h1 _ _
      exact h1.symm
    subst hs'
    have e : sqC (some r) = some (double.write (.number false m' e')) := by
      show double.sqrt r = _
      unfold Format.sqrt
      rw [hr]
      show Option.map double.write (Datum.root 54 _) = _
      rw [hroot]; rfl
    rw [e]
    have e1 : Fl.qv 1 100 = (2 : Rat) ^ 100 := by unfold Fl.qv; exact Rat.one_mul _
    have := near_pos (Fl.near_write double (s := false) (m := m') (e := e') rfl) (pw_lt (j := 100) (by decide)) (Fl.qv_nonneg _ _) (by rw [rv_pw, ← e1]; exact hq2)
    rw [rv_pw] at this
    exact this

theorem mul_self {t : Option Nat} {j : Nat} (h : PC t j) (hj : j + j ≤ 1000) : BC (mulC t t) 0 ((2 : Rat) ^ (j + j)) := by
  obtain ⟨x, rfl, fx, x1, x2⟩ := h
  obtain ⟨r, hr, hn⟩ := Fl.mul_near fx fx
  have ha := abs_mul x1 x2 x1 x2
  have h0 : 0 ≤ Fl.sv double x * Fl.sv double x := by
    rcases Classical.em (0 ≤ Fl.sv double x) with h | h
    · exact Rat.mul_nonneg h h
    · have h1 : 0 ≤ -Fl.sv double x := by grind
      have := Rat.mul_nonneg h1 h1
      grind
  have := near_pos hn (pw_lt hj) h0 (by rw [rv_pw, pow_add]; exact ha.2)
  rw [rv_pw] at this
  show BC (double.mul x x) _ _
  rw [hr]
  exact this
theorem one_add {m : Option Nat} {j : Nat} (h : BC m 0 ((2 : Rat) ^ j)) (hj : j + 1 ≤ 1000) : BC (addC oneC m) 1 ((2 : Rat) ^ (j + 1)) := by
  obtain ⟨r, v, e, hn, i1, i2⟩ := BC.add_near lit_one h
  have h1 : (1 : Rat) ≤ (2 : Rat) ^ j := by have := pow_le (Nat.zero_le j); simpa using this
  have e2 : (2 : Rat) ^ (j + 1) = (2 : Rat) ^ j * 2 := Rat.pow_succ _ _
  have := near_ge hn (pw_lt hj) (Q := 4607182418800017408) (by decide) (by decide) (by rw [rv_one]; grind) (by rw [rv_pw, e2]; grind)
  rw [rv_pw, rv_one] at this
  show BC (addC (litC 4607182418800017408) m) _ _
  rw [e]
  exact this
theorem stepT_pc {t : Option Nat} {j : Nat} (h : PC t j) (hj : j ≤ 20) : PC (stepT t) (j + 1) := by
  have h1 := mul_self h (by omega)
  have h2 := one_add h1 (by omega)
  have h3 := sq_bc h2 (pow_le (by omega))
  have h4 := one_add h3 (by omega)
  exact PC.quo h h4 Rat.le_refl (by omega)
theorem tC_pc {t : Option Nat} (h : PC t 1) : ∀ j, j ≤ 3 → PC (tC t j) (1 + j)
  | 0, _ => h
  | j + 1, hj => stepT_pc (j := 1 + j) (tC_pc h j (by omega)) (show 1 + j ≤ 20 by omega)
theorem odd_bc {j : Nat} (h : j < 8) : BC (intC (15 - 2 * (j : Int))) 1 20 := by
  rcases (by omega : j = 0 ∨ j = 1 ∨ j = 2 ∨ j = 3 ∨ j = 4 ∨ j = 5 ∨ j = 6 ∨ j = 7) with rfl | rfl | rfl | rfl | rfl | rfl | rfl | rfl
  all_goals exact BC.mono (intC_bc (by decide)) (by decide +kernel) (by decide +kernel)
theorem aC_pc {u : Option Nat} (h : PC u 8) : ∀ j, j ≤ 8 → PC (aC u j) (9 * j)
  | 0, _ => BC.mono lit_zero (by decide +kernel) (by decide +kernel)
  | j + 1, hj => by
    have ih := aC_pc h j (by omega)
    have h1 := PC.mul h ih (by omega)
    have h2 := PC.quo pc_one (odd_bc (j := j) (by omega)) Rat.le_refl (by omega)
    have h3 := PC.sub (h2.mono (j := 8 + 9 * j) (by omega)) h1 (by omega)
    exact h3.mono (by omega)
theorem lit_eight : PC (litC 4620693217682128896) 3 := by
  have h := lit_bc (b := 4620693217682128896) (by omega)
  rw [show (4620693217682128896 : Nat) = pw 3 by decide, rv_pw] at h
  exact BC.mono h (by decide +kernel) Rat.le_refl
theorem tau_bc : BC (litC 4618760256179416344) 1 ((2 : Rat) ^ 3) := by
  have h := lit_bc (b := 4618760256179416344) (by omega)
  have h2 : Fl.rv double 4618760256179416344 ≤ Fl.rv double (pw 3) := Fl.rv_le_of _ (by decide) (by decide)
  have h3 : Fl.rv double 4607182418800017408 ≤ Fl.rv double 4618760256179416344 := Fl.rv_le_of _ (by decide) (by decide)
  rw [rv_pw] at h2
  rw [rv_one] at h3
  exact BC.mono h h3 h2
theorem shC_pc {t : Option Nat} (h : PC t 1) : PC (shC t) 80 := by
  have h3 := tC_pc h 3 (by decide)
  have hu := PC.mul h3 h3 (by decide)
  have ha := aC_pc hu 8 (by decide)
  have hm := PC.mul lit_eight (PC.mul h3 ha (by decide)) (by decide)
  exact PC.mono (PC.quo hm tau_bc Rat.le_refl (by decide)) (by decide)
theorem endC_pc {a : Option Nat} (h : PC a 80) (s xn yn : Bool) : PC (endC s xn yn a) 82 := by
  have hq : PC (litC 4598175219545276416) 80 := BC.mono lit_quarter (by decide +kernel) (by decide +kernel)
  have hh : PC (litC 4602678819172646912) 81 := BC.mono lit_half (by decide +kernel) (by decide +kernel)
  have h1 : PC (bif s then subC (litC 4598175219545276416) a else a) 81 := by
    cases s
    · exact h.mono (by decide)
    · exact PC.sub hq h (by decide)
  have h2 : ∀ b, PC b 81 → PC (bif xn then subC (litC 4602678819172646912) b else b) 82 := by
    intro b hb
    cases xn
    · exact hb.mono (by decide)
    · exact PC.sub hh hb (by decide)
  have h3 := h2 _ h1
  unfold endC
  cases yn
  · exact h3
  · exact neg_pc h3

/-- The quotient of the lesser one and the greater one. -/
theorem quo_small {x y : Nat} (fx : Fl.Fin double x) (fy : Fl.Fin double y) (h0 : 0 ≤ Fl.sv double x) (hle : Fl.sv double x ≤ Fl.sv double y) (hpos : 0 < Fl.sv double y) : PC (quoC (Fl.cls .f64 x) (Fl.cls .f64 y)) 1 := by
  have cx : Fl.cls .f64 x = some x := Fl.cls_some (k := .f64) (Fl.fin_nan fx)
  have cy : Fl.cls .f64 y = some y := Fl.cls_some (k := .f64) (Fl.fin_nan fy)
  have rx := Fl.read_fin fx
  have ry := Fl.read_fin fy
  have hv : ∀ z, 0 ≤ Fl.sv double z → Fl.rv double (Fl.rg double z) = Fl.sv double z := by
    intro z hz
    have := Fl.rv_nonneg double (Fl.rg double z)
    cases hs : Fl.sg double z with
    | false => unfold Fl.sv; rw [hs]; rfl
    | true =>
      unfold Fl.sv at hz ⊢
      rw [hs] at hz ⊢
      simp only [if_true] at hz ⊢
      grind
  have vx := hv x h0
  have vy := hv y (Rat.le_of_lt hpos)
  have hn : Fl.rk double (Fl.rg double y) ≠ 0 := by
    intro hc
    rw [← vy] at hpos
    unfold Fl.rv Fl.qv at hpos
    rw [hc] at hpos
    simp at hpos
  obtain ⟨s', m', e', hq, hl⟩ := quotient_val (s := Fl.sg double x) (t := Fl.sg double y) (m := Fl.rk double (Fl.rg double x)) (i := double.leastPlace + (Fl.rq double (Fl.rg double x) : Nat)) (j := double.leastPlace + (Fl.rq double (Fl.rg double y) : Nat)) hn
  have hl2 : Fl.qv m' e' * Fl.sv double y ≤ 2 * Fl.sv double x := by rw [← vx, ← vy]; exact hl
  have h2 : Fl.qv m' e' ≤ 2 := by
    apply Rat.le_of_mul_le_mul_right (c := Fl.sv double y) _ hpos
    grind
  have h5 := Fl.qv_nonneg m' e'
  rw [cx, cy]
  show PC (double.div x y) 1
  unfold Format.div
  rw [rx, ry]
  show PC (Option.map double.write (Datum.quotient 54 _ _)) 1
  rw [hq]
  exact pc_of_near (by decide) (Fl.near_write double (s := s') (m := m') (e := e') rfl) (by unfold Fl.dv; rw [show (2 : Rat) ^ 1 = 2 from rfl]; split <;> grind) (by unfold Fl.dv; rw [show (2 : Rat) ^ 1 = 2 from rfl]; split <;> grind)
end Go.Proofs.Ytimdlnbdnednaac
