/- Square roots: what the model's entry answers, and that the root of a single is never too great for one. -/
import Derived.Test.YtimdlnbdnednaacSame
namespace Go.Proofs.Ytimdlnbdnednaac
open Go.RowKit Ieee

def sqC : Option Nat → Option Nat
  | some x => double.sqrt x
  | none => none
def sqres (w : World) (x : Nat) : Nat := match double.sqrt x with
  | some r => r
  | none => Fl.nanAt w (.nanBits .f64 x x)
def sqdr (x : Nat) : Nat := match double.sqrt x with
  | some _ => 0
  | none => 1
theorem sqrt_facts {x r : Nat} (h : double.sqrt x = some r) : Fl.cls .f64 r = some r ∧ Fl.cls .f64 x = some x := by
  unfold Format.sqrt at h
  obtain ⟨d, hd, rfl⟩ := Option.map_eq_some_iff.1 h
  have := Fl.root_nan hd
  exact ⟨Fl.cls_some (k := .f64) (Fl.read_write_nan _ this.1), Fl.cls_some (k := .f64) this.2⟩
theorem cls_sqres (w : World) (x : Nat) : Fl.cls .f64 (sqres w x) = sqC (Fl.cls .f64 x) := by
  unfold sqres
  cases h : double.sqrt x with
  | some r => rw [(sqrt_facts h).2]; simp only [sqC, h]; exact (sqrt_facts h).1
  | none =>
    simp only [Fl.nanAt_bits]
    unfold Fl.cls
    split
    · rfl
    · exact h.symm
theorem call_sqrt (x : Nat) (w : World) : (callFunc 79 #[.float .f64 x]).run Try.prog w = .ok (.value (.float .f64 (sqres w x))) (w.drewN (sqdr x)) := by
  rw [run_callFunc_extern (e := Extern.MathSqrt.sqrt) Try.func79 (by kernel_rfl) (by kernel_rfl) (by kernel_rfl) (by kernel_rfl)]
  unfold sqres sqdr
  have e : FloatKind.f64.format.sqrt x = double.sqrt x := rfl
  change ((match FloatKind.f64.format.sqrt x with
    | some r => pure (.float .f64 r)
    | none => do pure (.float .f64 (← choose (.nanBits .f64 x x))) : Sem Value).run _ w).andThen _ = _
  rw [e]
  cases h : double.sqrt x with
  | some r => rfl
  | none => rfl

theorem qv_le_pow {m : Nat} {e j : Int} (h : m = 0 ∨ e + (m.log2 : Int) < j) : Fl.qv m e ≤ Fl.qv 1 j := by
  rw [Fl.qv_le]
  rcases h with rfl | h
  · simp
  · have hhi : m < 2 ^ (m.log2 + 1) := Nat.lt_log2_self
    have h1 : m * 2 ^ (e - j).toNat ≤ 2 ^ (m.log2 + 1) * 2 ^ (e - j).toNat := Nat.mul_le_mul_right _ (Nat.le_of_lt hhi)
    rw [← Nat.pow_add] at h1
    refine Nat.le_trans h1 ?_
    rw [Nat.one_mul]
    exact Nat.pow_le_pow_right (by omega) (by omega)
theorem log_of_qv {m : Nat} {e j : Int} (hm : m ≠ 0) (h : Fl.qv m e ≤ Fl.qv 1 j) : e + (m.log2 : Int) ≤ j := by
  have h1 : Fl.qv (2 ^ m.log2) e ≤ Fl.qv m e := Fl.qv_le_same.2 (Nat.log2_self_le hm)
  have h2 := Rat.le_trans h1 h
  rw [Fl.qv_le, ← Nat.pow_add, Nat.one_mul] at h2
  have h3 := (Nat.pow_le_pow_iff_right (by omega : 1 < 2)).1 h2
  omega

theorem rootFrom_lt (n : Nat) : ∀ todo root, Datum.rootFrom n todo root < root + 2 ^ todo
  | 0, root => by simp [Datum.rootFrom]
  | todo + 1, root => by
    simp only [Datum.rootFrom]
    have h := rootFrom_lt n todo
    have e : 2 ^ (todo + 1) = 2 ^ todo + 2 ^ todo := by rw [Nat.pow_succ]; omega
    have es : root + 1 <<< todo = root + 2 ^ todo := by rw [Nat.one_shiftLeft]
    have ep := Nat.two_pow_pos todo
    rw [es]
    split
    · have := h (root + 2 ^ todo); omega
    · have := h root; omega

/-- A root is less than about the half power. -/
theorem root_small {s : Bool} {m : Nat} {i : Int} {d : Datum} (h : Datum.root 54 (.number s m i) = some d) (hb : m = 0 ∨ i + (m.log2 : Int) ≤ 130) :
    ∃ s' m' e', d = .number s' m' e' ∧ Fl.qv m' e' ≤ Fl.qv 1 100 ∧ (m = 0 → m' = 0) := by
  simp only [Datum.root] at h
  split at h
  · rename_i hm
    cases h
    exact ⟨s, m, i, rfl, qv_le_pow (Or.inl hm), fun h => h⟩
  · rename_i hm
    split at h
    · cases h
    · cases h
      have hb' : i + (m.log2 : Int) ≤ 130 := hb.resolve_left hm
      refine ⟨_, _, _, rfl, ?_, fun h => absurd h hm⟩
      generalize hmore : 2 * 54 - m.log2 + ((i - ((2 * 54 - m.log2 : Nat) : Int)) % 2).toNat = more
      have hn0 : m <<< more ≠ 0 := by rw [Nat.shiftLeft_eq]; have := Nat.two_pow_pos more; exact Nat.mul_ne_zero hm (by omega)
      have hlog : (m <<< more).log2 = m.log2 + more := by
        rw [Nat.shiftLeft_eq]
        have h0 : m * 2 ^ more ≠ 0 := by rw [← Nat.shiftLeft_eq]; exact hn0
        rw [Nat.log2_eq_iff h0, Nat.pow_add, Nat.add_right_comm, Nat.pow_add (n := more)]
        exact ⟨Nat.mul_le_mul_right _ (Nat.log2_self_le hm), Nat.mul_lt_mul_of_pos_right Nat.lt_log2_self (Nat.two_pow_pos _)⟩
      have hr := rootFrom_lt (m <<< more) ((m <<< more).log2 / 2 + 1) 0
      rw [hlog] at hr ⊢
      generalize Datum.rootFrom (m <<< more) ((m.log2 + more) / 2 + 1) 0 = whole at hr ⊢
      have hbool : (whole * whole != m <<< more).toNat ≤ 1 := by cases (whole * whole != m <<< more) <;> decide
      have h1 : 2 * whole + (whole * whole != m <<< more).toNat ≤ 2 ^ ((m.log2 + more) / 2 + 2) := by
        have e2 : 2 ^ ((m.log2 + more) / 2 + 2) = 2 * 2 ^ ((m.log2 + more) / 2 + 1) := by rw [Nat.pow_succ' (n := (m.log2 + more) / 2 + 1)]
        omega
      refine Rat.le_trans (Fl.qv_le_same.2 h1) ?_
      rw [Fl.qv_le, ← Nat.pow_add, Nat.one_mul]
      exact Nat.pow_le_pow_right (by omega) (by omega)

theorem rv_double_100 : Fl.rv double 5057542381537067008 = Fl.qv 1 100 := by
  rw [show (5057542381537067008 : Nat) = 1122 * double.binade + 4503599627370496 by decide, Fl.rv_of double (by decide) (by decide)]
  apply Rat.le_antisymm <;> (rw [Fl.qv_le]; decide)
theorem rv_single_100 : Fl.rv single 1904214016 = Fl.qv 1 100 := by
  rw [show (1904214016 : Nat) = 226 * single.binade + 8388608 by decide, Fl.rv_of single (by decide) (by decide)]
  apply Rat.le_antisymm <;> (rw [Fl.qv_le]; decide)
theorem rv_single_max {r : Nat} (h : r < single.infRung) : Fl.rv single r ≤ Fl.qv 1 128 := by
  obtain ⟨h1, h2, h3⟩ := Fl.single_place h
  unfold Fl.rv
  refine Rat.le_trans (Fl.qv_le_same.2 (Nat.le_of_lt h1)) ?_
  rw [Fl.qv_le, ← Nat.pow_add, Nat.one_mul]
  exact Nat.pow_le_pow_right (by omega) (by omega)

/-- A finite double whose value is not above that of a rung below a single's infinity is not too great. -/
theorem ovf_write {s : Bool} {m : Nat} {e : Int} (h : Fl.qv m e ≤ Fl.qv 1 100) : Fl.ovf (double.write (.number s m e)) = false := by
  have hd : Fl.dv s m e ≤ Fl.qv 1 100 ∧ -(Fl.qv 1 100) ≤ Fl.dv s m e := by
    have := Fl.qv_nonneg m e
    unfold Fl.dv; split <;> constructor <;> grind
  have h1 := Fl.write_in double (s := s) (m := m) (e := e) (R := 5057542381537067008) (by decide) (by rw [rv_double_100]; exact hd.1) (by rw [rv_double_100]; exact hd.2)
  rw [rv_double_100] at h1
  exact Fl.ovf_of (R := 1904214016) h1.1 (by decide) (by rw [rv_single_100]; exact h1.2.1) (by rw [rv_single_100]; exact h1.2.2)
theorem ovf_not_number {x : Nat} (h : Fl.Fin double x → False) : Fl.ovf x = false := by
  unfold Fl.ovf
  rcases Fl.read_cases Fl.double_ok x with h1 | h1 | h1
  · exact (h h1).elim
  · rw [h1]
  · cases hc : double.read x with
    | nan s t => rfl
    | number s m e => rw [hc] at h1; cases h1
    | infinity s => rfl
theorem ovf_nan {x : Nat} (h : (double.read x).isNaN = true) : Fl.ovf x = false := ovf_not_number fun hf => by rw [Fl.fin_nan hf] at h; cases h

theorem nan_of_cls {k : FloatKind} {x : Nat} (h : Fl.cls k x = none) : (k.format.read x).isNaN = true := by
  unfold Fl.cls at h; split at h
  · assumption
  · cases h
theorem cls_eq_some {k : FloatKind} {x y : Nat} (h : Fl.cls k x = some y) : x = y := by
  unfold Fl.cls at h; split at h
  · cases h
  · injection h

/-- The root of a single, as a double, is not too great for one. -/
theorem root_fits (w w' : World) (x : Nat) : Fl.ovf (sqres w' (Fl.wres w x)) = false := by
  cases hq : double.sqrt (Fl.wres w x) with
  | none =>
    apply ovf_nan
    apply nan_of_cls (k := .f64)
    rw [cls_sqres]
    unfold Fl.cls
    split
    · rfl
    · exact hq
  | some r =>
    have e : sqres w' (Fl.wres w x) = r := by unfold sqres; rw [hq]
    rw [e]
    unfold Format.sqrt at hq
    obtain ⟨d, hd, rfl⟩ := Option.map_eq_some_iff.1 hq
    rcases Fl.read_cases Fl.single_ok x with h | h | h
    · have hw := Fl.wide_fin h
      have e2 : Fl.wres w x = double.write (single.read x) := by unfold Fl.wres; rw [Fl.fin_nan h]; rfl
      rw [e2] at hd
      have hr := Fl.read_fin hw.1
      rw [hr] at hd
      have hv : Fl.rv double (Fl.rg double (double.write (single.read x))) ≤ Fl.qv 1 128 := by
        have h1 := rv_single_max h
        have n1 := Fl.rv_nonneg single (Fl.rg single x)
        have n2 := Fl.rv_nonneg double (Fl.rg double (double.write (single.read x)))
        have h2 := hw.2
        unfold Fl.sv at h2
        split at h2 <;> split at h2 <;> grind
      have hb : Fl.rk double (Fl.rg double (double.write (single.read x))) = 0 ∨ (double.leastPlace + (Fl.rq double (Fl.rg double (double.write (single.read x))) : Int)) + ((Fl.rk double (Fl.rg double (double.write (single.read x)))).log2 : Int) ≤ 130 := by
        by_cases hm : Fl.rk double (Fl.rg double (double.write (single.read x))) = 0
        · exact Or.inl hm
        · right
          have := log_of_qv hm hv
          omega
      obtain ⟨s', m', e', rfl, hq2, _⟩ := root_small hd hb
      exact ovf_write hq2
    · have e2 : Fl.wres w x = double.write (.infinity (Fl.sg single x)) := by unfold Fl.wres; rw [h]; rfl
      rw [e2] at hd
      have e3 : double.read (double.write (.infinity (Fl.sg single x))) = .infinity (Fl.sg single x) := by cases Fl.sg single x <;> decide
      rw [e3] at hd
      cases hs : Fl.sg single x <;> rw [hs] at hd <;> simp [Datum.root] at hd
      subst hd
      apply ovf_not_number
      intro hf
      have := Fl.fin_inf hf
      revert this
      decide
    · exfalso
      have hc := Fl.cls_wres w x
      rw [Fl.cls_none (k := .f32) h] at hc
      have hn := nan_of_cls hc
      have := (Fl.root_nan hd).2
      have h5 : (double.read (Fl.wres w x)).isNaN = true := hn
      rw [this] at h5; cases h5
end Go.Proofs.Ytimdlnbdnednaac
