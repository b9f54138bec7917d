/- The lowest digit that is 1: the library's way over its table; sets without it. -/
import Derived.Test.YtnakpfbeeekmiaaDoorIl
import Derived.Test.YtnakpfbeeekmiaaDoorHv0
import Derived.Test.YtnakpfbeeekmiaaDoorCells
import Derived.Laws.BitsAll
namespace Go.Proofs.YtnakpfbeeekmiaaDoor
open Go.RowKit Go.ChangeShapes Go.WideShapes

/-- The library's table lies in its variable. -/
def TzTab (w : World) : Prop := ∀ i, i < 64 → w.cell? ⟨1, i, none⟩ = some (.int .u8 ((Lib.deBruijn64tab.getD i 0 : Nat) : Int))
theorem TzTab.below {w w' : World} (h : TzTab w) (hb : Below w.heap.size w w') : TzTab w' := fun i hi => keep_cell (h i hi) hb (cell_block (h i hi))
set_option maxRecDepth 100000 in
theorem tz64_any (x : Nat) (w : World) (h0 : x ≠ 0) (h : x < 65536) (ht : TzTab w) :
    Calls Tryd.prog 53 #[.int .u64 x] w (fun e w' => e = .returned (.int .i64 (Lib.ctz 64 x)) ∧ w = w') := by
  obtain ⟨k1, k2⟩ := Lib.lowest_bit 64 x h0 (by omega)
  obtain ⟨d1, d2⟩ := Lib.deBruijn64_at _ k2
  obtain ⟨t, ht2⟩ : ∃ t, t = Lib.ctz 64 x := ⟨_, rfl⟩
  rw [← ht2] at k1 k2 d1 d2 ⊢
  obtain ⟨y, hy⟩ : ∃ y : Nat, y = 2 ^ 64 - x := ⟨_, rfl⟩
  obtain ⟨p, hp⟩ : ∃ p : Nat, p = 2 ^ t := ⟨_, rfl⟩
  have p64 : p < 18446744073709551616 := by
    have : 2 ^ t < 2 ^ 64 := Nat.pow_lt_pow_right (by omega) k2
    rw [hp]; simpa using this
  rw [← hy, ← hp] at k1
  rw [← hp] at d1 d2
  obtain ⟨z, hz⟩ : ∃ z : Nat, z = p * 285870213051353865 % 18446744073709551616 := ⟨_, rfl⟩
  rw [← hz] at d1 d2
  obtain ⟨j, hj⟩ : ∃ j : Nat, j = z / 288230376151711744 := ⟨_, rfl⟩
  rw [← hj] at d1 d2
  have c1 := ht j d1
  rw [d2] at c1
  have f0 : ((x : Int) == 0) = false := by simp <;> omega
  have f1 : IntKind.u64.wrap (-(x : Int)) = (y : Int) := by rw [IntKind.wrap_u64]; omega
  have f2 : bits .and .u64 (x : Int) (y : Int) = (p : Int) := by rw [u64_and_nat x y (by omega) (by omega), k1]
  have f3 : IntKind.u64.wrap ((p : Int) * 285870213051353865) = (z : Int) := by
    rw [IntKind.wrap_u64, hz]
    omega
  have f4 : (z : Int) / 288230376151711744 = (j : Int) := by omega
  have f5 : (0 : Int) ≤ (j : Int) := by omega
  have f6 : (j : Int) < 64 := by omega
  have f7 : (t : Int) < 64 := by omega
  clear ht h0 h k1 d2 ht2 hy hp hz hj p64
  go_enter Tryd.func53, Tryd.ntmps53
  go_wp2_with fail
  go_ret
  exact ⟨rfl, rfl⟩
theorem tz_any (x : Nat) (w : World) (h0 : x ≠ 0) (h : x < 65536) (ht : TzTab w) :
    Calls Tryd.prog 45 #[.int .u64 x] w (fun e w' => e = .returned (.int .i64 (Lib.ctz 64 x)) ∧ w = w') := by
  have HT := Lib.hid ht
  have H0 := Lib.hid h0
  clear ht h0
  go_enter Tryd.func45, Tryd.ntmps45
  go_wp2_with fail
  go_at_call 53; refine (tz64_any x _ H0.out h HT.out).mono ?_; rintro e w' ⟨rfl, rfl⟩
  go_wp2_with fail
  go_ret
  exact ⟨rfl, rfl⟩
/-- The lowest thing of a set, and the set without it. -/
theorem low_facts {n x : Nat} (hn : n ≤ 16) (h0 : x ≠ 0) (h : x < 2 ^ n) : ∃ q, x = 2 ^ Lib.ctz 64 x * (2 * q + 1) ∧ Lib.ctz 64 x < n := by
  have h2 := (pow16 hn).2
  obtain ⟨q, hq, _⟩ := Lib.ctzFrom_spec 64 x (by omega) (by omega)
  have e : Lib.ctz 64 x = Lib.ctzFrom 64 x := by simp [Lib.ctz, h0]
  rw [← e] at hq
  refine ⟨q, hq, ?_⟩
  rcases Nat.lt_or_ge (Lib.ctz 64 x) n with h3 | h3
  · exact h3
  · have h4 : 2 ^ n ≤ 2 ^ Lib.ctz 64 x := Nat.pow_le_pow_right (by omega) h3
    have h5 : 2 ^ Lib.ctz 64 x * 1 ≤ 2 ^ Lib.ctz 64 x * (2 * q + 1) := Nat.mul_le_mul_left _ (by omega)
    omega
end Go.Proofs.YtnakpfbeeekmiaaDoor
