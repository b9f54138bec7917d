/- A row of rows: the model's side. -/
import Derived.Test.YtkpdjbpfnepgaabUse
import Derived.Outline
namespace Go.Proofs.Ytkpdjbpfnepgaab
open Go.RowKit Go.ChangeShapes Go.WideShapes
/-- A quiet call that answers a list that lies where it lay. -/
def RowQ (Z : List Nat) (w : World) (e : Ending) (w' : World) : Prop := ∃ v, e = .returned v ∧ SL w v Z ∧ ∃ n, w' = w.drewN n
set_option maxHeartbeats 2000000 in
theorem l02Row_any (g : Nat) (s1 s2 s3 : Value) (R : Rw) (i : Nat) (w : World) (h : RP w g s1 s2 s3 R) (hR : OkR R) (hi : i < R.B.length) :
    Calls Try.prog 58 #[.pointer (some ⟨g, 0, none⟩), .int .i64 i] w (RowQ (lineL R.N R.vars.toNat i) w) := by
  have v1 := hR.v1
  have v2 := hR.v2
  have b2 := hR.b2
  have n64 := hR.n64
  have hrow := hR.row hi
  have HLL := Lib.hid (lineL_len (Z := R.N) hrow)
  obtain ⟨c0, c1, c2, c3, r1, r2, r3⟩ := h
  rcases r1 with ⟨hz, -⟩ | ⟨b, off, cap, rfl, hpos, hbl, hcell⟩
  · rw [hz] at hrow; simp at hrow; omega
  obtain ⟨m, hm⟩ : ∃ m : Nat, m = i * R.vars.toNat := ⟨_, rfl⟩
  obtain ⟨m2, hm2⟩ : ∃ m2 : Nat, m2 = m + R.vars.toNat := ⟨_, rfl⟩
  have hvn := hR.v
  have hw1 : IntKind.i64.wrap ((i : Int) * R.vars) = (m : Int) := by rw [← hvn, ← Int.natCast_mul, ← hm]; exact IntWalk.i64_in _ (by omega)
  have hw2 : IntKind.i64.wrap (((i : Int) + 1) * R.vars) = (m2 : Int) := by
    have e : ((i : Int) + 1) * R.vars = (m2 : Int) := by rw [← hvn, Int.add_mul, Int.one_mul, ← Int.natCast_mul, ← hm, hm2]; simp
    rw [e]; exact IntWalk.i64_in _ (by omega)
  have q1 : (0 : Int) ≤ (m : Int) := by omega
  have q2 : (m : Int) ≤ (m2 : Int) := by omega
  have q3 : (m2 : Int) ≤ (R.N.length : Int) + (cap : Int) := by omega
  have q4 : (m2 : Int) ≤ ((R.N.length + cap : Nat) : Int) := by omega
  have hne : ¬ R.N.length + cap = m := by omega
  have HSL : Hid (SL w (.slice (some ⟨b, off + m, none⟩) (m2 - m) (R.N.length + cap - m)) (lineL R.N R.vars.toNat i)) := Lib.hid (by
    have e1 : m2 - m = (lineL R.N R.vars.toNat i).length := by rw [HLL.out]; omega
    have e2 : R.N.length + cap - m = (lineL R.N R.vars.toNat i).length + (R.N.length + cap - m2) := by rw [HLL.out]; omega
    rw [e1, e2]
    refine Or.inr ⟨b, off + m, _, rfl, by rw [HLL.out]; omega, hbl, fun j hj => ?_⟩
    rw [HLL.out] at hj
    rw [lineL_at hj, Nat.add_assoc, hcell _ (by omega), hm])
  clear hm hm2 hvn hrow hcell r2 r3 hR
  go_enter Try.func58, Try.ntmps58
  go_wp2_with fail
  go_quiet (fail)
  go_wp2_with fail
  refine bodyPost_ret (results_tmp rfl _ _ _) rfl ?_
  exact ⟨_, rfl, HSL.out, _, rfl⟩
end Go.Proofs.Ytkpdjbpfnepgaab
