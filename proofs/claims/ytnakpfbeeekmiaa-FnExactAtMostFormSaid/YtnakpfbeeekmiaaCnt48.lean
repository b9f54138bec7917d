/- How many clauses a set of up to 48 holds: the program's side. -/
import Derived.Test.YtnakpfbeeekmiaaCnt2
import Derived.Test.YtnakpfbeeekmiaaPop48
namespace Go.Proofs.Ytnakpfbeeekmiaa
open Go.RowKit Go.ChangeShapes Go.WideShapes

set_option maxRecDepth 100000 in
theorem onesCount48 (x : Nat) (w : World) (h : x < 281474976710656) :
    Calls Try.prog 109 #[.int .u64 x] w (fun e w' => e = .returned (.int .i64 (popN 48 x)) ∧ w = w') := by
  obtain ⟨k0, k1, k2, k3⟩ := ones48 h
  have kp := popN_leN 48 x
  obtain ⟨b1, hb1⟩ : ∃ b, b = (x / 2) &&& 6148914691236517205 := ⟨_, rfl⟩
  obtain ⟨b2, hb2⟩ : ∃ b, b = x &&& 6148914691236517205 := ⟨_, rfl⟩
  obtain ⟨a1, ha1⟩ : ∃ a, a = ones1 x := ⟨_, rfl⟩
  have e1 : a1 = b1 + b2 := by rw [ha1, hb1, hb2]; unfold ones1; rw [Nat.shiftRight_eq_div_pow]
  obtain ⟨c1, hc1⟩ : ∃ b, b = (a1 / 4) &&& 3689348814741910323 := ⟨_, rfl⟩
  obtain ⟨c2, hc2⟩ : ∃ b, b = a1 &&& 3689348814741910323 := ⟨_, rfl⟩
  obtain ⟨a2, ha2⟩ : ∃ a, a = ones2 a1 := ⟨_, rfl⟩
  have e2 : a2 = c1 + c2 := by rw [ha2, hc1, hc2]; unfold ones2; rw [Nat.shiftRight_eq_div_pow]
  obtain ⟨a3, ha3⟩ : ∃ a, a = ones3 a2 := ⟨_, rfl⟩
  have e3 : a3 = (a2 / 16 + a2) &&& 1085102592571150095 := by rw [ha3]; unfold ones3; rw [Nat.shiftRight_eq_div_pow]
  obtain ⟨a4, ha4⟩ : ∃ a, a = ones4 a3 := ⟨_, rfl⟩
  have e4 : a4 = a3 + a3 / 256 := by rw [ha4]; unfold ones4; rw [Nat.shiftRight_eq_div_pow]
  obtain ⟨a5, ha5⟩ : ∃ a, a = ones5 a4 := ⟨_, rfl⟩
  have e5 : a5 = a4 + a4 / 65536 := by rw [ha5]; unfold ones5; rw [Nat.shiftRight_eq_div_pow]
  obtain ⟨a6, ha6⟩ : ∃ a, a = ones6 a5 := ⟨_, rfl⟩
  have e6 : a6 = a5 + a5 / 4294967296 := by rw [ha6]; unfold ones6; rw [Nat.shiftRight_eq_div_pow]
  have hk : a6 &&& 127 = popN 48 x := by rw [ha6, ha5, ha4, ha3, ha2, ha1]; exact k0
  rw [← ha1] at k1
  rw [← ha1, ← ha2] at k2
  rw [← ha1, ← ha2, ← ha3] at k3
  have f1 : bits .and .u64 ((x : Int) / 2) 6148914691236517205 = (b1 : Int) := by
    have := u64_and_nat (x / 2) 6148914691236517205 (by omega) (by omega)
    rw [← hb1] at this
    simpa using this
  have f2 : bits .and .u64 (x : Int) 6148914691236517205 = (b2 : Int) := by
    have := u64_and_nat x 6148914691236517205 (by omega) (by omega)
    rw [← hb2] at this
    simpa using this
  have f3 : IntKind.u64.wrap ((b1 : Int) + (b2 : Int)) = (a1 : Int) := by rw [u64_small _ (by omega) (by omega)]; omega
  have f4 : bits .and .u64 ((a1 : Int) / 4) 3689348814741910323 = (c1 : Int) := by
    have := u64_and_nat (a1 / 4) 3689348814741910323 (by omega) (by omega)
    rw [← hc1] at this
    simpa using this
  have f5 : bits .and .u64 (a1 : Int) 3689348814741910323 = (c2 : Int) := by
    have := u64_and_nat a1 3689348814741910323 (by omega) (by omega)
    rw [← hc2] at this
    simpa using this
  have f6 : IntKind.u64.wrap ((c1 : Int) + (c2 : Int)) = (a2 : Int) := by rw [u64_small _ (by omega) (by omega)]; omega
  obtain ⟨d, hd⟩ : ∃ d, d = a2 / 16 + a2 := ⟨_, rfl⟩
  have f7 : IntKind.u64.wrap ((a2 : Int) / 16 + (a2 : Int)) = (d : Int) := by rw [u64_small _ (by omega) (by omega)]; omega
  have f8 : bits .and .u64 (d : Int) 1085102592571150095 = (a3 : Int) := by
    have := u64_and_nat d 1085102592571150095 (by omega) (by omega)
    rw [hd, ← e3, ← hd] at this
    simpa using this
  have f9 : IntKind.u64.wrap ((a3 : Int) + (a3 : Int) / 256) = (a4 : Int) := by rw [u64_small _ (by omega) (by omega)]; omega
  have f10 : IntKind.u64.wrap ((a4 : Int) + (a4 : Int) / 65536) = (a5 : Int) := by rw [u64_small _ (by omega) (by omega)]; omega
  have f11 : IntKind.u64.wrap ((a5 : Int) + (a5 : Int) / 4294967296) = (a6 : Int) := by rw [u64_small _ (by omega) (by omega)]; omega
  have b6 : a6 < 1125899906842624 := by omega
  have f12 : IntKind.i64.wrap (a6 : Int) = (a6 : Int) := IntWalk.i64_in _ (by omega)
  have f13 : bits .and .i64 (a6 : Int) 127 = (popN 48 x : Int) := by
    show IntKind.i64.wrap ((BitVec.ofInt 64 (a6 : Int) &&& BitVec.ofInt 64 ((127 : Nat) : Int)).toNat : Int) = _
    rw [BitVec.toNat_and, ofInt_u64 a6 (by omega), ofInt_u64 127 (by omega), hk]
    exact IntWalk.i64_in _ (by omega)
  generalize popN 48 x = p at f13 kp
  clear k0 k1 k2 k3 hb1 hb2 ha1 e1 hc1 hc2 ha2 e2 ha3 e3 ha4 e4 ha5 e5 ha6 e6 hk hd h
  go_enter Try.func109, Try.ntmps109
  go_wp2_with fail
  go_ret
  exact ⟨rfl, rfl⟩
theorem countIn48 (x : Nat) (w : World) (h : x < 281474976710656) :
    Calls Try.prog 82 #[.int .i64 x] w (fun e w' => e = .returned (.int .i64 (popN 48 x)) ∧ w = w') := by
  go_enter Try.func82, Try.ntmps82
  go_wp2_with fail
  go_at_call 109; refine (onesCount48 x _ h).mono ?_; rintro e w' ⟨rfl, rfl⟩
  go_wp2_with fail
  go_ret
  exact ⟨rfl, rfl⟩
end Go.Proofs.Ytnakpfbeeekmiaa
