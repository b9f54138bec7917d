/- Numbers of bits: both sides. -/
import Derived.Test.YtcgdkjbbdpmmhaaDoorBits
import Derived.ProofKit
namespace Go.Proofs.YtcgdkjbbdpmmhaaDoor
open Go.RowKit
attribute [local go_sem] call_f32bits call_f32from

theorem implFromB_any (n : Nat) (h1 : n ≤ 4294967295) (w : World) :
    Calls Tryd.prog 87 #[.int .i64 (n : Int)] w fun e w' => e = .returned (.tuple #[.float .f32 n, .bool true]) ∧ w = w' := by
  have e : ((n : Int)).toNat = n := rfl
  have d1 : decide ((n : Int) < 0) = false := by simp
  have d2 : decide ((n : Int) > 4294967295) = false := by simp; omega
  have d3 : decide ((n : Int) ≤ 4294967295) = true := by simp; omega
  go_enter Tryd.func87, Tryd.ntmps87
  go_wp2
  go_ret2
  exact ⟨rfl, rfl⟩
theorem l01From_any (n : Nat) (h1 : n ≤ 4294967295) (w : World) :
    Calls Tryd.prog 82 #[.int .i64 (n : Int)] w fun e w' => e = .returned (.float .f32 n) ∧ w = w' := by
  have e : ((n : Int)).toNat = n := rfl
  go_enter Tryd.func82, Tryd.ntmps82
  go_wp2
  go_ret
  exact ⟨rfl, rfl⟩
end Go.Proofs.YtcgdkjbbdpmmhaaDoor
