/- Are two singles the same? Both sides' functions say so. -/
import Derived.Test.YtiobbclciboggaaBits
namespace Go.Proofs.Ytiobbclciboggaa
open Go.RowKit
attribute [local go_sem] call_f32bits

theorem l01Same_any (a b : Nat) (ha : a < 4294967296) (hb : b < 4294967296) (w : World) :
    Calls Try.prog 160 #[.float .f32 a, .float .f32 b] w fun e w' => e = .returned (.bool ((Fl.told a : Int) == (Fl.told b : Int))) ∧ w = w' := by
  go_enter Try.func160, Try.ntmps160
  go_wp2_with (go_at_call 172; refine (specBits_any _ (by first | exact ha | exact hb) _).mono ?_; rintro e w' ⟨rfl, rfl⟩)
  go_ret
  exact ⟨rfl, rfl⟩

theorem implSame_any (a b : Nat) (ha : a < 4294967296) (hb : b < 4294967296) (w : World) :
    Calls Try.prog 162 #[.float .f32 a, .float .f32 b] w fun e w' => e = .returned (.bool ((Fl.told a : Int) == (Fl.told b : Int))) ∧ w = w' := by
  go_enter Try.func162, Try.ntmps162
  go_wp2_with (go_at_call 173; refine (implBits_any _ (by first | exact ha | exact hb) _).mono ?_; rintro e w' ⟨rfl, rfl⟩)
  go_ret
  exact ⟨rfl, rfl⟩

end Go.Proofs.Ytiobbclciboggaa
