/- Are two singles the same? Both sides' functions say so. -/
import Derived.Test.YtdacbkkanhelfaaBits
namespace Go.Proofs.Ytdacbkkanhelfaa
open Go.RowKit
attribute [local go_sem] call_f32bits

theorem l01Same_any (a b : Nat) (ha : a < 4294967296) (hb : b < 4294967296) (w : World) :
    Calls Try.prog 107 #[.float .f32 a, .float .f32 b] w fun e w' => e = .returned (.bool ((Fl.told a : Int) == (Fl.told b : Int))) ∧ w = w' := by
  go_enter Try.func107, Try.ntmps107
  go_wp2_with (go_at_call 111; refine (specBits_any _ (by first | exact ha | exact hb) _).mono ?_; rintro e w' ⟨rfl, rfl⟩)
  go_ret
  exact ⟨rfl, rfl⟩

theorem implSame_any (a b : Nat) (ha : a < 4294967296) (hb : b < 4294967296) (w : World) :
    Calls Try.prog 101 #[.float .f32 a, .float .f32 b] w fun e w' => e = .returned (.bool ((Fl.told a : Int) == (Fl.told b : Int))) ∧ w = w' := by
  go_enter Try.func101, Try.ntmps101
  go_wp2_with (go_at_call 110; refine (implBits_any _ (by first | exact ha | exact hb) _).mono ?_; rintro e w' ⟨rfl, rfl⟩)
  go_ret
  exact ⟨rfl, rfl⟩

end Go.Proofs.Ytdacbkkanhelfaa
