/- The journal that is recovered: both sides, for all texts. -/
import Derived.Test.YtcgdkjbbdpmmhaaDoorRjI
import Derived.Test.YtcgdkjbbdpmmhaaDoorRjM
namespace Go.Proofs.YtcgdkjbbdpmmhaaDoor
open Go.RowKit Go.ChangeShapes Go.WideShapes

def rjB (s : ByteArray) : Bool := decide (s.size ≤ 16000)
def rjL (s : ByteArray) : List ByteArray := if s.size ≤ 16000 then rL (lnY s) (rN (lnY s)) else []
def rjN (s : ByteArray) : Int := if s.size ≤ 16000 then ((rS (lnY s) (rN (lnY s)) : Nat) : Int) else 0
theorem rF_le (Y : List ByteArray) : ∀ f k, rF Y f k ≤ k + f
  | 0, k => by unfold rF; omega
  | f + 1, k => by
    unfold rF
    split
    · have := rF_le Y f (k + 1); omega
    · omega
theorem rjL_len (s : ByteArray) : (rjL s).length ≤ 1048576 := by
  unfold rjL
  split
  · rw [rL_len]
    have h := rF_le (lnY s) ((lnY s).length - 1) 0
    have h2 := lnY_len s
    unfold rN
    omega
  · simp
theorem implRecoverJournal_any (s : ByteArray) (w : World) (hp : PowTab w) : Calls Tryd.prog 10 #[.string s] w (SaysTIB (rjL s) (rjN s) (rjB s) w) := by
  unfold rjL rjN rjB
  by_cases h : s.size ≤ 16000
  · rw [if_pos h, if_pos h, decide_eq_true h]
    have := lnY_pos s
    exact implRecover_main s w h hp ((lnY s).length - 1) (by omega)
  · rw [if_neg h, if_neg h, decide_eq_false h]
    exact implRecover_long s w (by omega)
theorem specRecoverJournal_any (s : ByteArray) (w : World) : Calls Tryd.prog 9 #[.string s] w (SaysTIB (rjL s) (rjN s) (rjB s) w) := by
  unfold rjL rjN rjB
  by_cases h : s.size ≤ 16000
  · rw [if_pos h, if_pos h, decide_eq_true h]
    have RE := Lib.hid (l08Recover_any s w h)
    have d0 : decide ((s.size : Int) > 16000) = false := by simp; omega
    generalize rL (lnY s) (rN (lnY s)) = Z at *
    generalize rS (lnY s) (rN (lnY s)) = n at *
    go_enter Tryd.func9, Tryd.ntmps9
    go_wp2_with fail
    go_at_call 37; refine RE.out.mono ?_; rintro e w2 ⟨v, rfl, i2, b2⟩
    have I2 := Lib.hid i2
    have B2 := Lib.hid b2
    clear i2 b2
    go_wp2_with fail
    go_ret3
    exact ⟨_, rfl, I2.out, B2.out⟩
  · rw [if_neg h, if_neg h, decide_eq_false h]
    have d0 : decide ((s.size : Int) > 16000) = true := by simp; omega
    go_enter Tryd.func9, Tryd.ntmps9
    go_wp2_with fail
    go_ret3
    exact ⟨_, rfl, SI.nil _ (Nat.le_refl _) _ _, Below.refl _ _⟩
end Go.Proofs.YtcgdkjbbdpmmhaaDoor
