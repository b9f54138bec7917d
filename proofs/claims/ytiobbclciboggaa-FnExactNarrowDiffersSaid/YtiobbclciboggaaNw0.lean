/- A number that is new: the program's test. -/
import Derived.Test.YtiobbclciboggaaHasI
namespace Go.Proofs.Ytiobbclciboggaa
open Go.RowKit Go.ChangeShapes Go.WideShapes

def nwB (P : List Int) (x : Int) : Bool := !inS P x
theorem new_any (v : Value) (P : List Int) (x : Int) (w : World) (hv : IL w v P) (hn : P.length ≤ 1000) (_ : 0 ≤ x) (_ : x ≤ 1000) :
    Calls Try.prog 109 #[v, .int .i64 x] w (Tells (nwB P x) w) := by
  have HV := Lib.hid hv
  obtain ⟨ao, cap, rfl⟩ := hv.long
  have hn2 : P.length ≤ 1048576 := by omega
  obtain ⟨b, hb⟩ : ∃ b, inS P x = b := ⟨_, rfl⟩
  have HB := Lib.hid hb
  have HR : Hid (nwB P x = !b) := Lib.hid (by unfold nwB; rw [hb])
  rw [HR.out]
  clear hv hb
  go_enter Try.func109, Try.ntmps109
  go_wp2_with fail
  go_at_call 82; refine (contains_any _ P x _ HV.out hn2).mono ?_; rintro e w1 ⟨rfl, rfl⟩
  rw [HB.out]
  go_wp2_with fail
  go_ret
  exact tells 0 rfl
end Go.Proofs.Ytiobbclciboggaa
