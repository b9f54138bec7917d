/- Is a number a value? -/
import Derived.Test.YtfingpllakbpnaaDoorIl
import Derived.Test.YtfingpllakbpnaaDoorSz
import Derived.Deep.QuietTactic
import Derived.BigQuiet
namespace Go.Proofs.YtfingpllakbpnaaDoor
open Go.RowKit Go.ChangeShapes Go.WideShapes

theorem isValue_is (t : Bool) (n : Int) (w : World) (ht : inB n (-1000000000000000) 1000000000000000 = t) : Calls Tryd.prog 18 #[.int .i64 n] w (Tells t w) := by
  have h : (decide (-1000000000000000 ≤ n) && decide (n ≤ 1000000000000000)) = t := ht
  clear ht
  obtain ⟨a, ha⟩ : ∃ a, decide (-1000000000000000 ≤ n) = a := ⟨_, rfl⟩
  obtain ⟨b, hb⟩ : ∃ b, decide (n ≤ 1000000000000000) = b := ⟨_, rfl⟩
  rw [ha, hb] at h
  have H := Lib.hid h
  clear h
  cases a <;> cases b
  all_goals
    go_enter Tryd.func18, Tryd.ntmps18
    go_wp2
    go_ret
    exact tells 0 H.out
end Go.Proofs.YtfingpllakbpnaaDoor
