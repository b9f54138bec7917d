/- The decimal text of a number: the program. -/
import Derived.Test.YtfingpllakbpnaaDoorFmI
import Derived.Test.YtfingpllakbpnaaDoorFrameP
import Derived.Test.YtfingpllakbpnaaDoorDcS
import Derived.Lib.AppendIntMem
namespace Go.Proofs.YtfingpllakbpnaaDoor
open Go.RowKit Go.ChangeShapes Go.WideShapes Go.Shelf

theorem PowTab.below {B : Nat} {w w' : World} (h : PowTab w) (hb : Below B w w') (hB : w.heap.size ≤ B) : PowTab w' := by
  have hgn : Tryd.prog.globalNamed "internal/strconv.uint64pow10" = some 3 := by kernel_rfl
  unfold PowTab Lib.TabIs World.var? at h ⊢
  rw [hgn] at h ⊢
  simp only [Option.bind_some] at h ⊢
  have hlt : 3 < w.heap.size := by
    rcases Nat.lt_or_ge 3 w.heap.size with h' | h'
    · exact h'
    · rw [Array.getElem?_eq_none h'] at h; cases h
  rw [show w'.heap[3]? = w.heap[3]? from hb.block _ (by omega)]
  exact h
theorem PowTab.below' {w w' : World} (h : PowTab w) (hb : Below w.heap.size w w') : PowTab w' := h.below hb (Nat.le_refl _)
theorem formatInt_any (n : Int) (w : World) (h0 : -9223372036854775808 ≤ n) (h1 : n ≤ 9223372036854775807) (hp : PowTab w) :
    Calls Tryd.prog 29 #[.int .i64 n, .int .i64 10] w (SaysS (Lib.itoa n) w) :=
  (Any.strconv_FormatInt_10 Tryd.lays173 n h0 h1 w hp).mono fun _ _ ⟨he, k, os, hw⟩ => ⟨he, by subst hw; exact Lib.below_grow _ w (Nat.le_refl _) k os⟩
theorem implDecimal_any (n : Int) (w : World) (h0 : -9223372036854775808 ≤ n) (h1 : n ≤ 9223372036854775807) (hp : PowTab w) :
    Calls Tryd.prog 19 #[.int .i64 n] w (SaysS (Lib.itoa n) w) := by
  have HP := Lib.hid hp
  clear hp
  go_enter Tryd.func19, Tryd.ntmps19
  go_wp2_with fail
  go_at_call 29; refine (formatInt_any n _ h0 h1 HP.out).mono ?_; rintro e w' ⟨rfl, b⟩
  have B := Lib.hid b
  clear b
  go_wp2_with fail
  go_ret
  exact ⟨rfl, B.out⟩
end Go.Proofs.YtfingpllakbpnaaDoor
