/- The bits of a number, as both sides tell them. -/
import Derived.Test.YtcgdkjbbdpmmhaaDoorRows
import Derived.Test.YtcgdkjbbdpmmhaaDoorExt
namespace Go.Proofs.YtcgdkjbbdpmmhaaDoor
open Go.RowKit
attribute [local go_sem] call_f32bits

theorem neq_self_nan {x : Nat} (h : (Ieee.single.read x).isNaN = true) : (FloatKind.f32.format.order x x != some Ordering.eq) = true := by
  show (Ieee.single.order x x != some Ordering.eq) = true
  rw [(Fl.ord_nan h x).1]; rfl
theorem neq_self_num {x : Nat} (h : (Ieee.single.read x).isNaN = false) : (FloatKind.f32.format.order x x != some Ordering.eq) = false := by
  show (Ieee.single.order x x != some Ordering.eq) = false
  rw [Fl.ord_self h]; rfl


theorem specBits_any (x : Nat) (hx : x < 4294967296) (w : World) :
    Calls Tryd.prog 83 #[.float .f32 x] w fun e w' => e = .returned (.int .i64 (Fl.told x : Nat)) ∧ w = w' := by
  cases hn : (Ieee.single.read x).isNaN with
  | true =>
    have h1 := neq_self_nan hn
    rw [Fl.told_nan hn]
    clear hn
    go_enter Tryd.func83, Tryd.ntmps83
    go_wp2
    go_ret
    exact ⟨rfl, rfl⟩
  | false =>
    have h1 := neq_self_num hn
    rw [Fl.told_num hn]
    clear hn
    go_enter Tryd.func83, Tryd.ntmps83
    go_wp2
    go_ret
    exact ⟨rfl, rfl⟩

theorem implBits_any (x : Nat) (hx : x < 4294967296) (w : World) :
    Calls Tryd.prog 74 #[.float .f32 x] w fun e w' => e = .returned (.int .i64 (Fl.told x : Nat)) ∧ w = w' := by
  cases hn : (Ieee.single.read x).isNaN with
  | true =>
    have h1 := neq_self_nan hn
    rw [Fl.told_nan hn]
    clear hn
    go_enter Tryd.func74, Tryd.ntmps74
    go_wp2
    go_ret
    exact ⟨rfl, rfl⟩
  | false =>
    have h1 := neq_self_num hn
    rw [Fl.told_num hn]
    clear hn
    go_enter Tryd.func74, Tryd.ntmps74
    go_wp2
    go_ret
    exact ⟨rfl, rfl⟩
end Go.Proofs.YtcgdkjbbdpmmhaaDoor
