/- Things on two machines: the program's closures. -/
import Derived.Test.YtcnfmphokobgiaaTs0
import Derived.Test.YtcnfmphokobgiaaAsc
import Derived.Test.YtcnfmphokobgiaaDsc
import Derived.Test.YtcnfmphokobgiaaDelN
import Derived.Test.YtcnfmphokobgiaaBox
import Derived.Deep.QuietTactic
import Derived.BigQuiet
namespace Go.Proofs.Ytcnfmphokobgiaa
open Go.RowKit Go.ChangeShapes Go.WideShapes

/-- A list's integer by its index: a closure over the list's box. -/
def inF (c : Nat) : Value := .func (.func 139) #[] #[.pointer (some ⟨c, 0, none⟩)]
theorem integerIn_any (ao : Option Addr) (n cap : Nat) (w : World) :
    Calls Try.prog 120 #[.slice ao n cap] w (fun e w' => e = .returned (inF w.heap.size) ∧ w' = w.alloc (.cells #[.slice ao n cap] 24)) := by
  go_enter Try.func120, Try.ntmps120
  go_wp2_with fail
  go_ret
  exact ⟨rfl, rfl⟩
theorem in_read (v : Value) (F : List Int) (c x : Nat) (w : World) (hv : IL w v F) (hn : F.length ≤ 1048576) (hx : x < F.length) (hc : w.cell? ⟨c, 0, none⟩ = some v) :
    Calls Try.prog 139 #[.int .i64 x, .pointer (some ⟨c, 0, none⟩)] w (fun e w' => e = .returned (.int .i64 (F.getD x 0)) ∧ w' = w) := by
  rcases hv with ⟨rfl, _⟩ | ⟨b, off, cap, rfl, hpos, hbl, hcell⟩
  · simp at hx
  have y := hcell x hx
  have hli : (x : Int) < (F.length : Int) := by omega
  clear hcell
  generalize F.getD x 0 = q at y
  go_enter Try.func139, Try.ntmps139
  go_wp2_with fail
  go_ret
  exact ⟨rfl, rfl⟩
set_option maxHeartbeats 1000000 in
theorem asc_cmp (v : Value) (F : List Int) (c d x y : Nat) (w : World) (hv : IL w v F) (hn : F.length ≤ 1048576) (hx : x < F.length) (hy : y < F.length) (hc : w.cell? ⟨c, 0, none⟩ = some v) (hd : w.cell? ⟨d, 0, none⟩ = some (inF c)) :
    Calls Try.prog 108 #[.int .i64 x, .int .i64 y, .pointer (some ⟨d, 0, none⟩)] w (fun e w' => e = .returned (.int .i64 (cmpI (F.getD x 0) (F.getD y 0))) ∧ ∃ q, w' = w.drewN q) := by
  have HX := Lib.hid fun (n : Nat) => in_read v F c x (w.drewN n) (VL.drewN hv n) hn hx hc
  have HY := Lib.hid fun (n : Nat) => in_read v F c y (w.drewN n) (VL.drewN hv n) hn hy hc
  generalize F.getD x 0 = kx at HX ⊢
  generalize F.getD y 0 = ky at HY ⊢
  have HCC := Lib.hid (compare_any kx ky)
  generalize cmpI kx ky = r at HCC ⊢
  unfold inF at hd
  clear hv hc
  go_enter Try.func108, Try.ntmps108
  go_wp2_with fail
  go_quiet (first | (go_at_call 139; first | (with_reducible exact Calls.quiet_of_same (HX.out _)) | (with_reducible exact Calls.quiet_of_same (HY.out _))) | (go_at_call 109; exact Calls.quiet_of_same ((HCC.out _).mono fun _ _ ⟨h1, h2⟩ => ⟨h1, h2.symm⟩)))
  go_wp2_with fail
  go_ret
  exact ⟨rfl, _, rfl⟩
set_option maxHeartbeats 1000000 in
theorem dsc_cmp (v : Value) (F : List Int) (c d x y : Nat) (w : World) (hv : IL w v F) (hn : F.length ≤ 1048576) (hx : x < F.length) (hy : y < F.length) (hc : w.cell? ⟨c, 0, none⟩ = some v) (hd : w.cell? ⟨d, 0, none⟩ = some (inF c)) :
    Calls Try.prog 114 #[.int .i64 x, .int .i64 y, .pointer (some ⟨d, 0, none⟩)] w (fun e w' => e = .returned (.int .i64 (cmpI (F.getD y 0) (F.getD x 0))) ∧ ∃ q, w' = w.drewN q) := by
  have HX := Lib.hid fun (n : Nat) => in_read v F c x (w.drewN n) (VL.drewN hv n) hn hx hc
  have HY := Lib.hid fun (n : Nat) => in_read v F c y (w.drewN n) (VL.drewN hv n) hn hy hc
  generalize F.getD x 0 = kx at HX ⊢
  generalize F.getD y 0 = ky at HY ⊢
  have HCC := Lib.hid (compare_any ky kx)
  generalize cmpI ky kx = r at HCC ⊢
  unfold inF at hd
  clear hv hc
  go_enter Try.func114, Try.ntmps114
  go_wp2_with fail
  go_quiet (first | (go_at_call 139; first | (with_reducible exact Calls.quiet_of_same (HX.out _)) | (with_reducible exact Calls.quiet_of_same (HY.out _))) | (go_at_call 109; exact Calls.quiet_of_same ((HCC.out _).mono fun _ _ ⟨h1, h2⟩ => ⟨h1, h2.symm⟩)))
  go_wp2_with fail
  go_ret
  exact ⟨rfl, _, rfl⟩
theorem asc_of (v : Value) (F : List Int) (c d : Nat) (w : World) (hv : IL w v F) (hn : F.length ≤ 1048576) (hc : w.cell? ⟨c, 0, none⟩ = some v) (hd : w.cell? ⟨d, 0, none⟩ = some (inF c)) :
    CmpOf 108 #[.pointer (some ⟨d, 0, none⟩)] (fun x y => cmpI (F.getD x 0) (F.getD y 0)) F.length w := fun W hb x y hx hy =>
  asc_cmp v F c d x y W (VL.below hv hb (Nat.le_refl _)) hn hx hy (by rw [hb.cell (p := ⟨c, 0, none⟩) (cell_block hc)]; exact hc) (by rw [hb.cell (p := ⟨d, 0, none⟩) (cell_block hd)]; exact hd)
theorem dsc_of (v : Value) (F : List Int) (c d : Nat) (w : World) (hv : IL w v F) (hn : F.length ≤ 1048576) (hc : w.cell? ⟨c, 0, none⟩ = some v) (hd : w.cell? ⟨d, 0, none⟩ = some (inF c)) :
    CmpOf 114 #[.pointer (some ⟨d, 0, none⟩)] (fun x y => cmpI (F.getD y 0) (F.getD x 0)) F.length w := fun W hb x y hx hy =>
  dsc_cmp v F c d x y W (VL.below hv hb (Nat.le_refl _)) hn hx hy (by rw [hb.cell (p := ⟨c, 0, none⟩) (cell_block hc)]; exact hc) (by rw [hb.cell (p := ⟨d, 0, none⟩) (cell_block hd)]; exact hd)

/-! ### early and late -/
/-- The program's boxes of both lists, and of the test of early ones. -/
def earF (c1 c2 : Nat) : Value := .func (.func 117) #[] #[.pointer (some ⟨c1, 0, none⟩), .pointer (some ⟨c2, 0, none⟩)]
set_option maxHeartbeats 1000000 in
theorem early_any (v u : Value) (F S : List Int) (c1 c2 x : Nat) (w : World) (hv : IL w v F) (hu : IL w u S) (hl : S.length = F.length) (hn : F.length ≤ 1048576) (hx : x < F.length) (h1 : w.cell? ⟨c1, 0, none⟩ = some v) (h2 : w.cell? ⟨c2, 0, none⟩ = some u) :
    Calls Try.prog 117 #[.int .i64 x, .pointer (some ⟨c1, 0, none⟩), .pointer (some ⟨c2, 0, none⟩)] w (fun e w' => e = .returned (.bool (earB F S x)) ∧ ∃ q, w' = w.drewN q) := by
  rcases hv with ⟨rfl, _⟩ | ⟨b, off, cap, rfl, hpos, hbl, hcell⟩
  · simp at hx
  rcases hu with ⟨rfl, _⟩ | ⟨b2, off2, cap2, rfl, hpos2, hbl2, hcell2⟩
  · simp at hl; omega
  have y1 := hcell x hx
  have y2 := hcell2 x (by omega)
  have hli : (x : Int) < (F.length : Int) := by omega
  have hlj : (x : Int) < (S.length : Int) := by omega
  clear hcell hcell2 hl
  unfold earB
  generalize F.getD x 0 = p at y1 ⊢
  generalize S.getD x 0 = q at y2 ⊢
  go_enter Try.func117, Try.ntmps117
  go_wp2_with fail
  go_quiet (fail)
  go_wp2_with fail
  go_ret
  exact ⟨rfl, _, rfl⟩
theorem late_any (v u : Value) (F S : List Int) (c1 c2 c3 x : Nat) (w : World) (hv : IL w v F) (hu : IL w u S) (hl : S.length = F.length) (hn : F.length ≤ 1048576) (hx : x < F.length) (h1 : w.cell? ⟨c1, 0, none⟩ = some v) (h2 : w.cell? ⟨c2, 0, none⟩ = some u) (h3 : w.cell? ⟨c3, 0, none⟩ = some (earF c1 c2)) :
    Calls Try.prog 118 #[.int .i64 x, .pointer (some ⟨c3, 0, none⟩)] w (fun e w' => e = .returned (.bool (!earB F S x)) ∧ ∃ q, w' = w.drewN q) := by
  have HX := Lib.hid (early_any v u F S c1 c2 x w hv hu hl hn hx h1 h2)
  generalize earB F S x = t at HX ⊢
  unfold earF at h3
  clear hv hu h1 h2
  go_enter Try.func118, Try.ntmps118
  go_wp2_with fail
  go_at_call 117; refine (HX.out).mono ?_; rintro e w1 ⟨rfl, m1, rfl⟩
  go_wp2_with fail
  go_ret
  exact ⟨rfl, _, rfl⟩
end Go.Proofs.Ytcnfmphokobgiaa
