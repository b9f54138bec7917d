/- Things in descending order of the quotients of gain and size: the program. -/
import Derived.Test.YtbaaocgdpgoggaaPb0
import Derived.Test.YtbaaocgdpgoggaaCmp
import Derived.Test.YtbaaocgdpgoggaaBox
namespace Go.Proofs.Ytbaaocgdpgoggaa
open Go.RowKit Go.ChangeShapes Go.WideShapes

set_option maxRecDepth 100000 in
set_option maxHeartbeats 4000000 in
theorem byQ1_any (v u : Value) (S G : List Int) (r : Int) (x y p q : Nat) (w : World) (hv : IL w v S) (hu : IL w u G) (h : CanOk S G r) (hx : x < S.length) (hy : y < S.length)
    (hp : w.cell? ⟨p, 0, none⟩ = some u) (hq : w.cell? ⟨q, 0, none⟩ = some v) :
    Calls Try.prog 156 #[.int .i64 x, .int .i64 y, .pointer (some ⟨p, 0, none⟩), .pointer (some ⟨q, 0, none⟩)] w (fun e w' => e = .returned (.int .i64 (quoC S G x y)) ∧ ∃ n, w' = w.drewN n) := by
  have l1 := h.s.l2
  have l2 := h.l
  rcases hv with ⟨hz, _⟩ | ⟨b, off, cap, rfl, hpos, hbl, hcell⟩
  · rw [hz] at hx; simp at hx
  rcases hu with ⟨hz, _⟩ | ⟨b2, off2, cap2, rfl, hpos2, hbl2, hcell2⟩
  · rw [hz] at l2; simp at l2; omega
  have sx := hcell x hx
  have sy := hcell y hy
  have gx := hcell2 x (by omega)
  have gy := hcell2 y (by omega)
  have m1 := mulQ (h.gAll y) (h.sAll x)
  have m2 := mulQ (h.gAll x) (h.sAll y)
  have lx : (x : Int) < (S.length : Int) := by omega
  have ly : (y : Int) < (S.length : Int) := by omega
  have lx2 : (x : Int) < (G.length : Int) := by omega
  have ly2 : (y : Int) < (G.length : Int) := by omega
  have HS : Hid (quoC S G x y = cmpI (G.getD y 0 * S.getD x 0) (G.getD x 0 * S.getD y 0)) := Lib.hid rfl
  rw [HS.out]
  clear HS hcell hcell2 h hpos hpos2
  generalize S.getD x 0 = fx at sx m1
  generalize G.getD x 0 = rx at gx m2
  generalize S.getD y 0 = fy at sy m2
  generalize G.getD y 0 = ry at gy m1
  have w1 : IntKind.i64.wrap (ry * fx) = ry * fx := IntWalk.i64_in _ (by omega)
  have w2 : IntKind.i64.wrap (rx * fy) = rx * fy := IntWalk.i64_in _ (by omega)
  generalize hp1 : ry * fx = p1 at m1 w1 ⊢
  generalize hp2 : rx * fy = p2 at m2 w2 ⊢
  have HCC := Lib.hid fun (W : World) => ((compare_any p1 p2 W).mono fun _ _ ⟨h1, h2⟩ => ⟨h1, h2.symm⟩ : Calls Try.prog 90 #[.int .i64 p1, .int .i64 p2] W (fun e w' => e = .returned (.int .i64 (cmpI p1 p2)) ∧ w' = W))
  generalize cmpI p1 p2 = z at HCC ⊢
  obtain ⟨m3, m4⟩ := m1
  obtain ⟨m5, m6⟩ := m2
  go_enter Try.func156, Try.ntmps156
  go_wp2_with fail
  go_quiet ((go_at_call 90; with_reducible exact Calls.quiet_of_same (HCC.out _)))
  go_wp2_with fail
  go_ret
  exact ⟨rfl, _, rfl⟩
theorem quo_of (v u : Value) (S G : List Int) (r : Int) (p q : Nat) (W0 : World) (hv : IL W0 v S) (hu : IL W0 u G) (h : CanOk S G r)
    (hp : W0.cell? ⟨p, 0, none⟩ = some u) (hq : W0.cell? ⟨q, 0, none⟩ = some v) :
    CmpOf 156 #[.pointer (some ⟨p, 0, none⟩), .pointer (some ⟨q, 0, none⟩)] (quoC S G) S.length W0 := by
  intro W hb x y hx hy
  exact byQ1_any v u S G r x y p q W (hv.below hb (Nat.le_refl _)) (hu.below hb (Nat.le_refl _)) h hx hy (keep_cell hp hb (cell_block hp)) (keep_cell hq hb (cell_block hq))
set_option maxHeartbeats 2000000 in
theorem byQuotient_any (v u : Value) (S G : List Int) (r : Int) (w : World) (hv : IL w v S) (hu : IL w u G) (h : CanOk S G r) :
    Calls Try.prog 84 #[v, u] w (Made (Value.int .i64) (0 : Int) (intsN (thO S G)) w) := by
  have HV := Lib.hid hv
  have HU := Lib.hid hu
  obtain ⟨a1, k1, rfl⟩ := hv.long
  obtain ⟨a2, k2, rfl⟩ := hu.long
  have n1 := h.s.l1
  have n2 := h.s.l2
  have EG := Lib.hid (enters_of Try.func156 (by kernel_rfl) rfl)
  have HT : Hid (thO S G = ordN (ltC (quoC S G)) S.length) := Lib.hid (by rw [quoC_lt]; rfl)
  have HB : Hid (Below w.heap.size w ((w.alloc (.cells #[.slice a1 S.length k1] 25)).alloc (.cells #[.slice a2 G.length k2] 25))) := Lib.hid ((below_alloc w _).alloc (by simp) _)
  have s1 : (w.alloc (.cells #[.slice a1 S.length k1] 25)).heap.size = w.heap.size + 1 := by simp
  have x1 := World.cell?_alloc_new w #[.slice a1 S.length k1] 25 0
  have x2 := World.cell?_alloc_new (w.alloc (.cells #[.slice a1 S.length k1] 25)) #[.slice a2 G.length k2] 25 0
  rw [s1] at x2
  have HC := Lib.hid (quo_of (.slice a1 S.length k1) (.slice a2 G.length k2) S G r (w.heap.size + 1) w.heap.size _ (HV.out.below HB.out (Nat.le_refl _)) (HU.out.below HB.out (Nat.le_refl _)) h x2 (keep_cell x1 (below_alloc _ _) (by simp)))
  clear hv hu h x1 x2 s1
  go_enter Try.func84, Try.ntmps84
  go_wp2_with fail
  go_at_call 88; refine (orderBy_any S.length 156 _ (quoC S G) _ n1 (by omega) EG.out HC.out).mono ?_; rintro e w3 ⟨v3, rfl, i3, b3⟩
  rw [← HT.out] at i3
  have I3 := Lib.hid (SI.wide i3 (lo' := w.heap.size) HB.out.size (Nat.le_refl _) (Nat.le_refl _))
  have B3 := Lib.hid (HB.out.trans (b3.mono HB.out.size))
  clear i3 b3
  go_wp2_with fail
  go_ret
  exact ⟨_, rfl, I3.out, B3.out⟩
end Go.Proofs.Ytbaaocgdpgoggaa
