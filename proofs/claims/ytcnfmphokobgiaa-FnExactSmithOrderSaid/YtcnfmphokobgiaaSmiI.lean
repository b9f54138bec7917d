/- Orders by weights: the program. -/
import Derived.Test.YtcnfmphokobgiaaJbI
import Derived.Test.YtcnfmphokobgiaaCmp
import Derived.Test.YtcnfmphokobgiaaOrdQ
namespace Go.Proofs.Ytcnfmphokobgiaa
open Go.RowKit Go.ChangeShapes Go.WideShapes

def lonK (Z : List Ac) (i : Nat) : Int := (Z.getD i zA).f
def wgtK (Z : List Ac) (i : Nat) : Int := (Z.getD i zA).r
def smiL (Z : List Ac) : List Int := if jobsB Z then intsN (ordN (ltQ (lonK Z) (wgtK Z)) Z.length) else []
theorem smiL_no {Z : List Ac} (h : jobsB Z = false) : smiL Z = [] := by unfold smiL; rw [h]; rfl
theorem smiL_yes {Z : List Ac} (h : jobsB Z = true) : smiL Z = intsN (ordN (ltQ (lonK Z) (wgtK Z)) Z.length) := by unfold smiL; rw [if_pos h]
theorem smiL_len (Z : List Ac) : (smiL Z).length ≤ 1048576 := by
  unfold smiL
  split
  · rename_i h
    have := (jobsB_ok h).n2
    rw [intsN_len, ordN_len]; omega
  · simp
def smiC (Z : List Ac) (x y : Nat) : Int := cmpI (wgtK Z y * lonK Z x) (wgtK Z x * lonK Z y)
theorem smiC_lt (Z : List Ac) : ltC (smiC Z) = ltQ (lonK Z) (wgtK Z) := by funext x y; exact cmpI_neg _ _
set_option maxRecDepth 100000 in
set_option maxHeartbeats 4000000 in
theorem byQuot_any (v : Value) (Z : List Ac) (x y : Nat) (w : World) (hv : AV w v Z) (h : JobsOk Z) (hx : x < Z.length) (hy : y < Z.length) :
    Calls Try.prog 58 #[v, .int .i64 x, .int .i64 y] w (fun e w' => e = .returned (.int .i64 (smiC Z x y)) ∧ ∃ q, w' = w.drewN q) := by
  rcases hv with ⟨hz, _⟩ | ⟨b, off, cap, rfl, hpos, hbl, hcell⟩
  · rw [hz] at hx; simp at hx
  have n2 := h.n2
  obtain ⟨a0, -, a2, -⟩ := hcell x hx
  obtain ⟨b0, -, b2, -⟩ := hcell y hy
  have jx := h.ok x hx
  have jy := h.ok y hy
  have m1 := mulQ ⟨jy.r1, jy.r2⟩ (⟨by have := jx.f1; omega, jx.f2⟩ : 0 ≤ (Z.getD x zA).f ∧ (Z.getD x zA).f ≤ 1000)
  have m2 := mulQ ⟨jx.r1, jx.r2⟩ (⟨by have := jy.f1; omega, jy.f2⟩ : 0 ≤ (Z.getD y zA).f ∧ (Z.getD y zA).f ≤ 1000)
  have HS : Hid (smiC Z x y = cmpI ((Z.getD y zA).r * (Z.getD x zA).f) ((Z.getD x zA).r * (Z.getD y zA).f)) := Lib.hid rfl
  have lx : (x : Int) < (Z.length : Int) := by omega
  have ly : (y : Int) < (Z.length : Int) := by omega
  rw [HS.out]
  clear HS hcell jx jy h
  generalize (Z.getD x zA).f = fx at a0 m1
  generalize (Z.getD x zA).r = rx at a2 m2
  generalize (Z.getD y zA).f = fy at b0 m2
  generalize (Z.getD y zA).r = ry at b2 m1
  have w1 : IntKind.i64.wrap (ry * fx) = ry * fx := IntWalk.i64_in _ (by omega)
  have w2 : IntKind.i64.wrap (rx * fy) = rx * fy := IntWalk.i64_in _ (by omega)
  generalize hp1 : ry * fx = p1 at m1 w1 ⊢
  generalize hp2 : rx * fy = p2 at m2 w2 ⊢
  have HCC := Lib.hid fun (W : World) => ((compare_any p1 p2 W).mono fun _ _ ⟨h1, h2⟩ => ⟨h1, h2.symm⟩ : Calls Try.prog 109 #[.int .i64 p1, .int .i64 p2] W (fun e w' => e = .returned (.int .i64 (cmpI p1 p2)) ∧ w' = W))
  generalize cmpI p1 p2 = r at HCC ⊢
  obtain ⟨m3, m4⟩ := m1
  obtain ⟨m5, m6⟩ := m2
  go_enter Try.func58, Try.ntmps58
  go_wp2_with fail
  go_quiet ((go_at_call 109; with_reducible exact Calls.quiet_of_same (HCC.out _)))
  go_wp2_with fail
  go_ret
  exact ⟨rfl, _, rfl⟩
end Go.Proofs.Ytcnfmphokobgiaa
