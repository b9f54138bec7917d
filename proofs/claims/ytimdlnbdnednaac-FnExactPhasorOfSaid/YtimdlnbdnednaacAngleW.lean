/- The angle of a shallow point: classes, and the program's function. -/
import Derived.Test.YtimdlnbdnednaacSineW
import Derived.Test.YtimdlnbdnednaacRoot
namespace Go.Proofs.Ytimdlnbdnednaac
open Go.RowKit
attribute [local go_sem] run_add run_sub run_mul run_quo Fl.cls_ares Fl.ord_bits run_neg call_sqrt cls_sqres

def oneC : Option Nat := litC 4607182418800017408
def stepT (t : Option Nat) : Option Nat := quoC t (addC oneC (sqC (addC oneC (mulC t t))))
def tC (t : Option Nat) : Nat → Option Nat
  | 0 => t
  | j + 1 => stepT (tC t j)
def aC (u : Option Nat) : Nat → Option Nat
  | 0 => litC 0
  | j + 1 => subC (quoC oneC (intC (15 - 2 * (j : Int)))) (mulC u (aC u j))
def shC (t : Option Nat) : Option Nat :=
  quoC (mulC (litC 4620693217682128896) (mulC (tC t 3) (aC (mulC (tC t 3) (tC t 3)) 8))) (litC 4618760256179416344)

theorem tC_step {t : Option Nat} {j q : Nat} (hq : Fl.cls .f64 q = tC t j) (w1 w2 w3 w4 w5 : World) :
    Is (tC t (j + 1)) (.float .f64 (Fl.ares w1 .quo .f64 q (Fl.ares w2 .add .f64 4607182418800017408 (sqres w3 (Fl.ares w4 .add .f64 4607182418800017408 (Fl.ares w5 .mul .f64 q q)))))) :=
  ⟨_, rfl, by simp only [Fl.cls_ares, cls_sqres, hq]; rfl⟩
theorem aC_step {u : Option Nat} {U j q : Nat} {n : Int} (hu : Fl.cls .f64 U = u) (hq : Fl.cls .f64 q = aC u j) (hn : n = 15 - 2 * (j : Int)) (w1 w2 w3 : World) :
    Is (aC u (j + 1)) (.float .f64 (Fl.ares w1 .sub .f64 (Fl.ares w2 .quo .f64 4607182418800017408 (floatOfInt .f64 n)) (Fl.ares w3 .mul .f64 U q))) :=
  ⟨_, rfl, by simp only [Fl.cls_ares, hq, hu, hn]; rfl⟩

set_option maxHeartbeats 1000000 in
theorem shallow_any (t : Nat) (T : Option Nat) (hT : Fl.cls .f64 t = T) (w : World) : Calls Try.prog 52 #[.float .f64 t] w (Ans64 (shC T) w) := by
  have HT := Lib.hid hT
  clear hT
  go_enter Try.func52, Try.ntmps52
  go_wp2
  go_loopw [0, 6] (fun q i wr => ∃ j : Nat, j ≤ 3 ∧ i = .int .i64 j ∧ Is (tC T j) q ∧ ∃ n, wr = w.drewN n) (fun _ i _ => 3 - (intOf i).toNat)
  case atStart => exact ⟨0, by omega, rfl, ⟨_, rfl, HT.out⟩, 0, rfl⟩
  case round =>
    obtain ⟨j, hj, rfl, ⟨q, rfl, hq⟩, m, rfl⟩ := hrel
    have HQ := Lib.hid hq
    clear hq
    by_cases hlt : j < 3
    · go_wp2
      go_roundw
      case rel => exact ⟨j + 1, by omega, by go_num, tC_step HQ.out _ _ _ _ _, _, rfl⟩
      case measure => simp [intOf]; omega
    · obtain rfl : j = 3 := by omega
      go_wp2
      generalize huu : Fl.ares _ BinOp.mul FloatKind.f64 q q = uu
      have hu : Fl.cls .f64 uu = mulC (tC T 3) (tC T 3) := by rw [← huu, Fl.cls_ares, HQ.out]; rfl
      have HU := Lib.hid hu
      clear huu hu
      obtain ⟨wo, hwo⟩ : ∃ wo : World, wo = w := ⟨_, rfl⟩
      have HW := Lib.hid hwo
      clear hwo
      go_loopw [4, 5] (fun p k wr => ∃ j : Nat, j ≤ 8 ∧ k = .int .i64 (15 - 2 * (j : Int)) ∧ Is (aC (mulC (tC T 3) (tC T 3)) j) p ∧ ∃ n, wr = w.drewN n) (fun _ k _ => (intOf k + 1).toNat)
      case atStart => exact ⟨0, by omega, rfl, ⟨_, rfl, rfl⟩, _, rfl⟩
      case round =>
        obtain ⟨i, hi, rfl, ⟨p, rfl, hp⟩, m2, rfl⟩ := hrel
        have HP := Lib.hid hp
        clear hp
        by_cases hlt2 : i < 8
        · go_wp2
          go_roundw
          case rel => exact ⟨i + 1, by omega, by go_num, aC_step HU.out HP.out rfl _ _ _, _, rfl⟩
          case measure => simp [intOf]; omega
        · obtain rfl : i = 8 := by omega
          go_wp2
          refine bodyPost_ret (results_tmp rfl _ _ _) rfl ?_
          refine ⟨_, _, rfl, rfl, ?_⟩
          simp only [Fl.cls_ares, HP.out, HQ.out]
          rfl
end Go.Proofs.Ytimdlnbdnednaac
