/- The angle of a point: the model's function. -/
import Derived.Test.YtimdlnbdnednaacAngleW
import Derived.Test.YtimdlnbdnednaacAbs
namespace Go.Proofs.Ytimdlnbdnednaac
open Go.RowKit
attribute [local go_sem] run_add run_sub run_mul run_quo Fl.cls_ares Fl.ord_bits run_neg call_sqrt cls_sqres

/-- The angle's last steps. -/
def endC (s xn yn : Bool) (a : Option Nat) : Option Nat :=
  let a1 := bif s then subC (litC 4598175219545276416) a else a
  let a2 := bif xn then subC (litC 4602678819172646912) a1 else a1
  bif yn then negC a2 else a2
def ratioC (s : Bool) (y x : Nat) : Option Nat := bif s then quoC (Fl.cls .f64 (absB x)) (Fl.cls .f64 (absB y)) else quoC (Fl.cls .f64 (absB y)) (Fl.cls .f64 (absB x))

/-- Two finite doubles, not both zero. -/
structure Point (y x : Nat) (zx zy s xn yn : Bool) : Prop where
  selfy : (Fl.ordC .f64 (Fl.arC .sub .f64 (Fl.cls .f64 y) (Fl.cls .f64 y)) (Fl.cls .f64 0) != some Ordering.eq) = false
  selfx : (Fl.ordC .f64 (Fl.arC .sub .f64 (Fl.cls .f64 x) (Fl.cls .f64 x)) (Fl.cls .f64 0) != some Ordering.eq) = false
  zerox : (Fl.ordC .f64 (Fl.cls .f64 x) (Fl.cls .f64 0) == some Ordering.eq) = zx
  zeroy : (Fl.ordC .f64 (Fl.cls .f64 y) (Fl.cls .f64 0) == some Ordering.eq) = zy
  steep : (Fl.ordC .f64 (Fl.cls .f64 (absB y)) (Fl.cls .f64 (absB x)) == some Ordering.gt) = s
  negx : (Fl.ordC .f64 (Fl.cls .f64 x) (Fl.cls .f64 0) == some Ordering.lt) = xn
  negy : (Fl.ordC .f64 (Fl.cls .f64 y) (Fl.cls .f64 0) == some Ordering.lt) = yn

set_option maxHeartbeats 20000000 in
theorem l01Angle_any (y x : Nat) (hy : y < 18446744073709551616) (hx : x < 18446744073709551616) {zx zy s xn yn : Bool} (hp : Point y x zx zy s xn yn) (hz : (zx && zy) = false) (w : World) :
    Calls Try.prog 71 #[.float .f64 y, .float .f64 x] w (Ans64 (endC s xn yn (shC (ratioC s y x))) w) := by
  obtain ⟨h1, h2, h3, h4, h5, h6, h7⟩ := hp
  obtain ⟨T, hT⟩ : ∃ T, T = ratioC s y x := ⟨_, rfl⟩
  rw [← hT]
  have HT := Lib.hid hT
  clear hT
  cases zx <;> (try (cases zy)) <;> (first | cases hz | skip) <;> cases s <;> cases xn <;> cases yn
  all_goals
    go_enter Try.func71, Try.ntmps71
    go_wp2_with (first | (go_at_call 51; refine (abs_any _ (by first | exact hy | exact hx) _).mono ?_; rintro e w' ⟨rfl, rfl⟩) | (go_at_call 73; go_in))
    generalize htt : Fl.ares _ BinOp.quo FloatKind.f64 _ _ = tt
    have ht : Fl.cls .f64 tt = T := by rw [← htt, HT.out]; simp only [Fl.cls_ares]; rfl
    have HTT := Lib.hid ht
    clear htt ht h1 h2 h3 h4 h5
    go_loopw [8, 9] (fun q i wr => ∃ j : Nat, j ≤ 3 ∧ i = .int .i64 j ∧ Is (tC T j) q ∧ ∃ n, wr = w.drewN n) (fun _ i _ => 3 - (intOf i).toNat)
    case atStart => exact ⟨0, by omega, rfl, ⟨_, rfl, HTT.out⟩, _, rfl⟩
    case round =>
      obtain ⟨j, hj, rfl, ⟨q, rfl, hq⟩, m, rfl⟩ := hrel
      have HQ := Lib.hid hq
      clear hq
      by_cases hlt : j < 3
      · go_wp2_with (go_at_call 73; go_in)
        go_roundw
        case rel => exact ⟨j + 1, by omega, by go_num, tC_step HQ.out _ _ _ _ _, _, rfl⟩
        case measure => simp [intOf]; omega
      · obtain rfl : j = 3 := by omega
        go_wp2
        generalize huu : Fl.ares _ BinOp.mul FloatKind.f64 q q = uu
        have hu : Fl.cls .f64 uu = mulC (tC T 3) (tC T 3) := by rw [← huu, Fl.cls_ares, HQ.out]; rfl
        have HU := Lib.hid hu
        clear huu hu
        go_loopw [11, 12] (fun p k wr => ∃ j : Nat, j ≤ 8 ∧ k = .int .i64 (15 - 2 * (j : Int)) ∧ Is (aC (mulC (tC T 3) (tC T 3)) j) p ∧ ∃ n, wr = w.drewN n) (fun _ k _ => (intOf k + 1).toNat)
        case atStart => exact ⟨0, by omega, rfl, ⟨_, rfl, rfl⟩, _, rfl⟩
        case round =>
          obtain ⟨i, hi, rfl, ⟨p, rfl, hp⟩, m2, rfl⟩ := hrel
          have HP := Lib.hid hp
          clear hp
          by_cases hlt2 : i < 8
          · go_wp2
            go_roundw
            case rel => exact ⟨i + 1, by omega, by go_num, aC_step HU.out HP.out rfl _ _ _, _, rfl⟩
            case measure => simp [intOf]; omega
          · obtain rfl : i = 8 := by omega
            go_wp2
            refine bodyPost_ret (results_tmp rfl _ _ _) rfl ?_
            refine ⟨_, _, rfl, rfl, ?_⟩
            simp only [Fl.cls_ares, cls_neg, HP.out, HQ.out]
            rfl
end Go.Proofs.Ytimdlnbdnednaac
