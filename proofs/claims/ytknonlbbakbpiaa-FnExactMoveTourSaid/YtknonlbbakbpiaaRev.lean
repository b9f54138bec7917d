/- slices.Reverse of a list of integers. -/
import Derived.Test.YtknonlbbakbpiaaLl
import Derived.Test.YtknonlbbakbpiaaPk0
import Derived.BigRegion
import Derived.Deep.RegionWith
namespace Go.Proofs.Ytknonlbbakbpiaa
open Go.RowKit Go.ChangeShapes Go.WideShapes

/-- What holds at each round of the turn. -/
structure RvAt (w : World) (b off : Nat) (Z : List Int) (k : Nat) (wr : World) : Prop where
  turned : Turned b (b + 1) w wr
  arr : Arr (Value.int .i64) 0 wr b off (turnP Z k)
theorem RvAt.step {w wr : World} {b off : Nat} {Z : List Int} {k m : Nat} (h : RvAt w b off Z k wr) (hm : k + m + 1 = Z.length) (hk : k < m) :
    RvAt w b off Z (k + 1) ((wr.setCell ⟨b, off + k, none⟩ (.int .i64 (Z.getD m 0))).setCell ⟨b, off + m, none⟩ (.int .i64 (Z.getD k 0))) := by
  obtain rfl : m = Z.length - 1 - k := by omega
  refine ⟨(h.turned.setCell (Nat.le_refl _) (Nat.lt_succ_self _) _).setCell (Nat.le_refl _) (Nat.lt_succ_self _) _, ?_⟩
  rw [← turnP_step hk]
  exact (h.arr.set (by rw [turnP_len]; omega) _).set (by rw [List.length_set, turnP_len]; omega) _
theorem RvAt.drew {w wr : World} {b off : Nat} {Z : List Int} {k : Nat} (h : RvAt w b off Z k wr) (n : Nat) : RvAt w b off Z k (wr.drewN n) := ⟨h.turned.drewN n, h.arr.drewN n⟩
def Reversed (lo hi : Nat) (v : Value) (Z : List Int) (w : World) (e : Ending) (w' : World) : Prop := e = .returned (.tuple #[]) ∧ II lo hi w' v Z.reverse ∧ Turned lo hi w w'
set_option maxHeartbeats 2000000 in
theorem reverse_any (lo hi : Nat) (v : Value) (Z : List Int) (w : World) (hv : II lo hi w v Z) (hn : Z.length ≤ 1048576) :
    Calls Try.prog 146 #[v] w (Reversed lo hi v Z w) := by
  obtain ⟨hhi, ⟨rfl, ao, cap, rfl⟩ | ⟨b, off, cap, rfl, hpos, hlo, hbh, hfz, hcell⟩⟩ := hv
  · go_enter Try.func146, Try.ntmps146
    go_wp2
    refine wp_loop_rounds 1 ?_
    rw [rounds_succ]
    go_wp2
    refine bodyPost_ret (v := .tuple #[]) (by simp [results, Try.results146, go_sem]) rfl ?_
    exact ⟨rfl, SI.nil _ hhi _ _, Turned.refl _ _ _⟩
  · have H0 : Hid (RvAt w b off Z 0 w) := Lib.hid ⟨Turned.refl _ _ _, ⟨by rw [turnP_0]; exact hcell, hfz⟩⟩
    clear hfz hcell
    obtain ⟨n, hz⟩ : ∃ n, Z.length = n + 1 := ⟨Z.length - 1, by omega⟩
    have HZ := Lib.hid hz
    rw [hz]
    have hn2 : n + 1 ≤ 1048576 := by omega
    clear hz hn hpos
    go_enter Try.func146, Try.ntmps146
    go_wp2_with fail
    go_loopg [2, 3] (n + 1) (fun gk i j wr => ∃ k m : Nat, k + m = n ∧ gk + k = n + 1 ∧ i = .int .i64 k ∧ j = .int .i64 m ∧ RvAt w b off Z k wr)
    case atStart => exact ⟨0, n, by omega, by omega, rfl, rfl, H0.out⟩
    case round =>
      clear H0
      obtain ⟨k, m, hkm, hgk, rfl, rfl, hat⟩ := hrel
      have HA := Lib.hid hat
      have hf := hat.arr.free
      clear hat
      by_cases hlt : k < m
      · have x0 := HA.out.arr.cells k (by rw [turnP_len, HZ.out]; omega)
        have y0 := HA.out.arr.cells m (by rw [turnP_len, HZ.out]; omega)
        rw [turnP_old (by rw [HZ.out]; omega) (by omega) (by rw [HZ.out]; omega)] at x0 y0
        have HN := Lib.hid ((HA.out.drew 1).step (m := m) (by rw [HZ.out]; omega) hlt)
        generalize Z.getD k 0 = x at x0 HN
        generalize Z.getD m 0 = y at y0 HN
        have f1 := hf (off + k)
        have f2 := hf (off + m)
        have lk : (k : Int) < (n : Int) + 1 := by omega
        have lm : (m : Int) < (n : Int) + 1 := by omega
        have lk2 : (k : Int) < ((n + 1 : Nat) : Int) := by omega
        have lm2 : (m : Int) < ((n + 1 : Nat) : Int) := by omega
        have hne : ¬ k = m := by omega
        have hne2 : ¬ m = k := by omega
        clear hf
        go_wp2_with fail
        go_region_with (fail)
        all_goals
          go_wp2_with fail
          go_roundg (gk - 1)
          case measure => omega
          case rel => exact ⟨k + 1, m - 1, by omega, by omega, by go_num, by rw [show (m : Int) - 1 = ((m - 1 : Nat) : Int) by omega], HN.out⟩
      · have HE := Lib.hid (turnP_end (Z := Z) (i := k) (by rw [HZ.out]; omega))
        clear hf
        go_wp2_with fail
        refine bodyPost_ret (v := .tuple #[]) (by simp [results, Try.results146, go_sem]) rfl ?_
        have ht : Turned lo hi w wr := HA.out.turned.wide hlo hbh
        have ha := HA.out.arr
        rw [HE.out] at ha
        have hl : Z.reverse.length = n + 1 := by rw [List.length_reverse, HZ.out]
        exact ⟨rfl, ⟨Nat.le_trans hhi ht.size, Or.inr ⟨b, off, cap, by rw [hl], by omega, hlo, hbh, ha.free, ha.cells⟩⟩, ht⟩
end Go.Proofs.Ytknonlbbakbpiaa
