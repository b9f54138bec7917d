/- Are lists of integers the same? The program. -/
import Derived.Test.YtiobbclciboggaaIl
import Derived.Test.YtiobbclciboggaaSz
import Derived.Deep.QuietTactic
import Derived.BigQuiet
namespace Go.Proofs.Ytiobbclciboggaa
open Go.RowKit Go.ChangeShapes Go.WideShapes

def sameI (Y Z : List Int) : Bool := decide (Y.length = Z.length) && (List.range Y.length).all fun i => Y.getD i 0 == Z.getD i 0
theorem sameI_lens {Y Z : List Int} (h : Y.length ≠ Z.length) : sameI Y Z = false := by unfold sameI; rw [decide_eq_false h]; rfl
theorem sameI_yes {Y Z : List Int} (h : Y.length = Z.length) (k : ∀ i, i < Y.length → (Y.getD i 0 == Z.getD i 0) = true) : sameI Y Z = true := by unfold sameI; rw [decide_eq_true h, rngAll k]; rfl
theorem sameI_no {Y Z : List Int} {i : Nat} (hi : i < Y.length) (k : (Y.getD i 0 == Z.getD i 0) = false) : sameI Y Z = false := by unfold sameI; rw [rngNot hi k]; simp
set_option maxHeartbeats 1000000 in
theorem slEqual_num (b1 off1 cap1 b2 off2 cap2 : Nat) (Y Z : List Int) (w : World) (hn : Y.length ≤ 1048576) (he : Y.length = Z.length)
    (hc1 : ∀ i, i < Y.length → w.cell? ⟨b1, off1 + i, none⟩ = some (.int .i64 (Y.getD i 0))) (hc2 : ∀ i, i < Z.length → w.cell? ⟨b2, off2 + i, none⟩ = some (.int .i64 (Z.getD i 0))) :
    Calls Try.prog 98 #[.slice (some ⟨b1, off1, none⟩) Y.length cap1, .slice (some ⟨b2, off2, none⟩) Z.length cap2] w (Tells (sameI Y Z) w) := by
  have hne : ((Y.length : Int) != (Z.length : Int)) = false := by simp; omega
  have HE := Lib.hid he
  have hle : Z.length ≤ 1048576 := by omega
  have hle2 : Y.length ≤ Z.length := by omega
  clear he
  go_enter Try.func98, Try.ntmps98
  go_wp2
  go_loopw [13] (fun i wr => ∃ k : Nat, k ≤ Y.length ∧ i = .int .i64 k ∧ (∀ j, j < k → (Y.getD j 0 == Z.getD j 0) = true) ∧ ∃ n, wr = w.drewN n) (fun i _ => Y.length - (intOf i).toNat)
  case atStart => exact ⟨0, Nat.zero_le _, rfl, fun j hj => by omega, 0, rfl⟩
  case round =>
    obtain ⟨k, hk, rfl, hall, hwr⟩ := hrel
    have HA := Lib.hid hall
    clear hall
    by_cases hlt : k < Y.length
    · have hlt2 : k < Z.length := by omega
      have c1 : wr.cell? ⟨b1, off1 + k, none⟩ = some (.int .i64 (Y.getD k 0)) := by obtain ⟨n, rfl⟩ := hwr; exact hc1 k hlt
      have c2 : wr.cell? ⟨b2, off2 + k, none⟩ = some (.int .i64 (Z.getD k 0)) := by obtain ⟨n, rfl⟩ := hwr; exact hc2 k hlt2
      have HW : Hid (∀ m, ∃ n, wr.drewN m = w.drewN n) := Lib.hid (fun m => by obtain ⟨n, rfl⟩ := hwr; exact ⟨n + m, World.drewN_drewN _ _ _⟩)
      clear hc1 hc2 hwr
      cases hs : (Y.getD k 0 == Z.getD k 0) with
      | true =>
        have HS := Lib.hid hs
        generalize Y.getD k 0 = y at c1 hs
        generalize Z.getD k 0 = z at c2 hs
        have hs2 : (y != z) = false := by rw [bne, hs]; rfl
        clear hs
        go_wp2
        go_quiet (fail)
        go_wp2
        go_roundw
        case rel => exact ⟨k + 1, by omega, by go_num, fun j hj => by
          by_cases e : j = k
          · subst e; exact HS.out
          · exact HA.out j (by omega), HW.out _⟩
        case measure => simp [intOf]; omega
      | false =>
        have HS := Lib.hid hs
        generalize Y.getD k 0 = y at c1 hs
        generalize Z.getD k 0 = z at c2 hs
        have hs2 : (y != z) = true := by rw [bne, hs]; rfl
        clear hs
        go_wp2
        go_quiet (fail)
        go_wp2
        go_ret
        exact ⟨by rw [sameI_no hlt HS.out]; rfl, HW.out _⟩
    · obtain rfl : k = Y.length := by omega
      have HW := Lib.hid hwr
      clear hc1 hc2 hwr
      go_wp2
      go_ret
      exact ⟨by rw [sameI_yes HE.out HA.out]; rfl, HW.out⟩
theorem slEqual_any (v u : Value) (Y Z : List Int) (w : World) (hv : IL w v Y) (hu : IL w u Z) (hn : Y.length ≤ 1048576) (hn2 : Z.length ≤ 1048576) :
    Calls Try.prog 98 #[v, u] w (Tells (sameI Y Z) w) := by
  by_cases he : Y.length = Z.length
  · rcases hv with ⟨rfl, ao, cap, rfl⟩ | ⟨b, off, cap, rfl, hpos, hbl, hcell⟩
    · have hz : Z = [] := List.eq_nil_of_length_eq_zero (by rw [← he]; rfl)
      subst hz
      rcases hu with ⟨-, ao2, cap2, rfl⟩ | ⟨b2, off2, cap2, rfl, hpos2, -, -⟩
      · clear he
        go_enter Try.func98, Try.ntmps98
        go_wp2
        refine wp_loop_rounds 1 ?_
        rw [rounds_succ]
        go_wp2
        go_ret
        exact tells 0 rfl
      · exact absurd hpos2 (by simp)
    · rcases hu with ⟨rfl, ao2, cap2, rfl⟩ | ⟨b2, off2, cap2, rfl, hpos2, hbl2, hcell2⟩
      · rw [he] at hpos; exact absurd hpos (by simp)
      · exact slEqual_num _ _ _ _ _ _ Y Z w hn he hcell hcell2
  · have H := Lib.hid (sameI_lens he)
    obtain ⟨ao, cap, rfl⟩ := hv.long
    obtain ⟨ao2, cap2, rfl⟩ := hu.long
    have hne : ((Y.length : Int) != (Z.length : Int)) = true := by simp; omega
    clear hv hu he
    go_enter Try.func98, Try.ntmps98
    go_wp2
    go_ret
    exact tells 0 H.out.symm
theorem sameI_iff {Y Z : List Int} : sameI Y Z = true ↔ Y = Z := by
  unfold sameI
  rw [Bool.and_eq_true, decide_eq_true_eq, List.all_eq_true]
  constructor
  · rintro ⟨h1, h2⟩
    refine List.ext_getElem h1 fun i hi hj => ?_
    have := h2 i (List.mem_range.2 hi)
    rw [beq_iff_eq] at this
    simpa [List.getD, hi, hj] using this
  · rintro rfl
    exact ⟨rfl, fun i _ => beq_self_eq_true _⟩
end Go.Proofs.Ytiobbclciboggaa
