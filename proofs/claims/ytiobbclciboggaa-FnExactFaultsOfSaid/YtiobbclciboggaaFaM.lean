/- When a number is asked for again: the model. -/
import Derived.Test.YtiobbclciboggaaGoA
namespace Go.Proofs.Ytiobbclciboggaa
open Go.RowKit Go.ChangeShapes Go.WideShapes

set_option maxHeartbeats 1000000 in
theorem l06Again_any (v : Value) (Q : List Nat) (i x : Nat) (w : World) (hv : IL w v (intsN Q)) (hn : Q.length ≤ 1048576) (hi : i ≤ Q.length) :
    Calls Try.prog 125 #[v, .int .i64 (i : Int), .int .i64 (x : Int)] w (fun e w' => e = .returned (.int .i64 ((agM Q i x : Nat) : Int)) ∧ ∃ q, w' = w.drewN q) := by
  have hql := intsN_len Q
  have hag : ∀ k, i ≤ k → (∀ j, i ≤ j → j < k → Q.getD j 0 ≠ x) → k < Q.length → Q.getD k 0 = x → agM Q i x = k := by
    intro k hk hall hlt hx
    have e : (Q.drop i).idxOf x = k - i := by
      have h := idx_first (intsN (Q.drop i)) (x : Int) (k - i) (by rw [intsN_len, List.length_drop]; omega) (fun j hj => by
        rw [intsN_at (by rw [List.length_drop]; omega)]
        have := hall (i + j) (by omega) (by omega)
        have e2 : (Q.drop i).getD j 0 = Q.getD (i + j) 0 := by simp [List.getD]
        rw [e2]
        exact beq_eq_false_iff_ne.2 (fun q => this (by omega))) (by
        rw [intsN_at (by rw [List.length_drop]; omega)]
        have e2 : (Q.drop i).getD (k - i) 0 = Q.getD k 0 := by simp [List.getD, show i + (k - i) = k by omega]
        rw [e2, hx]; simp)
      rw [idx_ints] at h; exact h
    unfold agM
    rw [e, if_pos (by rw [List.length_drop]; omega)]; omega
  have hno : (∀ j, i ≤ j → j < Q.length → Q.getD j 0 ≠ x) → agM Q i x = 64 := by
    intro hall
    have e : (Q.drop i).idxOf x = (Q.drop i).length := by
      have h := idx_none (intsN (Q.drop i)) (x : Int) (fun j hj => by
        rw [intsN_len, List.length_drop] at hj
        rw [intsN_at (by rw [List.length_drop]; omega)]
        have := hall (i + j) (by omega) (by omega)
        have e2 : (Q.drop i).getD j 0 = Q.getD (i + j) 0 := by simp [List.getD]
        rw [e2]
        exact beq_eq_false_iff_ne.2 (fun q => this (by omega)))
      rw [idx_ints, intsN_len] at h; exact h
    unfold agM
    rw [e, if_neg (Nat.lt_irrefl _)]
  have HAG := Lib.hid hag
  have HNO := Lib.hid hno
  obtain ⟨ao, cp, e0⟩ := hv.long
  have HC : Hid (∀ j, j < Q.length → ∃ b off c, v = .slice (some ⟨b, off, none⟩) Q.length (Q.length + c) ∧ b < w.heap.size ∧ ∀ k, k < Q.length → w.cell? ⟨b, off + k, none⟩ = some (.int .i64 ((Q.getD k 0 : Nat) : Int))) := Lib.hid fun j hj => by
    rcases hv with ⟨hz, -⟩ | ⟨b, off, c, e, hpos, hbl, hcell⟩
    · rw [hz] at hql; simp at hql; omega
    · rw [hql] at e hcell
      exact ⟨b, off, c, e, hbl, fun k hk => by rw [hcell k hk, intsN_at hk]⟩
  rw [hql] at e0
  clear hag hno hv hql
  subst e0
  go_enter Try.func125, Try.ntmps125
  go_wp2_with fail
  go_loopg [7] (Q.length - i) (fun gk s wr => ∃ k : Nat, i ≤ k ∧ k ≤ Q.length ∧ gk + k = Q.length ∧ s = .int .i64 (k : Int) ∧ (∀ j, i ≤ j → j < k → Q.getD j 0 ≠ x) ∧ ∃ m, wr = w.drewN m)
  case atStart => exact ⟨i, Nat.le_refl _, hi, by omega, rfl, fun j h1 h2 => by omega, 0, rfl⟩
  case round =>
    obtain ⟨k, hik, hk, hgk, rfl, hall, hwr⟩ := hrel
    have HL := Lib.hid hall
    have HW : Hid (∀ q, ∃ m, wr.drewN q = w.drewN m) := Lib.hid fun q => by obtain ⟨m, rfl⟩ := hwr; exact ⟨_, World.drewN_drewN _ _ _⟩
    have HW0 := Lib.hid hwr
    clear hall
    by_cases hlt : k < Q.length
    · obtain ⟨b, off, c, e, hbl, hcell⟩ := HC.out k hlt
      injection e with e1 e2 e3
      subst e1
      have c1 : wr.cell? ⟨b, off + k, none⟩ = some (.int .i64 ((Q.getD k 0 : Nat) : Int)) := by obtain ⟨m, rfl⟩ := hwr; exact hcell k hlt
      obtain ⟨y, hy⟩ : ∃ y, y = Q.getD k 0 := ⟨_, rfl⟩
      rw [← hy] at c1
      have HY := Lib.hid hy
      clear hwr hcell e2 e3 hy
      by_cases hxy : y = x
      · have hE : ((y : Int) == (x : Int)) = true := by simp; omega
        have HE : Hid (agM Q i x = k) := Lib.hid (HAG.out k hik HL.out hlt (by rw [← HY.out]; exact hxy))
        subst hxy
        go_wp2_with fail
        go_ret
        exact ⟨ret_int (by rw [HE.out]), HW0.out⟩
      · have hE : ((y : Int) == (x : Int)) = false := by simp; omega
        have hE2 : ¬ (y : Int) = (x : Int) := by omega
        have HN := Lib.hid hxy
        clear hxy
        go_wp2_with fail
        go_roundg (gk - 1)
        case measure => omega
        case rel => exact ⟨k + 1, by omega, by omega, by omega, by go_num, fun j h1 h2 => by
          by_cases e : j = k
          · subst e; rw [← HY.out]; exact HN.out
          · exact HL.out j h1 (by omega), HW0.out⟩
    · obtain rfl : k = Q.length := by omega
      have HE : Hid (agM Q i x = 64) := Lib.hid (HNO.out HL.out)
      clear hwr
      go_wp2_with fail
      go_ret
      exact ⟨ret_int (by rw [HE.out]; rfl), HW0.out⟩
end Go.Proofs.Ytiobbclciboggaa
