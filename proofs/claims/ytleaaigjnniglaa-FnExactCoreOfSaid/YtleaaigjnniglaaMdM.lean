/- Models: the program's lists of them. -/
import Derived.Test.YtleaaigjnniglaaMdP
import Derived.Test.YtleaaigjnniglaaGrw
namespace Go.Proofs.Ytleaaigjnniglaa
open Go.RowKit Go.ChangeShapes Go.WideShapes

/-- The numbers below k of models. -/
def modK (L : Nat) (C : List (List Int)) (k : Nat) : List Int := ((List.range k).filter fun n => modelB L C n).map fun n : Nat => (n : Int)
theorem modK_yes {L : Nat} {C : List (List Int)} {k : Nat} (h : modelB L C k = true) : modK L C (k + 1) = modK L C k ++ [(k : Int)] := by
  unfold modK
  rw [List.range_succ, List.filter_append, List.map_append]
  simp [h]
theorem modK_no {L : Nat} {C : List (List Int)} {k : Nat} (h : modelB L C k = false) : modK L C (k + 1) = modK L C k := by
  unfold modK
  rw [List.range_succ, List.filter_append, List.map_append]
  simp [h]
theorem modK_le (L : Nat) (C : List (List Int)) : ∀ k, (modK L C k).length ≤ k
  | 0 => by simp [modK]
  | k + 1 => by
    have ih := modK_le L C k
    cases h : modelB L C k with
    | true => rw [modK_yes h, List.length_append]; simp; omega
    | false => rw [modK_no h]; omega
/-- A row that reads as fails, whatever is made behind it. -/
theorem fails_cells {w : World} {v : Value} {Z : List Int} (h : IL w v Z) (h0 : 0 < Z.length) : ∃ b off cap, v = .slice (some ⟨b, off, none⟩) Z.length (Z.length + cap) ∧ b < w.heap.size ∧ ∀ i, i < Z.length → w.cell? ⟨b, off + i, none⟩ = some (.int .i64 (Z.getD i 0)) := by
  rcases h with ⟨e, _⟩ | ⟨b, off, cap, h1, h2, h3, h4⟩
  · subst e; simp at h0
  · exact ⟨b, off, cap, h1, h3, h4⟩
set_option maxRecDepth 100000 in
set_option maxHeartbeats 4000000 in
theorem modelsOf_any (v : Value) (F : Fm) (L : Nat) (w : World) (hv : FmV w v F) (o : OKFm F) (h : FmN F L) :
    Calls Try.prog 69 #[v] w (Made (Value.int .i64) (0 : Int) (modK L F.cs (2 ^ L)) w) := by
  obtain ⟨i0, hi, hz0, hz1, hz2⟩ := info_parts Try.infoI
  obtain ⟨s1, rfl, g1⟩ := hv
  have HH := Lib.hid h
  obtain ⟨N, hN⟩ : ∃ N, N = 2 ^ L := ⟨_, rfl⟩
  have p1 := h.p1
  have p2 := h.p2
  have hfl : (failL L F.cs F.cs.length).length = N := by rw [failL_len, hN]
  have HF : Hid (∀ n, n < N → (failL L F.cs F.cs.length).getD n 0 = (failK L F.cs n F.cs.length : Int)) := Lib.hid fun n hn => failL_at (by rw [← hN]; exact hn)
  have HFE : Hid (∀ n, (failK L F.cs n F.cs.length = 0) ↔ modelB L F.cs n = true) := Lib.hid fun n => by rw [model_fail]; simp
  have HFV := Lib.hid (show ∀ o, FmV (w.alloc o) (.agg #[.int .i64 F.letters, s1]) F from fun o => ⟨s1, rfl, g1.below (below_alloc w o) (Nat.le_refl _)⟩)
  obtain ⟨ao, cap, rfl⟩ := g1.long
  rw [← hN] at p1 p2 ⊢
  clear h g1 hN
  go_enter Try.func69, Try.ntmps69
  go_wp2_with fail
  go_at_call 66; refine (failsOf_any _ F L _ (HFV.out _) o HH.out).mono ?_; rintro e w1 ⟨v1, rfl, hi1, b1⟩
  have H1 := Lib.hid ((below_alloc w _).trans (b1.mono (by simp)))
  obtain ⟨b, off, cap1, rfl, hbl, hcell⟩ := fails_cells (II.il hi1) (by rw [hfl]; omega)
  have HC := Lib.hid hcell
  have hlo : w.heap.size ≤ w1.heap.size := H1.out.size
  rw [hfl] at HC ⊢
  clear hi1 b1 hcell
  go_wp2_with fail
  go_loopg [3, 9] N (fun gk v i wr => ∃ k : Nat, k ≤ N ∧ gk + k = N ∧ i = .int .i64 k ∧ Below w1.heap.size w1 wr ∧ Grows (Value.int .i64) 2 w1.heap.size v (modK L F.cs k) wr)
  case atStart => exact ⟨0, Nat.zero_le _, by omega, rfl, Below.refl _ _, Grows.nil _ _ _ _⟩
  case round =>
    obtain ⟨k, hk, hgk, rfl, hB, hG⟩ := hrel
    have HB := Lib.hid hB
    have HG := Lib.hid hG
    by_cases hlt : k < N
    · have c0 : wr.cell? ⟨b, off + k, none⟩ = some (.int .i64 (failK L F.cs k F.cs.length : Nat)) := by rw [hB.cell (p := ⟨b, off + k, none⟩) hbl, ← HF.out k hlt]; exact HC.out k hlt
      have hfe := HFE.out k
      generalize failK L F.cs k F.cs.length = f at c0 hfe
      cases hm : modelB L F.cs k with
      | true =>
        have hml := modK_le L F.cs k
        have HUP := Lib.hid (modK_yes hm)
        have hf0 : f = 0 := hfe.2 hm
        subst hf0
        have HML : Hid ((modK L F.cs k).length ≤ k) := Lib.hid hml
        clear hB hG hfe hml hm
        go_wp2_with (at_builtin; refine wpList_append_own _ rfl _ _ 22 rfl w1.heap.size 2 i0 (.int .i64 0) 1 8 Try.underlying22 hi hz0 hz1 hz2 rfl (by decide) _ _ _ rfl (Grows.alloc HG.out _) ⟨wr.heap.size, 0, none⟩ 1 1 [.int .i64 (k : Int)] rfl rfl ?c1 ?c2 ?c3 ?c4 ?c5 ?_)
        case c1 => exact one_new
        case c2 => intro u hu; simp at hu; subst hu; rfl
        case c3 => have := HML.out; unfold maxLen; omega
        case c4 => have := HML.out; omega
        case c5 => have := HB.out.size; simp; omega
        intro v' w' hown hgrow _
        have HN2 : Hid (Below w1.heap.size w1 w' ∧ Grows (Value.int .i64) 2 w1.heap.size v' (modK L F.cs (k + 1)) w') := Lib.hid ⟨(HB.out.alloc HB.out.size _).grown hgrow (by have := HB.out.size; simp; omega) (fun g hg => HG.out.block g hg), by rw [HUP.out]; exact Grows.more (news := [(k : Int)]) rfl hown⟩
        clear hown hgrow c0
        go_wp2_with fail
        go_roundg (gk - 1)
        case measure => omega
        case rel => exact ⟨k + 1, by omega, by omega, by go_num, HN2.out.1, HN2.out.2⟩
      | false =>
        have HUP := Lib.hid (modK_no hm)
        have hf0 : ((f : Int) == 0) = false := by
          have : f ≠ 0 := fun e => by rw [hfe.1 e] at hm; cases hm
          exact beq_false_of_ne (by omega)
        clear hB hG hfe hm
        go_wp2_with fail
        go_roundg (gk - 1)
        case measure => omega
        case rel => exact ⟨k + 1, by omega, by omega, by go_num, HB.out, by rw [HUP.out]; exact HG.out⟩
    · obtain rfl : k = N := by omega
      clear hB hG
      go_wp2_with fail
      refine bodyPost_ret (results_tmp rfl _ _ _) rfl ?_
      have hs : II w1.heap.size wr.heap.size wr _ _ := HG.out.si
      exact ⟨_, rfl, II.wide' hs hlo, H1.out.trans (HB.out.mono hlo)⟩
end Go.Proofs.Ytleaaigjnniglaa
