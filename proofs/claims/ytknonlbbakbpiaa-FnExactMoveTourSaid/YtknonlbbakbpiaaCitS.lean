/- Ways between cities: the model's side. -/
import Derived.Test.YtknonlbbakbpiaaCt
import Derived.Test.YtknonlbbakbpiaaSizes
import Derived.Deep.LoopGhost
import Derived.Deep.QuietTactic
import Derived.BigQuiet
namespace Go.Proofs.Ytknonlbbakbpiaa
open Go.RowKit Go.ChangeShapes Go.WideShapes

/-- A call that only reads and draws, and answers a number. -/
def TellsI (n : Int) (w : World) (e : Ending) (w' : World) : Prop := e = .returned (.int .i64 n) ∧ ∃ m, w' = w.drewN m
theorem tellsI {n k : Int} {w : World} (m : Nat) (h : n = k) : TellsI k w (.returned (.int .i64 n)) (w.drewN m) := ⟨by rw [h], m, rfl⟩
theorem tellsI' {n k : Int} {w w' : World} (h : n = k) (hw : ∃ m, w' = w.drewN m) : TellsI k w (.returned (.int .i64 n)) w' := ⟨by rw [h], hw⟩
theorem root_sq {m k : Nat} (hk : k ≤ rootN m) : ∃ q : Nat, (k : Int) * (k : Int) = (q : Int) ∧ q = k * k ∧ q ≤ 100 := by
  have := (rootN_in m).2
  have h := Nat.mul_le_mul (show k ≤ 10 by omega) (show k ≤ 10 by omega)
  exact ⟨k * k, by rw [Int.natCast_mul], rfl, h⟩
/-- What one pair of cities tells. -/
theorem good_cases {L : List Int} {n i k : Nat} {x y : Int} (hx : x = atW L n i k) (hy : y = atW L n k i) :
    (goodW L n i k = true ∧ inB x 0 1000 = true ∧ x = y ∧ ¬ i = k) ∨ (goodW L n i k = true ∧ inB x 0 1000 = true ∧ x = y ∧ i = k ∧ x = 0) ∨
    (goodW L n i k = false ∧ inB x 0 1000 = false) ∨ (goodW L n i k = false ∧ inB x 0 1000 = true ∧ x ≠ y) ∨ (goodW L n i k = false ∧ inB x 0 1000 = true ∧ x = y ∧ i = k ∧ x ≠ 0) := by
  unfold goodW
  rw [← hx, ← hy]
  cases h1 : inB x 0 1000 with
  | false => exact Or.inr (Or.inr (Or.inl ⟨rfl, rfl⟩))
  | true =>
    by_cases h2 : x = y
    · by_cases h3 : i = k
      · by_cases h4 : x = 0
        · exact Or.inr (Or.inl ⟨by rw [decide_eq_true h2, decide_eq_true h4]; simp, rfl, h2, h3, h4⟩)
        · exact Or.inr (Or.inr (Or.inr (Or.inr ⟨by rw [decide_eq_false h4, decide_eq_false (show ¬ (i ≠ k) from fun e => e h3)]; simp, rfl, h2, h3, h4⟩)))
      · exact Or.inl ⟨by rw [decide_eq_true h2, decide_eq_true h3]; simp, rfl, h2, h3⟩
    · exact Or.inr (Or.inr (Or.inr (Or.inl ⟨by rw [decide_eq_false h2]; simp, rfl, h2⟩)))
/-- The place of a pair, as the program reckons it. -/
theorem place_facts {k i j l : Nat} (hi : i < k) (hj : j < k) (hk : k ≤ 10) (hl : k * k = l) :
    ∃ m : Nat, m = i * k ∧ m + j < l ∧ m ≤ 100 ∧ IntKind.i64.wrap ((i : Int) * (k : Int)) = (m : Int) ∧ IntKind.i64.wrap ((m : Int) + (j : Int)) = (m : Int) + (j : Int) ∧ ((m : Int) + (j : Int)).toNat = m + j ∧ (0 : Int) ≤ (m : Int) + (j : Int) ∧ (m : Int) + (j : Int) < (l : Int) := by
  have h := at_lt hi hj
  have h2 := Nat.mul_le_mul hk hk
  refine ⟨i * k, rfl, by omega, by omega, ?_, IntWalk.i64_in _ (by omega), by omega, by omega, by omega⟩
  rw [← Int.natCast_mul]
  exact IntWalk.i64_in _ (by omega)
set_option maxRecDepth 100000 in
set_option maxHeartbeats 8000000 in
theorem l04Count_any (v : Value) (L : List Int) (w : World) (hv : IL w v L) (hn : L.length ≤ 1048576) :
    Calls Try.prog 139 #[v] w (TellsI (cityN L) w) := by
  have HV := Lib.hid hv
  obtain ⟨ao, cap, rfl⟩ := hv.long
  clear hv
  go_enter Try.func139, Try.ntmps139
  go_wp2_with fail
  go_loopg [3] 10 (fun gk n wr => ∃ k : Nat, 1 ≤ k ∧ k ≤ rootN L.length ∧ gk + k = 11 ∧ n = .int .i64 k ∧ wr = w)
  case atStart => exact ⟨1, Nat.le_refl _, (rootN_in _).1, rfl, rfl, rfl⟩
  case round =>
    obtain ⟨k, hk1, hk2, hgk, rfl, rfl⟩ := hrel
    have HR := Lib.hid (rootN_in L.length)
    have hk10 : k ≤ 10 := Nat.le_trans hk2 (rootN_in _).2
    obtain ⟨q, hq, hqk, hq100⟩ := root_sq hk2
    have HQK := Lib.hid hqk
    have HK2 := Lib.hid hk2
    clear hqk hk2
    by_cases hgo : k < 10 ∧ q < L.length
    · obtain ⟨h1, h2⟩ := hgo
      have HST := Lib.hid (rootN_step (m := L.length) hk1 h1 (by rw [← HQK.out]; exact h2))
      have d1 : decide ((k : Int) < 10) = true := by simp; omega
      have d2 : decide ((q : Int) < (L.length : Int)) = true := by simp; omega
      go_wp2_with fail
      go_roundg (gk - 1)
      case measure => omega
      case rel => exact ⟨k + 1, by omega, HST.out, by omega, by go_num, rfl⟩
    · have HE := Lib.hid (rootN_end (m := L.length) hk1 HK2.out (by rw [← HQK.out]; omega))
      have hgo2 : (decide ((k : Int) < 10) = false) ∨ (decide ((k : Int) < 10) = true ∧ decide (q < L.length) = false) := by
        by_cases h1 : k < 10
        · exact Or.inr ⟨by simp; omega, by simp; omega⟩
        · exact Or.inl (by simp; omega)
      clear hgo
      by_cases hsq : q = L.length
      · rcases HV.out with ⟨hz, -⟩ | ⟨b, off, cap2, e, hpos, hbl, hcell⟩
        · exfalso
          rw [hz] at hsq
          have := HQK.out
          have := Nat.mul_le_mul hk1 hk1
          simp at hsq
          omega
        simp only [Value.slice.injEq, true_and] at e
        obtain ⟨rfl, rfl⟩ := e
        have HC := Lib.hid hcell
        have HSQ : Hid (k * k = L.length) := Lib.hid (by rw [← HQK.out]; exact hsq)
        have hne : ((q : Int) != (L.length : Int)) = false := by simp; omega
        have HATW : Hid (∀ i j, atW L k i j = L.getD (i * k + j) 0) := Lib.hid fun _ _ => rfl
        have hqk2 : k ≤ 10 := hk10
        clear hsq hcell
        rcases hgo2 with d1 | ⟨d1, d2⟩
        all_goals
          go_wp2_with fail
          obtain ⟨w0, rfl⟩ : ∃ x : World, x = wr := ⟨_, rfl⟩
          obtain ⟨g0, rfl⟩ : ∃ x : Nat, x = gk := ⟨_, rfl⟩
          go_loopg [4] k (fun gk i w' => ∃ a : Nat, a ≤ k ∧ gk + a = k ∧ i = .int .i64 a ∧ (∀ c d, c < a → d < k → goodW L k c d = true) ∧ ∃ m, w' = w0.drewN m)
          case atStart => exact ⟨0, Nat.zero_le _, rfl, rfl, fun c d hc => by omega, 0, rfl⟩
          case round =>
            obtain ⟨a, ha, hga, rfl, hall, hwr⟩ := hrel
            have HALL := Lib.hid hall
            have HW := Lib.hid hwr
            clear hall hwr
            by_cases hak : a < k
            · go_wp2_with fail
              obtain ⟨w1, rfl⟩ : ∃ x : World, x = wr := ⟨_, rfl⟩
              obtain ⟨g1, rfl⟩ : ∃ x : Nat, x = gk := ⟨_, rfl⟩
              go_loopg [5] k (fun gk j w' => ∃ c : Nat, c ≤ k ∧ gk + c = k ∧ j = .int .i64 c ∧ (∀ d, d < c → goodW L k a d = true) ∧ ∃ m, w' = w0.drewN m)
              case atStart => exact ⟨0, Nat.zero_le _, rfl, rfl, fun d hd => by omega, HW.out⟩
              case round =>
                obtain ⟨c, hc, hgc, rfl, hrow, hwr⟩ := hrel
                have HROW := Lib.hid hrow
                have HW2 := Lib.hid (drew_more hwr)
                have HW3 := Lib.hid hwr
                clear hrow
                by_cases hck : c < k
                · obtain ⟨x, hx⟩ : ∃ x, x = atW L k a c := ⟨_, rfl⟩
                  obtain ⟨y, hy⟩ : ∃ y, y = atW L k c a := ⟨_, rfl⟩
                  obtain ⟨m1, hm1, p1, p2, p3, p4, p5, p6, p7⟩ := place_facts hak hck hqk2 HSQ.out
                  obtain ⟨m2, hm2, q1, q2, q3, q4, q5, q6, q7⟩ := place_facts hck hak hqk2 HSQ.out
                  have x1 : wr.cell? ⟨b, off + (m1 + c), none⟩ = some (.int .i64 x) := by
                    obtain ⟨n, rfl⟩ := hwr
                    rw [hx, HATW.out, ← hm1]
                    exact HC.out _ p1
                  have y1 : wr.cell? ⟨b, off + (m2 + a), none⟩ = some (.int .i64 y) := by
                    obtain ⟨n, rfl⟩ := hwr
                    rw [hy, HATW.out, ← hm2]
                    exact HC.out _ q1
                  have HGC := Lib.hid (good_cases hx hy)
                  clear hwr hx hy hm1 hm2 p1 p2 q1 q2
                  rcases HGC.out with ⟨hg, hb, hxy, hij⟩ | ⟨hg, hb, hxy, hij, h0⟩ | ⟨hg, hb⟩ | ⟨hg, hb, hxy⟩ | ⟨hg, hb, hxy, hij, h0⟩
                  · have T := Lib.hid (show (decide (0 ≤ x) && decide (x ≤ 1000)) = true from hb)
                    have HG := Lib.hid hg
                    subst hxy
                    have n1 : (x != x) = false := by simp
                    have n2 : ((a : Int) == (c : Int)) = false := by simp; omega
                    clear hb hg
                    go_wp2_with fail
                    go_quiet ((go_at_call 100; with_reducible exact Calls.quiet_of (l00In_is true x 0 1000 _ T.out)))
                    clear p3 p4 p5 q3 q4 q5
                    go_wp2_with fail
                    go_roundg (gk - 1)
                    case measure => omega
                    case rel => exact ⟨c + 1, by omega, by omega, by go_num, fun d hd => by
                      by_cases e : d = c
                      · subst e; exact HG.out
                      · exact HROW.out d (by omega), HW2.out _⟩
                  · have T := Lib.hid (show (decide (0 ≤ x) && decide (x ≤ 1000)) = true from hb)
                    have HG := Lib.hid hg
                    clear q3 q4 q5 q6 q7 y1 hb hg hxy HGC
                    subst hij
                    subst h0
                    have n2 : ((a : Int) == (a : Int)) = true := by simp
                    go_wp2_with fail
                    go_quiet ((go_at_call 100; with_reducible exact Calls.quiet_of (l00In_is true 0 0 1000 _ T.out)))
                    clear p3 p4 p5
                    go_wp2_with fail
                    go_roundg (gk - 1)
                    case measure => omega
                    case rel => exact ⟨a + 1, by omega, by omega, by go_num, fun d hd => by
                      by_cases e : d = a
                      · subst e; exact HG.out
                      · exact HROW.out d (by omega), HW2.out _⟩
                  · have T := Lib.hid (show (decide (0 ≤ x) && decide (x ≤ 1000)) = false from hb)
                    have HNO := Lib.hid (cityB_no2 (L := L) (i := a) (k := c) (by rw [← HE.out]; exact hak) (by rw [← HE.out]; exact hck) (by rw [← HE.out]; exact hg))
                    clear hb hg
                    go_wp2_with fail
                    go_quiet ((go_at_call 100; with_reducible exact Calls.quiet_of (l00In_is false x 0 1000 _ T.out)))
                    clear p3 p4 p5 q3 q4 q5
                    go_wp2_with fail
                    go_ret
                    exact tellsI' (by rw [cityN_no HNO.out]) (HW2.out _)
                  · have T := Lib.hid (show (decide (0 ≤ x) && decide (x ≤ 1000)) = true from hb)
                    have HNO := Lib.hid (cityB_no2 (L := L) (i := a) (k := c) (by rw [← HE.out]; exact hak) (by rw [← HE.out]; exact hck) (by rw [← HE.out]; exact hg))
                    have n1 : (x != y) = true := by simpa using hxy
                    clear hb hg hxy
                    go_wp2_with fail
                    go_quiet ((go_at_call 100; with_reducible exact Calls.quiet_of (l00In_is true x 0 1000 _ T.out)))
                    clear p3 p4 p5 q3 q4 q5
                    go_wp2_with fail
                    go_ret
                    exact tellsI' (by rw [cityN_no HNO.out]) (HW2.out _)
                  · have T := Lib.hid (show (decide (0 ≤ x) && decide (x ≤ 1000)) = true from hb)
                    have HNO := Lib.hid (cityB_no2 (L := L) (i := a) (k := c) (by rw [← HE.out]; exact hak) (by rw [← HE.out]; exact hck) (by rw [← HE.out]; exact hg))
                    have n3 : (x != 0) = true := by simpa using h0
                    clear q3 q4 q5 q6 q7 y1 hb hg hxy HGC h0
                    subst hij
                    have n2 : ((a : Int) == (a : Int)) = true := by simp
                    have n1 : (x != x) = false := by simp
                    go_wp2_with fail
                    go_quiet ((go_at_call 100; with_reducible exact Calls.quiet_of (l00In_is true x 0 1000 _ T.out)))
                    clear p3 p4 p5
                    go_wp2_with fail
                    go_ret
                    exact tellsI' (by rw [cityN_no HNO.out]) (HW2.out _)
                · obtain rfl : c = k := by omega
                  clear hwr
                  go_wp2_with fail
                  go_roundg (g1 - 1)
                  case measure => omega
                  case rel => exact ⟨a + 1, by omega, by omega, by go_num, fun d e hd he => by
                    by_cases h : d = a
                    · subst h; exact HROW.out e he
                    · exact HALL.out d e (by omega) he, HW3.out⟩
            · obtain rfl : a = k := by omega
              have HY := Lib.hid (cityN_yes (cityB_yes (L := L) (by rw [← HE.out]; exact HSQ.out) (fun c d hc hd => by rw [← HE.out] at hc hd ⊢; exact HALL.out c d hc hd)))
              go_wp2_with fail
              go_ret
              exact tellsI' (by rw [HY.out, ← HE.out]) HW.out
      · have HNO := Lib.hid (cityB_no1 (L := L) (by rw [← HE.out, ← HQK.out]; exact hsq))
        have hne : ((q : Int) != (L.length : Int)) = true := by simp; omega
        clear hsq
        rcases hgo2 with d1 | ⟨d1, d2⟩
        all_goals
          go_wp2_with fail
          go_ret
          exact tellsI 0 (by rw [cityN_no HNO.out])
theorem cityN_pos (L : List Int) : decide (0 < cityN L) = cityB L := by
  cases h : cityB L with
  | true => rw [cityN_yes h]; have := (rootN_in L.length).1; simp; omega
  | false => rw [cityN_no h]; rfl
end Go.Proofs.Ytknonlbbakbpiaa
