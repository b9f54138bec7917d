/- Valid trees: the model. -/
import Derived.Test.YtmkbjkjgemipcaaTr
import Derived.Test.YtmkbjkjgemipcaaTr0
import Derived.Test.YtmkbjkjgemipcaaArF
namespace Go.Proofs.Ytmkbjkjgemipcaa
open Go.RowKit Go.ChangeShapes Go.WideShapes

/-- The tree that lies in a box. -/
structure TrAt (w : World) (g : Nat) (T : Tr) : Prop where
  box : ∃ s1 s2, Box2 w g s1 s2 ∧ IL w s1 T.P ∧ IL w s2 T.V
theorem TrAt.keep {w w' : World} {g : Nat} {T : Tr} (h : TrAt w g T) (b : Below w.heap.size w w') : TrAt w' g T := by
  obtain ⟨s1, s2, h1, h2, h3⟩ := h.box
  exact ⟨s1, s2, h1.keep b h1.lt, h2.below b (Nat.le_refl _), h3.below b (Nat.le_refl _)⟩
theorem TrAt.mk' {w : World} {s1 s2 : Value} {T : Tr} (h1 : IL w s1 T.P) (h2 : IL w s2 T.V) (t : TypeId) : TrAt (w.alloc (.cells #[s1, s2] t)) w.heap.size T :=
  ⟨s1, s2, Box2.mk' _ _ _ _, h1.below (below_alloc w _) (Nat.le_refl _), h2.below (below_alloc w _) (Nat.le_refl _)⟩
set_option maxHeartbeats 4000000 in
theorem l07Tree_any (g : Nat) (T : Tr) (w : World) (hg : TrAt w g T) (o : OKTr T) :
    Calls Try.prog 66 #[.pointer (some ⟨g, 0, none⟩)] w (Tells (treeB T.P T.V) w) := by
  obtain ⟨P, V⟩ := T
  have op := o.okp.size
  have ov := o.okv.size
  obtain ⟨s1, s2, hb, g1, g2⟩ := hg.box
  simp only at g1 g2 op ov ⊢
  clear hg o
  obtain ⟨c0, c1⟩ := hb
  rcases g1 with ⟨rfl, ao, cap, rfl⟩ | ⟨b, off, cap, rfl, hpos, hbl, hcell⟩
  · clear g2
    go_enter Try.func66, Try.ntmps66
    go_wp2_with fail
    go_ret
    exact tells 0 rfl
  by_cases h64 : (P.length : Int) ≤ 64
  rotate_left
  · have HR : Hid (false = treeB P V) := Lib.hid (treeB_len (by unfold treeLB; rw [decide_eq_false h64]; simp)).symm
    have h3 : ¬ (P.length : Int) < 1 := by omega
    have h4 : (64 : Int) < (P.length : Int) := by omega
    clear g2 hcell
    go_enter Try.func66, Try.ntmps66
    go_wp2_with fail
    go_ret
    exact tells 0 HR.out
  have h3 : ¬ (P.length : Int) < 1 := by omega
  have h4 : ¬ (64 : Int) < (P.length : Int) := by omega
  by_cases hvp : (V.length : Int) = (P.length : Int)
  rotate_left
  · have HR : Hid (false = treeB P V) := Lib.hid (treeB_len (by unfold treeLB; rw [decide_eq_false hvp]; simp)).symm
    have h5 : ((V.length : Int) != (P.length : Int)) = true := by simpa using hvp
    obtain ⟨x2, y2, rfl⟩ := g2.long
    clear g2 hcell
    go_enter Try.func66, Try.ntmps66
    go_wp2_with fail
    go_ret
    exact tells 0 HR.out
  have h5 : ((V.length : Int) != (P.length : Int)) = false := by simpa using hvp
  have HLB : Hid (treeLB P V = true) := Lib.hid (by unfold treeLB; rw [decide_eq_true hvp, decide_eq_true h64, decide_eq_true (by omega)]; rfl)
  rcases g2 with ⟨rfl, -⟩ | ⟨b2, off2, cap2, rfl, hpos2, hbl2, hcell2⟩
  · simp at hvp; omega
  have HC := Lib.hid hcell
  have HC2 := Lib.hid hcell2
  have p0 : w.cell? ⟨b, off, none⟩ = some (.int .i64 (P.getD 0 0)) := hcell 0 hpos
  obtain ⟨y0, hy0⟩ : ∃ y0, y0 = P.getD 0 0 := ⟨_, rfl⟩
  have HY0 := Lib.hid hy0
  rw [← hy0] at p0
  clear hcell hcell2 hy0
  by_cases hm : y0 = -1
  rotate_left
  · have HR : Hid (false = treeB P V) := Lib.hid (treeB_par (i := 0) hpos (by unfold parB; rw [if_pos rfl, ← HY0.out]; exact decide_eq_false hm)).symm
    have hm2 : (y0 != -1) = true := by simpa using hm
    go_enter Try.func66, Try.ntmps66
    go_wp2_with fail
    go_ret
    exact tells 0 HR.out
  subst hm
  have HC0 := Lib.hid c0
  have HC1 := Lib.hid c1
  go_enter Try.func66, Try.ntmps66
  go_wp2_with fail
  go_loopg [39] P.length (fun gk i wr => ∃ k : Nat, k ≤ P.length ∧ gk + k = P.length ∧ i = .int .i64 k ∧ (∀ j, j < k → parB P j = true ∧ inB (V.getD j 0) (-1000000) 1000000 = true) ∧ ∃ m, wr = w.drewN m)
  case atStart => exact ⟨0, Nat.zero_le _, by omega, rfl, fun j hj => by omega, 0, rfl⟩
  case round =>
    clear c0 c1 p0
    obtain ⟨k, hk, hgk, rfl, hall, hwr⟩ := hrel
    have HL := Lib.hid hall
    have HW := Lib.hid hwr
    have HM := Lib.hid (drew_more hwr)
    clear hall
    by_cases hlt : k < P.length
    · have hltV : k < V.length := by omega
      have hltV2 : (k : Int) < (V.length : Int) := by omega
      have d0 : wr.cell? ⟨b, off + k, none⟩ = some (.int .i64 (P.getD k 0)) := by obtain ⟨n, rfl⟩ := hwr; exact HC.out k hlt
      have d1 : wr.cell? ⟨b2, off2 + k, none⟩ = some (.int .i64 (V.getD k 0)) := by obtain ⟨n, rfl⟩ := hwr; exact HC2.out k hltV
      have c0 : wr.cell? ⟨g, 0, none⟩ = some (.slice (some ⟨b, off, none⟩) P.length (P.length + cap)) := by obtain ⟨n, rfl⟩ := hwr; exact HC0.out
      have c1 : wr.cell? ⟨g, 1, none⟩ = some (.slice (some ⟨b2, off2, none⟩) V.length (V.length + cap2)) := by obtain ⟨n, rfl⟩ := hwr; exact HC1.out
      obtain ⟨y, hy⟩ : ∃ y, y = P.getD k 0 := ⟨_, rfl⟩
      obtain ⟨z, hz⟩ : ∃ z, z = V.getD k 0 := ⟨_, rfl⟩
      have HZ := Lib.hid hz
      rw [← hy] at d0
      rw [← hz] at d1
      have hwk : IntKind.i64.wrap ((k : Int) - 1) = (k : Int) - 1 := by rw [IntKind.wrap_i64]; omega
      clear hwr hz
      by_cases h0 : k = 0
      · subst h0
        have HP : Hid (parB P 0 = true) := Lib.hid (by unfold parB; rw [if_pos rfl, ← HY0.out]; rfl)
        clear hy
        rw [Nat.add_zero] at d0 d1
        cases ht : inB z (-1000000) 1000000 with
        | true =>
          have HT := Lib.hid (show (decide (-1000000 ≤ z) && decide (z ≤ 1000000)) = true from ht)
          have HT2 := Lib.hid ht
          clear ht
          go_wp2_with fail
          go_at_call 99; refine (l00In_is true z (-1000000) 1000000 _ HT.out).mono ?_; rintro e w' ⟨rfl, m1, rfl⟩
          go_wp2_with fail
          go_roundg (gk - 1)
          case measure => omega
          case rel => exact ⟨0 + 1, by omega, by omega, by go_num, fun j hj => by obtain rfl : j = 0 := (by omega); exact ⟨HP.out, by rw [← HZ.out]; exact HT2.out⟩, HM.out _⟩
        | false =>
          have HT := Lib.hid (show (decide (-1000000 ≤ z) && decide (z ≤ 1000000)) = false from ht)
          have HR : Hid (false = treeB P V) := Lib.hid (treeB_val hltV (by rw [← HZ.out]; exact ht)).symm
          clear ht
          go_wp2_with fail
          go_at_call 99; refine (l00In_is false z (-1000000) 1000000 _ HT.out).mono ?_; rintro e w' ⟨rfl, m1, rfl⟩
          go_wp2_with fail
          go_ret
          exact ⟨ret_bool HR.out, HM.out _⟩
      · have hq : parB P k = inB y 0 ((k : Int) - 1) := by unfold parB; rw [if_neg h0, hy]
        have HQ := Lib.hid hq
        have hk0 : decide ((0 : Int) < (k : Int)) = true := by simp; omega
        have hk2 : (0 : Int) < (k : Int) := by omega
        clear hq hy
        cases hp : inB y 0 ((k : Int) - 1) with
        | false =>
          have HT := Lib.hid (show (decide (0 ≤ y) && decide (y ≤ (k : Int) - 1)) = false from hp)
          have HR : Hid (false = treeB P V) := Lib.hid (treeB_par hlt (by rw [HQ.out]; exact hp)).symm
          clear hp
          go_wp2_with fail
          go_at_call 99; refine (l00In_is false y 0 ((k : Int) - 1) _ HT.out).mono ?_; rintro e w' ⟨rfl, m1, rfl⟩
          go_wp2_with fail
          go_ret
          exact ⟨ret_bool HR.out, HM.out _⟩
        | true =>
          have HT0 := Lib.hid (show (decide (0 ≤ y) && decide (y ≤ (k : Int) - 1)) = true from hp)
          have HP : Hid (parB P k = true) := Lib.hid (by rw [HQ.out]; exact hp)
          clear hp
          cases ht : inB z (-1000000) 1000000 with
          | true =>
            have HT := Lib.hid (show (decide (-1000000 ≤ z) && decide (z ≤ 1000000)) = true from ht)
            have HT2 := Lib.hid ht
            clear ht
            go_wp2_with fail
            go_at_call 99; refine (l00In_is true y 0 ((k : Int) - 1) _ HT0.out).mono ?_; rintro e w' ⟨rfl, m1, rfl⟩
            go_wp2_with fail
            go_at_call 99; refine (l00In_is true z (-1000000) 1000000 _ HT.out).mono ?_; rintro e w' ⟨rfl, m2, rfl⟩
            go_wp2_with fail
            go_roundg (gk - 1)
            case measure => omega
            case rel => exact ⟨k + 1, by omega, by omega, by go_num, fun j hj => by
              by_cases e : j = k
              · subst e; exact ⟨HP.out, by rw [← HZ.out]; exact HT2.out⟩
              · exact HL.out j (by omega), HM.out _⟩
          | false =>
            have HT := Lib.hid (show (decide (-1000000 ≤ z) && decide (z ≤ 1000000)) = false from ht)
            have HR : Hid (false = treeB P V) := Lib.hid (treeB_val hltV (by rw [← HZ.out]; exact ht)).symm
            clear ht
            go_wp2_with fail
            go_at_call 99; refine (l00In_is true y 0 ((k : Int) - 1) _ HT0.out).mono ?_; rintro e w' ⟨rfl, m1, rfl⟩
            go_wp2_with fail
            go_at_call 99; refine (l00In_is false z (-1000000) 1000000 _ HT.out).mono ?_; rintro e w' ⟨rfl, m2, rfl⟩
            go_wp2_with fail
            go_ret
            exact ⟨ret_bool HR.out, HM.out _⟩
    · obtain rfl : k = P.length := by omega
      have HR : Hid (true = treeB P V) := Lib.hid (treeB_yes HLB.out (fun j hj => (HL.out j hj).1) (fun j hj => (HL.out j (by omega)).2)).symm
      clear hwr
      go_wp2_with fail
      go_ret
      exact ⟨ret_bool HR.out, HW.out⟩
theorem l07Tree_is (t : Bool) (g : Nat) (T : Tr) (w : World) (hg : TrAt w g T) (o : OKTr T) (ht : treeB T.P T.V = t) :
    Calls Try.prog 66 #[.pointer (some ⟨g, 0, none⟩)] w (Tells t w) := by subst ht; exact l07Tree_any g T w hg o
theorem specValidTree_any (v : Value) (T : Tr) (w : World) (hv : TrV w v T) (o : OKTr T) :
    Calls Try.prog 20 #[v] w (Says (treeB T.P T.V) w) := by
  obtain ⟨s1, s2, rfl, g1, g2⟩ := hv
  have HA := Lib.hid (TrAt.mk' (T := T) g1 g2 32)
  clear g1 g2
  go_enter Try.func20, Try.ntmps20
  go_wp2_with fail
  go_at_call 66; refine (l07Tree_any _ T _ HA.out o).mono ?_; rintro e w1 ⟨rfl, m, rfl⟩
  go_wp2_with fail
  go_ret
  exact says rfl (below_drewN (below_alloc w _) _)
end Go.Proofs.Ytmkbjkjgemipcaa
