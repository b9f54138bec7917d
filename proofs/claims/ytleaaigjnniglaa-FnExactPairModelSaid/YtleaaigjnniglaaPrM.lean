/- Models of pairs: both sides. -/
import Derived.Test.YtleaaigjnniglaaFsM
import Derived.Test.YtleaaigjnniglaaIxPr
namespace Go.Proofs.Ytleaaigjnniglaa
open Go.RowKit Go.ChangeShapes Go.WideShapes

def otherP (c : List Int) : Bool := !(decide (1 ≤ (c.length : Int)) && decide ((c.length : Int) ≤ 2))
def pairL (F : Fm) : List Bool := if anyP otherP F.cs then [] else firstL F
def pairB (F : Fm) : Bool := !anyP otherP F.cs && firstB F
theorem pair_no {F : Fm} (h : anyP otherP F.cs = true) : pairL F = [] ∧ pairB F = false := by unfold pairL pairB; rw [h]; exact ⟨rfl, rfl⟩
theorem pair_yes {F : Fm} (h : anyP otherP F.cs = false) : pairL F = firstL F ∧ pairB F = firstB F := by unfold pairL pairB; rw [h]; exact ⟨rfl, rfl⟩
theorem pairL_len (F : Fm) : (pairL F).length ≤ 1048576 := by
  unfold pairL
  split
  · simp
  · exact firstL_len F
theorem prCl_any (u : Value) (c : List Int) (w : World) (hu : IL w u c) :
    Calls Try.prog 75 #[u] w (Says (otherP c) w) := by
  obtain ⟨ao, cap, rfl⟩ := hu.long
  clear hu
  obtain ⟨t, ht⟩ : ∃ t, (decide (1 ≤ (c.length : Int)) && decide ((c.length : Int) ≤ 2)) = t := ⟨_, rfl⟩
  have HT := Lib.hid ht
  have HP : Hid (otherP c = !t) := Lib.hid (by unfold otherP; rw [ht])
  clear ht
  generalize c.length = n at HT
  go_enter Try.func75, Try.ntmps75
  go_wp2_with fail
  go_at_call 57; refine (isFrom_is t (n : Int) 1 2 _ HT.out).mono ?_; rintro e w' ⟨rfl, m, rfl⟩
  go_wp2_with fail
  go_ret
  exact says HP.out.symm (below_drewN (Below.refl _ _) _)
set_option maxHeartbeats 1000000 in
theorem implPairModel_any (v : Value) (F : Fm) (w : World) (hv : FmV w v F) (o : OKFm F) :
    Calls Try.prog 40 #[v] w (SaysBB (pairL F) (pairB F) w) := by
  have hv0 := hv
  obtain ⟨s1, rfl, g1⟩ := hv
  have HV := Lib.hid (fun wx (hb : Below w.heap.size w wx) => hv0.below hb (Nat.le_refl _))
  have HG := Lib.hid (fun o => g1.below (below_alloc w o) (Nat.le_refl _))
  have hb0 := Lib.hid (fun o => below_alloc w o)
  have hn := o.okl.len
  obtain ⟨ao, cap, rfl⟩ := g1.long
  clear hv0 g1
  cases h1 : anyP otherP F.cs with
  | true =>
    have HN := Lib.hid (pair_no h1)
    have H1 := Lib.hid h1
    clear h1
    go_enter Try.func40, Try.ntmps40
    go_wp2_with fail
    go_at_call 76; refine (ctPr_any otherP _ F.cs _ (HG.out _) hn (fun k u w' _ _ hu => prCl_any u _ w' hu)).mono ?_; rintro e w1 ⟨rfl, b1⟩
    rw [H1.out]
    have HB := Lib.hid ((hb0.out _).trans (b1.mono (hb0.out _).size))
    clear b1
    go_wp2_with fail
    go_ret2
    exact saysBB HN.out.1.symm HN.out.2.symm bi_nil HB.out
  | false =>
    have HN := Lib.hid (pair_yes h1)
    have H1 := Lib.hid h1
    clear h1
    go_enter Try.func40, Try.ntmps40
    go_wp2_with fail
    go_at_call 76; refine (ctPr_any otherP _ F.cs _ (HG.out _) hn (fun k u w' _ _ hu => prCl_any u _ w' hu)).mono ?_; rintro e w1 ⟨rfl, b1⟩
    rw [H1.out]
    have HB := Lib.hid ((hb0.out _).trans (b1.mono (hb0.out _).size))
    obtain ⟨c0, c1⟩ := (Box2.mk' w (.int .i64 F.letters) (.slice ao F.cs.length cap) 31).keep b1 (by simp)
    clear b1
    go_wp2_with fail
    go_at_call 31; refine (implFirstModel_any _ F _ (HV.out _ HB.out) o).mono ?_; rintro e w2 ⟨v2, rfl, hi2, b2⟩
    have H2 := Lib.hid (HB.out.trans (b2.mono HB.out.size))
    have HI := Lib.hid (SI.wide hi2 HB.out.size (Nat.le_refl _) (Nat.le_refl _))
    clear hi2 b2 c0 c1
    go_wp2_with fail
    go_ret2
    exact saysBB HN.out.1.symm HN.out.2.symm HI.out H2.out
set_option maxRecDepth 100000 in
set_option maxHeartbeats 4000000 in
theorem specPairModel_any (v : Value) (F : Fm) (w : World) (hv : FmV w v F) (o : OKFm F) :
    Calls Try.prog 39 #[v] w (SaysBB (pairL F) (pairB F) w) := by
  have hv0 := hv
  have OK := Lib.hid o.okl
  have HLN := Lib.hid (fun k => OK.out.short k)
  have hn := o.okl.len
  obtain ⟨s1, rfl, g1⟩ := hv
  have HV := Lib.hid (fun wx (hb : Below w.heap.size w wx) => hv0.below hb (Nat.le_refl _))
  have hb0 := Lib.hid (fun o => below_alloc w o)
  rcases g1 with ⟨hz, ao, cap, rfl⟩ | ⟨b, off, cap, U, rfl, hpos, hbl, hcell⟩
  · have HN := Lib.hid (pair_yes (F := F) (anyP_no fun k hk => by rw [hz] at hk; simp at hk))
    clear hv0 hz
    go_enter Try.func39, Try.ntmps39
    go_wp2_with fail
    refine wp_loop_rounds 1 ?_
    rw [rounds_succ]
    go_wp2_with fail
    go_at_call 30; refine (specFirstModel_any _ F _ (HV.out _ (hb0.out _)) o).mono ?_; rintro e w2 ⟨v2, rfl, hi2, b2⟩
    have H2 := Lib.hid ((hb0.out _).trans (b2.mono (hb0.out _).size))
    have HI := Lib.hid (SI.wide hi2 (hb0.out _).size (Nat.le_refl _) (Nat.le_refl _))
    clear hi2 b2
    go_wp2_with fail
    go_ret2
    exact saysBB HN.out.1.symm HN.out.2.symm HI.out H2.out
  have HC := Lib.hid hcell
  clear hv0 hcell
  go_enter Try.func39, Try.ntmps39
  go_wp2_with fail
  obtain ⟨W, hW⟩ : ∃ W, W = w.alloc (.cells #[.int .i64 F.letters, .slice (some ⟨b, off, none⟩) F.cs.length (F.cs.length + cap)] 31) := ⟨_, rfl⟩
  have hBW0 : Below w.heap.size w W := by rw [hW]; exact hb0.out _
  have HBX : Hid (Box2 W w.heap.size (.int .i64 F.letters) (.slice (some ⟨b, off, none⟩) F.cs.length (F.cs.length + cap))) := Lib.hid (by rw [hW]; exact Box2.mk' _ _ _ _)
  have HBW := Lib.hid hBW0
  rw [← hW]
  clear hW hBW0
  go_loopg [8] F.cs.length (fun gk i wr => ∃ k : Nat, k ≤ F.cs.length ∧ gk + k = F.cs.length ∧ i = .int .i64 k ∧ (∀ j, j < k → otherP (F.cs.getD j []) = false) ∧ W = wr)
  case atStart => exact ⟨0, Nat.zero_le _, by omega, rfl, fun j hj => by omega, rfl⟩
  case round =>
    obtain ⟨k, hk, hgk, rfl, hall, rfl⟩ := hrel
    have HL := Lib.hid hall
    obtain ⟨c0, c1⟩ := HBX.out
    clear hall
    by_cases hlt : k < F.cs.length
    · have d0 : W.cell? ⟨b, off + k, none⟩ = some (U k) := by rw [HBW.out.cell (p := ⟨b, off + k, none⟩) hbl]; exact (HC.out k hlt).1
      obtain ⟨ao2, cap2, hu⟩ := IL.long (HC.out k hlt).2
      rw [hu] at d0
      have hz := HLN.out k
      obtain ⟨t, ht⟩ : ∃ t, t = otherP (F.cs.getD k []) := ⟨_, rfl⟩
      have HT := Lib.hid ht
      unfold otherP at ht
      generalize (F.cs.getD k []).length = n at d0 ht hz
      clear hu
      by_cases h1 : n < 1
      · have HN := Lib.hid (pair_no (F := F) (anyP_yes hlt (by rw [← HT.out, ht]; simp; omega)))
        have h1i : (n : Int) < 1 := by omega
        clear ht
        go_wp2_with fail
        go_ret2
        exact saysBB HN.out.1.symm HN.out.2.symm bi_nil HBW.out
      · have h1i : ¬ (n : Int) < 1 := by omega
        by_cases h2 : 2 < n
        · have HN := Lib.hid (pair_no (F := F) (anyP_yes hlt (by rw [← HT.out, ht]; simp; omega)))
          have h2i : (2 : Int) < (n : Int) := by omega
          clear ht
          go_wp2_with fail
          go_ret2
          exact saysBB HN.out.1.symm HN.out.2.symm bi_nil HBW.out
        · have HN : Hid (otherP (F.cs.getD k []) = false) := Lib.hid (by rw [← HT.out, ht]; simp; omega)
          have h2i : ¬ (2 : Int) < (n : Int) := by omega
          clear ht
          go_wp2_with fail
          go_roundg (gk - 1)
          case measure => omega
          case rel => exact ⟨k + 1, by omega, by omega, by go_num, fun j hj => by
            by_cases e : j = k
            · subst e; exact HN.out
            · exact HL.out j (by omega), rfl⟩
    · obtain rfl : k = F.cs.length := by omega
      have HN := Lib.hid (pair_yes (F := F) (anyP_no HL.out))
      go_wp2_with fail
      go_at_call 30; refine (specFirstModel_any _ F _ (HV.out _ HBW.out) o).mono ?_; rintro e w2 ⟨v2, rfl, hi2, b2⟩
      have H2 := Lib.hid (HBW.out.trans (b2.mono HBW.out.size))
      have HI := Lib.hid (SI.wide hi2 HBW.out.size (Nat.le_refl _) (Nat.le_refl _))
      clear hi2 b2 c0 c1
      go_wp2_with fail
      go_ret2
      exact saysBB HN.out.1.symm HN.out.2.symm HI.out H2.out
end Go.Proofs.Ytleaaigjnniglaa
