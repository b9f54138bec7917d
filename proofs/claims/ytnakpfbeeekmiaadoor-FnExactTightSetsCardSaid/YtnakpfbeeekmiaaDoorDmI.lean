/- Domains: the program. -/
import Derived.Test.YtnakpfbeeekmiaaDoorDm0
import Derived.Test.YtnakpfbeeekmiaaDoorArF
import Derived.Test.YtnakpfbeeekmiaaDoorIxDm
namespace Go.Proofs.YtnakpfbeeekmiaaDoor
open Go.RowKit Go.ChangeShapes Go.WideShapes

theorem isDomain_end (b1 : Bool) (d : List Int) (h : ∀ i, i < d.length → ascB d i = true) (h1 : domLB d = b1) : domB d = (b1 && allIn d 0 31) := by rw [domB_rest h, h1]
set_option maxHeartbeats 1000000 in
theorem isDomain_any (v : Value) (d : List Int) (w : World) (hv : IL w v d) (hn : d.length ≤ 1048576) :
    Calls Tryd.prog 48 #[v] w (Tells (domB d) w) := by
  rcases hv with ⟨rfl, ao, cap, rfl⟩ | ⟨b, off, cap, rfl, hpos, hbl, hcell⟩
  · go_enter Tryd.func48, Tryd.ntmps48
    go_wp2_with fail
    refine wp_loop_rounds 1 ?_
    rw [rounds_succ]
    go_wp2_with fail
    go_at_call 43; refine (isFrom_is false _ 1 8 _ rfl).mono ?_; rintro e w' ⟨rfl, m, rfl⟩
    go_wp2_with fail
    go_ret
    exact tells _ rfl
  · have HC := Lib.hid hcell
    have HV : Hid (∀ m, IL (w.drewN m) (.slice (some ⟨b, off, none⟩) d.length (d.length + cap)) d) := Lib.hid (fun m => VL.drewN (Or.inr ⟨b, off, cap, rfl, hpos, hbl, hcell⟩) m)
    clear hcell
    go_enter Tryd.func48, Tryd.ntmps48
    go_wp2
    go_loopg [7] d.length (fun gk i wr => ∃ k : Nat, k ≤ d.length ∧ gk + k = d.length ∧ i = .int .i64 k ∧ (∀ j, j < k → ascB d j = true) ∧ ∃ m, wr = w.drewN m)
    case atStart => exact ⟨0, Nat.zero_le _, by omega, rfl, fun j hj => by omega, 0, rfl⟩
    case round =>
      obtain ⟨k, hk, hgk, rfl, hall, hwr⟩ := hrel
      have HL := Lib.hid hall
      have HW := Lib.hid (drew_more hwr)
      have HW0 := Lib.hid hwr
      clear hall
      by_cases hlt : k < d.length
      · have c1 : wr.cell? ⟨b, off + k, none⟩ = some (.int .i64 (d.getD k 0)) := by obtain ⟨n, rfl⟩ := hwr; exact HC.out k hlt
        by_cases h0 : k = 0
        · subst h0
          have HQ : Hid (ascB d 0 = true) := Lib.hid rfl
          clear hwr
          generalize d.getD 0 0 = y at c1
          rw [Nat.add_zero] at c1
          go_wp2_with fail
          go_roundg (gk - 1)
          case measure => omega
          case rel => exact ⟨0 + 1, by omega, by omega, by go_num, fun j hj => by obtain rfl : j = 0 := (by omega); exact HQ.out, HW0.out⟩
        · obtain ⟨k1, rfl⟩ : ∃ k1, k = k1 + 1 := ⟨k - 1, by omega⟩
          have c0 : wr.cell? ⟨b, off + k1, none⟩ = some (.int .i64 (d.getD k1 0)) := by obtain ⟨n, rfl⟩ := hwr; exact HC.out k1 (by omega)
          obtain ⟨x, hx⟩ : ∃ x, x = d.getD k1 0 := ⟨_, rfl⟩
          obtain ⟨y, hy⟩ : ∃ y, y = d.getD (k1 + 1) 0 := ⟨_, rfl⟩
          have hq : ascB d (k1 + 1) = decide (x < y) := by unfold ascB; rw [hx, hy]; try simp
          have HQ := Lib.hid hq
          rw [← hx] at c0
          rw [← hy] at c1
          clear hwr hx hy hq
          have hpos1 : decide ((0 : Int) < ((k1 + 1 : Nat) : Int)) = true := decide_eq_true (by omega)
          by_cases hxy : x < y
          · have hxy2 : ¬ y ≤ x := by omega
            have HXY := Lib.hid hxy
            go_wp2_with fail
            go_roundg (gk - 1)
            case measure => omega
            case rel => exact ⟨k1 + 1 + 1, by omega, by omega, by go_num, fun j hj => by
              by_cases e : j = k1 + 1
              · subst e; rw [HQ.out]; exact decide_eq_true HXY.out
              · exact HL.out j (by omega), HW0.out⟩
          · have hxy2 : y ≤ x := by omega
            have HXY := Lib.hid hxy
            go_wp2_with fail
            go_ret
            exact ⟨ret_bool (domB_asc hlt (by rw [HQ.out]; exact decide_eq_false (by have := HXY.out; omega))).symm, HW0.out⟩
      · obtain rfl : k = d.length := by omega
        have HV2 : Hid (∀ m, IL (wr.drewN m) (.slice (some ⟨b, off, none⟩) d.length (d.length + cap)) d) := Lib.hid (by obtain ⟨m0, rfl⟩ := hwr; exact fun m => VL.drewN (HV.out m0) m)
        clear hwr
        have HD := Lib.hid (domB_rest HL.out)
        cases h1 : domLB d with
        | false =>
          have H1 := Lib.hid (show (decide (1 ≤ (d.length : Int)) && decide ((d.length : Int) ≤ 8)) = false from h1)
          have HR : Hid (false = domB d) := Lib.hid (by rw [HD.out, h1]; rfl)
          clear h1
          go_wp2_with fail
          go_at_call 43; refine (isFrom_is false _ 1 8 _ H1.out).mono ?_; rintro e w' ⟨rfl, m, rfl⟩
          go_wp2_with fail
          go_ret
          exact ⟨ret_bool HR.out, HW.out _⟩
        | true =>
          have H1 := Lib.hid (show (decide (1 ≤ (d.length : Int)) && decide ((d.length : Int) ≤ 8)) = true from h1)
          have HR : Hid (allIn d 0 31 = domB d) := Lib.hid (by rw [HD.out, h1]; rfl)
          clear h1
          go_wp2_with fail
          go_at_call 43; refine (isFrom_is true _ 1 8 _ H1.out).mono ?_; rintro e w' ⟨rfl, m, rfl⟩
          go_wp2_with fail
          go_at_call 54; refine (areFrom_any 0 _ d 31 _ (HV2.out m) hn).mono ?_; rintro e w' ⟨rfl, m2, rfl⟩
          go_wp2_with fail
          go_ret
          exact ⟨ret_bool HR.out, HW.out _⟩
theorem areDom1_any (u : Value) (c : List Int) (w : World) (hu : IL w u c) (hn : c.length ≤ 1048576) :
    Calls Tryd.prog 47 #[u] w (Says (notDom c) w) := by
  have HU := Lib.hid hu
  obtain ⟨ao, cap, rfl⟩ := hu.long
  clear hu
  go_enter Tryd.func47, Tryd.ntmps47
  go_wp2_with fail
  go_at_call 48; refine (isDomain_any _ c _ HU.out hn).mono ?_; rintro e w1 ⟨rfl, m, rfl⟩
  go_wp2_with fail
  go_ret
  exact says rfl (below_drewN (Below.refl _ _) _)
theorem implAreDomains_any (v : Value) (C : List (List Int)) (w : World) (hv : LV w v C) (o : OKL C) :
    Calls Tryd.prog 36 #[v] w (Says (domsB C) w) := by
  have HV := Lib.hid hv
  obtain ⟨ao, cap, rfl⟩ := hv.long
  clear hv
  have OK := Lib.hid o
  have hn := o.len
  cases h1 : domsLB C with
  | false =>
    have H1 := Lib.hid (show (decide (1 ≤ (C.length : Int)) && decide ((C.length : Int) ≤ 6)) = false from h1)
    have HN := Lib.hid (domsB_len h1)
    clear h1
    go_enter Tryd.func36, Tryd.ntmps36
    go_wp2_with fail
    go_at_call 43; refine (isFrom_is false _ 1 6 _ H1.out).mono ?_; rintro e w' ⟨rfl, m, rfl⟩
    go_wp2_with fail
    go_ret
    exact says HN.out.symm (below_drewN (Below.refl _ _) _)
  | true =>
    have H1 := Lib.hid (show (decide (1 ≤ (C.length : Int)) && decide ((C.length : Int) ≤ 6)) = true from h1)
    have HN : Hid (domsB C = !anyP notDom C) := Lib.hid (by unfold domsB; rw [h1, Bool.true_and])
    clear h1
    go_enter Tryd.func36, Tryd.ntmps36
    go_wp2_with fail
    go_at_call 43; refine (isFrom_is true _ 1 6 _ H1.out).mono ?_; rintro e w' ⟨rfl, m, rfl⟩
    go_wp2_with fail
    go_at_call 49; refine (ctDm_any notDom _ C _ (LV.drewN HV.out _) hn (fun k u w' hk hb hu => areDom1_any u _ w' hu (OK.out.short k))).mono ?_; rintro e w1 ⟨rfl, b1⟩
    have HB := Lib.hid ((below_drewN (Below.refl w.heap.size w) m).trans (b1.mono (Nat.le_refl _)))
    clear b1
    go_wp2_with fail
    go_ret
    exact says (by rw [HN.out]) HB.out
end Go.Proofs.YtnakpfbeeekmiaaDoor
