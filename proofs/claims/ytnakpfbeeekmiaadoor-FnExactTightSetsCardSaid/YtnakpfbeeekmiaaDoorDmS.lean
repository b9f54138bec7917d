/- Domains: the model. -/
import Derived.Test.YtnakpfbeeekmiaaDoorDm0
import Derived.Test.YtnakpfbeeekmiaaDoorArF
import Derived.Test.YtnakpfbeeekmiaaDoorLs
namespace Go.Proofs.YtnakpfbeeekmiaaDoor
open Go.RowKit Go.ChangeShapes Go.WideShapes

theorem drew_on {a b c : World} (h : ∃ m, b = a.drewN m) (k : ∃ m, c = b.drewN m) : ∃ m, c = a.drewN m := by
  obtain ⟨m, rfl⟩ := h
  obtain ⟨n, rfl⟩ := k
  exact ⟨_, World.drewN_drewN _ _ _⟩
theorem domsLB_cases {n : Nat} : ((decide (1 ≤ (n : Int)) && decide ((n : Int) ≤ 6)) = true ∧ ¬ (n : Int) < 1 ∧ ¬ 6 < (n : Int)) ∨ ((decide (1 ≤ (n : Int)) && decide ((n : Int) ≤ 6)) = false ∧ (n : Int) < 1) ∨ ((decide (1 ≤ (n : Int)) && decide ((n : Int) ≤ 6)) = false ∧ ¬ (n : Int) < 1 ∧ 6 < (n : Int)) := by
  by_cases h1 : 1 ≤ (n : Int)
  · by_cases h2 : (n : Int) ≤ 6
    · exact Or.inl ⟨by simp [h1, h2], by omega, by omega⟩
    · exact Or.inr (Or.inr ⟨by simp; omega, by omega, by omega⟩)
  · exact Or.inr (Or.inl ⟨by simp; omega, by omega⟩)
theorem domLB_cases {n : Nat} : ((decide (1 ≤ (n : Int)) && decide ((n : Int) ≤ 8)) = true ∧ ¬ (n : Int) < 1 ∧ ¬ 8 < (n : Int)) ∨ ((decide (1 ≤ (n : Int)) && decide ((n : Int) ≤ 8)) = false ∧ (n : Int) < 1) ∨ ((decide (1 ≤ (n : Int)) && decide ((n : Int) ≤ 8)) = false ∧ ¬ (n : Int) < 1 ∧ 8 < (n : Int)) := by
  by_cases h1 : 1 ≤ (n : Int)
  · by_cases h2 : (n : Int) ≤ 8
    · exact Or.inl ⟨by simp [h1, h2], by omega, by omega⟩
    · exact Or.inr (Or.inr ⟨by simp; omega, by omega, by omega⟩)
  · exact Or.inr (Or.inl ⟨by simp; omega, by omega⟩)
set_option maxHeartbeats 4000000 in
theorem l07Domains_any (v : Value) (C : List (List Int)) (w : World) (hv : LV w v C) (o : OKL C) :
    Calls Tryd.prog 33 #[v] w (Tells (domsB C) w) := by
  have OK := Lib.hid o
  have hn := o.len
  rcases domsLB_cases (n := C.length) with ⟨f, f1, f2⟩ | ⟨f, f1⟩ | ⟨f, f1, f2⟩
  · have HF := Lib.hid (show domsLB C = true from f)
    clear f
    rcases hv with ⟨rfl, ao, cap, rfl⟩ | ⟨b, off, cap, U, rfl, hpos, hbl, hcell⟩
    · exact absurd (show (([] : List (List Int)).length : Int) < 1 from by decide) f1
    have HC := Lib.hid hcell
    clear hcell
    go_enter Tryd.func33, Tryd.ntmps33
    go_wp2_with fail
    go_loopg [16] C.length (fun gk i wr => ∃ k : Nat, k ≤ C.length ∧ gk + k = C.length ∧ i = .int .i64 k ∧ (∀ j, j < k → domB (C.getD j []) = true) ∧ ∃ m, wr = w.drewN m)
    case atStart => exact ⟨0, Nat.zero_le _, by omega, rfl, fun j hj => by omega, 0, rfl⟩
    case round =>
      obtain ⟨wo, rfl⟩ : ∃ x : World, x = wr := ⟨_, rfl⟩
      obtain ⟨g2, rfl⟩ : ∃ x : Nat, x = gk := ⟨_, rfl⟩
      obtain ⟨k, hk, hgk, rfl, hall, hwr⟩ := hrel
      have HL := Lib.hid hall
      have HW := Lib.hid hwr
      clear hall
      by_cases hlt : k < C.length
      · have c0 : wo.cell? ⟨b, off + k, none⟩ = some (U k) := by obtain ⟨n, rfl⟩ := hwr; exact (HC.out k hlt).1
        have hI : IL wo (U k) (C.getD k []) := by obtain ⟨n, rfl⟩ := hwr; exact (HC.out k hlt).2
        have HS := Lib.hid (OK.out.short k)
        obtain ⟨d, hd⟩ : ∃ d, d = C.getD k [] := ⟨_, rfl⟩
        have HD := Lib.hid hd
        rw [← hd] at hI HS
        have hdn := HS.out
        generalize U k = u at c0 hI
        clear hwr hd
        rcases domLB_cases (n := d.length) with ⟨e, e1, e2⟩ | ⟨e, e1⟩ | ⟨e, e1, e2⟩
        · have HE := Lib.hid (show domLB d = true from e)
          clear e
          rcases hI with ⟨rfl, ao, cp, rfl⟩ | ⟨bd, od, cp, rfl, hpd, hbd, hcd⟩
          · exact absurd (show (([] : List Int).length : Int) < 1 from by decide) e1
          have HX := Lib.hid hcd
          clear hcd
          go_wp2_with fail
          go_loopg [33] d.length (fun gk i wr => ∃ j : Nat, j ≤ d.length ∧ gk + j = d.length ∧ i = .int .i64 j ∧ (∀ q, q < j → ascB d q = true ∧ inB (d.getD q 0) 0 31 = true) ∧ ∃ m, wr = wo.drewN m)
          case atStart => exact ⟨0, Nat.zero_le _, by omega, rfl, fun j hj => by omega, 0, rfl⟩
          case round =>
            obtain ⟨j, hj, hgj, rfl, hal2, hwr2⟩ := hrel
            have HL2 := Lib.hid hal2
            have HW2 := Lib.hid (drew_more hwr2)
            clear hal2 c0
            by_cases hjt : j < d.length
            · have d0 : wr.cell? ⟨bd, od + j, none⟩ = some (.int .i64 (d.getD j 0)) := by obtain ⟨n, rfl⟩ := hwr2; exact HX.out j hjt
              obtain ⟨y, hy⟩ : ∃ y, y = d.getD j 0 := ⟨_, rfl⟩
              have HY := Lib.hid hy
              cases ht : inB y 0 31 with
              | false =>
                have T := Lib.hid (show (decide (0 ≤ y) && decide (y ≤ 31)) = false from ht)
                have HR : Hid (false = domsB C) := Lib.hid (by rw [domsB_no hlt (by rw [← HD.out]; exact domB_val hjt (by rw [← hy]; exact ht))])
                rw [← hy] at d0
                clear ht hy hwr2
                go_wp2_with fail
                go_quiet ((go_at_call 46; with_reducible exact Calls.quiet_of (l00In_is false y 0 31 _ T.out)))
                go_wp2_with fail
                go_ret
                exact ⟨ret_bool HR.out, drew_on HW.out (HW2.out _)⟩
              | true =>
                have T := Lib.hid (show (decide (0 ≤ y) && decide (y ≤ 31)) = true from ht)
                have HT := Lib.hid ht
                clear ht
                by_cases h0 : j = 0
                · subst h0
                  rw [← hy, Nat.add_zero] at d0
                  clear hy hwr2
                  go_wp2_with fail
                  go_quiet ((go_at_call 46; with_reducible exact Calls.quiet_of (l00In_is true y 0 31 _ T.out)))
                  go_wp2_with fail
                  go_roundg (gk - 1)
                  case measure => omega
                  case rel => exact ⟨0 + 1, by omega, by omega, by go_num, fun q hq => by obtain rfl : q = 0 := (by omega); exact ⟨rfl, by rw [← HY.out]; exact HT.out⟩, HW2.out _⟩
                · obtain ⟨j1, rfl⟩ : ∃ j1, j = j1 + 1 := ⟨j - 1, by omega⟩
                  have d1 : wr.cell? ⟨bd, od + j1, none⟩ = some (.int .i64 (d.getD j1 0)) := by obtain ⟨n, rfl⟩ := hwr2; exact HX.out j1 (by omega)
                  obtain ⟨x, hx⟩ : ∃ x, x = d.getD j1 0 := ⟨_, rfl⟩
                  have hq : ascB d (j1 + 1) = decide (x < y) := by unfold ascB; rw [hx, hy]; try simp
                  have HQ := Lib.hid hq
                  rw [← hy] at d0
                  rw [← hx] at d1
                  clear hwr2 hx hy hq
                  by_cases hxy : x < y
                  · have hxy2 : ¬ y ≤ x := by omega
                    have HXY := Lib.hid hxy
                    go_wp2_with fail
                    go_quiet ((go_at_call 46; with_reducible exact Calls.quiet_of (l00In_is true y 0 31 _ T.out)))
                    go_wp2_with fail
                    go_roundg (gk - 1)
                    case measure => omega
                    case rel => exact ⟨j1 + 1 + 1, by omega, by omega, by go_num, fun q hq => by
                      by_cases e : q = j1 + 1
                      · subst e; exact ⟨by rw [HQ.out]; exact decide_eq_true (by have := HXY.out; omega), by rw [← HY.out]; exact HT.out⟩
                      · exact HL2.out q (by omega), HW2.out _⟩
                  · have hxy2 : y ≤ x := by omega
                    have HR : Hid (false = domsB C) := Lib.hid (by rw [domsB_no hlt (by rw [← HD.out]; exact domB_asc hjt (by rw [HQ.out]; exact decide_eq_false hxy))])
                    go_wp2_with fail
                    go_quiet ((go_at_call 46; with_reducible exact Calls.quiet_of (l00In_is true y 0 31 _ T.out)))
                    go_wp2_with fail
                    go_ret
                    exact ⟨ret_bool HR.out, drew_on HW.out (HW2.out _)⟩
            · obtain rfl : j = d.length := by omega
              have HB : Hid (domB (C.getD k []) = true) := Lib.hid (by rw [← HD.out]; exact domB_yes HE.out (fun q hq => (HL2.out q hq).1) (fun q hq => (HL2.out q hq).2))
              have HW3 : Hid (∃ m, wr = w.drewN m) := Lib.hid (by obtain ⟨m1, rfl⟩ := hwr2; obtain ⟨m2, rfl⟩ := HW.out; exact ⟨_, World.drewN_drewN _ _ _⟩)
              clear hwr2
              go_wp2_with fail
              go_roundg (g2 - 1)
              case measure => omega
              case rel => exact ⟨k + 1, by omega, by omega, by go_num, fun q hq => by
                by_cases e : q = k
                · subst e; exact HB.out
                · exact HL.out q (by omega), HW3.out⟩
        · have HR : Hid (false = domsB C) := Lib.hid (by rw [domsB_no hlt (by rw [← HD.out]; exact domB_len e)])
          obtain ⟨ao, cp, rfl⟩ := hI.long
          clear hI e
          go_wp2_with fail
          go_ret
          exact ⟨ret_bool HR.out, HW.out⟩
        · have HR : Hid (false = domsB C) := Lib.hid (by rw [domsB_no hlt (by rw [← HD.out]; exact domB_len e)])
          obtain ⟨ao, cp, rfl⟩ := hI.long
          clear hI e
          go_wp2_with fail
          go_ret
          exact ⟨ret_bool HR.out, HW.out⟩
      · obtain rfl : k = C.length := by omega
        have HR : Hid (true = domsB C) := Lib.hid (domsB_yes HF.out HL.out).symm
        clear hwr
        go_wp2_with fail
        go_ret
        exact ⟨ret_bool HR.out, HW.out⟩
  · have HR : Hid (false = domsB C) := Lib.hid (domsB_len f).symm
    obtain ⟨ao, cp, rfl⟩ := hv.long
    clear hv f
    go_enter Tryd.func33, Tryd.ntmps33
    go_wp2_with fail
    go_ret
    exact tells 0 HR.out
  · have HR : Hid (false = domsB C) := Lib.hid (domsB_len f).symm
    obtain ⟨ao, cp, rfl⟩ := hv.long
    clear hv f
    go_enter Tryd.func33, Tryd.ntmps33
    go_wp2_with fail
    go_ret
    exact tells 0 HR.out
end Go.Proofs.YtnakpfbeeekmiaaDoor
