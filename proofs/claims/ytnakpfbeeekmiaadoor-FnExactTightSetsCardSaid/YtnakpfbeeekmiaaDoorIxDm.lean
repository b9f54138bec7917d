/- slices.ContainsFunc over lists of lists, with a closure of impl.AreDomains. -/
import Derived.Test.YtnakpfbeeekmiaaDoorAnyP
import Derived.Test.YtnakpfbeeekmiaaDoorFnd
namespace Go.Proofs.YtnakpfbeeekmiaaDoor
open Go.RowKit Go.ChangeShapes Go.WideShapes

set_option maxHeartbeats 1000000 in
theorem ixDm_any (p : List Int → Bool) (v : Value) (C : List (List Int)) (w : World) (hv : LV w v C) (hn : C.length ≤ 1048576)
    (hcl : ∀ k u w', k < C.length → Below w.heap.size w w' → IL w' u (C.getD k []) → Calls Tryd.prog 47 #[u] w' (Says (p (C.getD k [])) w')) :
    Calls Tryd.prog 55 #[v, .func (.func 47) #[] #[]] w (FoundP (anyP p C) w) := by
  rcases hv with ⟨rfl, ao, cap, rfl⟩ | ⟨b, off, cap, U, rfl, hpos, hbl, hcell⟩
  · clear hcl
    go_enter Tryd.func55, Tryd.ntmps55
    go_wp2_with fail
    refine wp_loop_rounds 1 ?_
    rw [rounds_succ]
    go_wp2
    go_ret
    exact ⟨Or.inr ⟨rfl, rfl⟩, Below.refl _ _⟩
  have HC := Lib.hid hcell
  have HCL := Lib.hid hcl
  clear hcell hcl
  go_enter Tryd.func55, Tryd.ntmps55
  go_wp2_with fail
  go_loopg [8] C.length (fun gk i wr => ∃ k : Nat, k ≤ C.length ∧ gk + k = C.length ∧ i = .int .i64 k ∧ (∀ j, j < k → p (C.getD j []) = false) ∧ Below w.heap.size w wr)
  case atStart => exact ⟨0, Nat.zero_le _, by omega, rfl, fun j hj => by omega, Below.refl _ _⟩
  case round =>
    obtain ⟨k, hk, hgk, rfl, hall, hwr⟩ := hrel
    have HL := Lib.hid hall
    have HW := Lib.hid hwr
    clear hall
    by_cases hlt : k < C.length
    · have c0 : wr.cell? ⟨b, off + k, none⟩ = some (U k) := by rw [hwr.cell (p := ⟨b, off + k, none⟩) hbl]; exact (HC.out k hlt).1
      have HI := Lib.hid ((HC.out k hlt).2.below hwr (Nat.le_refl _))
      clear hwr
      generalize U k = u at c0 HI
      cases q : p (C.getD k []) with
      | true =>
        have HQ := Lib.hid q
        clear q
        go_wp2_with fail
        go_at_call 47; refine (HCL.out k u _ hlt HW.out HI.out).mono ?_; rintro e w1 ⟨rfl, b1⟩
        rw [HQ.out]
        have H1 := Lib.hid (HW.out.trans (b1.mono HW.out.size))
        clear b1 c0
        go_wp2_with fail
        go_ret
        exact ⟨Or.inl ⟨anyP_yes hlt HQ.out, k, rfl⟩, H1.out⟩
      | false =>
        have HQ := Lib.hid q
        clear q
        go_wp2_with fail
        go_at_call 47; refine (HCL.out k u _ hlt HW.out HI.out).mono ?_; rintro e w1 ⟨rfl, b1⟩
        rw [HQ.out]
        have H1 := Lib.hid (HW.out.trans (b1.mono HW.out.size))
        clear b1 c0
        go_wp2_with fail
        go_roundg (gk - 1)
        case measure => omega
        case rel => exact ⟨k + 1, by omega, by omega, by go_num, fun j hj => by
          by_cases e : j = k
          · subst e; exact HQ.out
          · exact HL.out j (by omega), H1.out⟩
    · obtain rfl : k = C.length := by omega
      clear hwr
      go_wp2_with fail
      go_ret
      exact ⟨Or.inr ⟨anyP_no HL.out, rfl⟩, HW.out⟩
theorem ctDm_any (p : List Int → Bool) (v : Value) (C : List (List Int)) (w : World) (hv : LV w v C) (hn : C.length ≤ 1048576)
    (hcl : ∀ k u w', k < C.length → Below w.heap.size w w' → IL w' u (C.getD k []) → Calls Tryd.prog 47 #[u] w' (Says (p (C.getD k [])) w')) :
    Calls Tryd.prog 49 #[v, .func (.func 47) #[] #[]] w (Says (anyP p C) w) := by
  have HV := Lib.hid hv
  have HCL := Lib.hid hcl
  obtain ⟨ao, cap, rfl⟩ := hv.long
  clear hv hcl
  go_enter Tryd.func49, Tryd.ntmps49
  go_wp2_with fail
  go_at_call 55; refine (ixDm_any p _ C _ HV.out hn HCL.out).mono ?_; rintro e w1 ⟨⟨ht, k, rfl⟩ | ⟨ht, rfl⟩, b1⟩
  · have HT := Lib.hid ht
    have H1 := Lib.hid b1
    have hk0 : (0 : Int) ≤ (k : Int) := by omega
    clear ht b1
    go_wp2_with fail
    go_ret
    exact says (by rw [HT.out]) H1.out
  · have HT := Lib.hid ht
    have H1 := Lib.hid b1
    clear ht b1
    go_wp2_with fail
    go_ret
    exact says HT.out.symm H1.out
end Go.Proofs.YtnakpfbeeekmiaaDoor
