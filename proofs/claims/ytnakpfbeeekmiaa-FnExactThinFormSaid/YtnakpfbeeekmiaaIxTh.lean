/- slices.IndexFunc over a list of integers, with a closure of impl.isPart. -/
import Derived.Test.YtnakpfbeeekmiaaFndI
import Derived.Test.YtnakpfbeeekmiaaHasI
namespace Go.Proofs.Ytnakpfbeeekmiaa
open Go.RowKit Go.ChangeShapes Go.WideShapes

set_option maxHeartbeats 1000000 in
theorem ixTh_any (p : Int → Bool) (B : Nat) (v : Value) (Z : List Int) (w : World) (hv : IL w v Z) (hn : Z.length ≤ 1048576)
    (hcl : ∀ k w', k < Z.length → Below w.heap.size w w' → Calls Try.prog 128 #[.int .i64 (Z.getD k 0), .pointer (some ⟨B, 0, none⟩)] w' (Says (p (Z.getD k 0)) w')) :
    Calls Try.prog 106 #[v, .func (.func 128) #[] #[.pointer (some ⟨B, 0, none⟩)]] w (FirstI p Z w) := by
  rcases hv with ⟨rfl, ao, cap, rfl⟩ | ⟨b, off, cap, rfl, hpos, hbl, hcell⟩
  · clear hcl
    go_enter Try.func106, Try.ntmps106
    go_wp2_with fail
    refine wp_loop_rounds 1 ?_
    rw [rounds_succ]
    go_wp2
    go_ret
    exact ⟨Or.inr ⟨fun j hj => absurd hj (Nat.not_lt_zero _), rfl⟩, Below.refl _ _⟩
  have HC := Lib.hid hcell
  have HCL := Lib.hid hcl
  clear hcell hcl
  go_enter Try.func106, Try.ntmps106
  go_wp2_with fail
  go_loopg [8] Z.length (fun gk i wr => ∃ k : Nat, k ≤ Z.length ∧ gk + k = Z.length ∧ i = .int .i64 k ∧ (∀ j, j < k → p (Z.getD j 0) = false) ∧ Below w.heap.size w wr)
  case atStart => exact ⟨0, Nat.zero_le _, by omega, rfl, fun j hj => by omega, Below.refl _ _⟩
  case round =>
    obtain ⟨k, hk, hgk, rfl, hall, hwr⟩ := hrel
    have HL := Lib.hid hall
    have HW := Lib.hid hwr
    clear hall
    by_cases hlt : k < Z.length
    · have c0 : wr.cell? ⟨b, off + k, none⟩ = some (.int .i64 (Z.getD k 0)) := by rw [hwr.cell (p := ⟨b, off + k, none⟩) hbl]; exact HC.out k hlt
      have HK := Lib.hid (HCL.out k wr hlt hwr)
      have HP : Hid (∀ t, p (Z.getD k 0) = t → p (Z.getD k 0) = t) := Lib.hid fun _ h => h
      clear hwr
      cases q : p (Z.getD k 0) with
      | true =>
        have HQ := Lib.hid q
        rw [q] at HK
        generalize Z.getD k 0 = x at c0 HK
        clear q
        go_wp2_with fail
        go_at_call 128; refine (HK.out).mono ?_; rintro e w1 ⟨rfl, b1⟩
        have H1 := Lib.hid (HW.out.trans (b1.mono HW.out.size))
        clear b1 c0
        go_wp2_with fail
        go_ret
        exact ⟨Or.inl ⟨k, ⟨hlt, HQ.out, HL.out⟩, rfl⟩, H1.out⟩
      | false =>
        have HQ := Lib.hid q
        rw [q] at HK
        generalize Z.getD k 0 = x at c0 HK
        clear q
        go_wp2_with fail
        go_at_call 128; refine (HK.out).mono ?_; rintro e w1 ⟨rfl, b1⟩
        have H1 := Lib.hid (HW.out.trans (b1.mono HW.out.size))
        clear b1 c0
        go_wp2_with fail
        go_roundg (gk - 1)
        case measure => omega
        case rel => exact ⟨k + 1, by omega, by omega, by go_num, fun j hj => by
          by_cases e : j = k
          · subst e; exact HQ.out
          · exact HL.out j (by omega), H1.out⟩
    · obtain rfl : k = Z.length := by omega
      clear hwr
      go_wp2_with fail
      go_ret
      exact ⟨Or.inr ⟨HL.out, rfl⟩, HW.out⟩
theorem ctTh_any (p : Int → Bool) (B : Nat) (v : Value) (Z : List Int) (w : World) (hv : IL w v Z) (hn : Z.length ≤ 1048576)
    (hcl : ∀ k w', k < Z.length → Below w.heap.size w w' → Calls Try.prog 128 #[.int .i64 (Z.getD k 0), .pointer (some ⟨B, 0, none⟩)] w' (Says (p (Z.getD k 0)) w')) :
    Calls Try.prog 72 #[v, .func (.func 128) #[] #[.pointer (some ⟨B, 0, none⟩)]] w (Says (anyZ p Z) w) := by
  have HV := Lib.hid hv
  have HCL := Lib.hid hcl
  obtain ⟨ao, cap, rfl⟩ := hv.long
  clear hv hcl
  go_enter Try.func72, Try.ntmps72
  go_wp2_with fail
  go_at_call 106; refine (ixTh_any p B _ Z _ HV.out hn HCL.out).mono ?_; rintro e w1 ⟨⟨k, hf, rfl⟩ | ⟨hf, rfl⟩, b1⟩
  · have HT := Lib.hid hf.any
    have H1 := Lib.hid b1
    have hk0 : (0 : Int) ≤ (k : Int) := by omega
    clear hf b1
    go_wp2_with fail
    go_ret
    exact says HT.out.symm H1.out
  · have HT := Lib.hid (anyZ_none hf)
    have H1 := Lib.hid b1
    clear hf b1
    go_wp2_with fail
    go_ret
    exact says HT.out.symm H1.out
end Go.Proofs.Ytnakpfbeeekmiaa
