/- Whether a list is an order: the program. -/
import Derived.Test.YtgiijkbgbpohoaaSoI
import Derived.Test.YtgiijkbgbpohoaaClI
import Derived.Test.YtgiijkbgbpohoaaNumB
import Derived.Test.YtgiijkbgbpohoaaSmE
namespace Go.Proofs.Ytgiijkbgbpohoaa
open Go.RowKit Go.ChangeShapes Go.WideShapes

theorem same_tour (T : List Int) (n : Nat) : sameI (sortL T) (numL n) = tourB T n := by
  rw [Bool.eq_iff_iff, sameI_iff, sortL_tour]
set_option maxHeartbeats 2000000 in
theorem isOrder_any (n : Nat) (u : Value) (T : List Int) (w : World) (hu : IL w u T) (hn : T.length ≤ 1048576) (n1 : 1 ≤ n) (n2 : n ≤ 1000) :
    Calls Try.prog 59 #[.int .i64 n, u] w (Says (tourB T n) w) := by
  have HU := Lib.hid hu
  obtain ⟨ao, cap, rfl⟩ := hu.long
  clear hu
  by_cases h0 : T.length = 0
  · have hT : T = [] := List.eq_nil_of_length_eq_zero h0
    subst hT
    have HTF : Hid (tourB [] n = false) := Lib.hid (tourB_no0 (by simp; omega))
    rw [HTF.out]
    clear h0
    go_enter Try.func59, Try.ntmps59
    go_wp2_with fail
    go_at_call 88; refine (cloneI_any _ [] _ HU.out (by simp)).mono ?_; rintro e w1 ⟨v1, rfl, i1, b1⟩
    obtain ⟨a1, c1, rfl⟩ := i1.len
    have B1 := Lib.hid b1
    clear i1 b1
    go_wp2_with fail
    go_at_call 89; refine (sortI_none _ _ _).mono ?_; rintro e w2 ⟨rfl, rfl⟩
    go_wp2_with fail
    go_at_call 73; refine (numbersBelow_any n _ n2).mono ?_; rintro e w3 ⟨v3, rfl, i3, b3⟩
    have B3 := Lib.hid (B1.out.trans (b3.mono B1.out.size))
    have I3 := Lib.hid i3.vl
    have HQ : Hid (sameI [] (numL n) = false) := Lib.hid (sameI_lens (by simp [numL_len]; omega))
    obtain ⟨a3, c3, rfl⟩ := i3.len
    clear i3 b3
    go_wp2_with fail
    go_at_call 90; refine (slEqual_any _ _ [] (numL n) _ (Or.inl ⟨rfl, _, _, rfl⟩) I3.out (by simp) (by rw [numL_len]; omega)).mono ?_; rintro e w4 ⟨rfl, m, rfl⟩
    rw [HQ.out]
    go_wp2_with fail
    go_ret
    exact says rfl (below_drewN B3.out m)
  · go_enter Try.func59, Try.ntmps59
    go_wp2_with fail
    go_at_call 88; refine (cloneI_any _ T _ HU.out hn).mono ?_; rintro e w1 ⟨v1, rfl, i1, b1⟩
    have B1 := Lib.hid b1
    obtain ⟨hz, h1 | ⟨b, off, c1, rfl, hpos, hlo, hhi, hfz, hcell⟩⟩ := i1
    · exact absurd (by rw [h1.1]; rfl) h0
    have A1 := Lib.hid (show Arr (Value.int .i64) 0 w1 b off T from ⟨hcell, hfz⟩)
    have HLO := Lib.hid hlo
    have HHI := Lib.hid hhi
    clear b1 hfz hcell hlo hhi hz
    go_wp2_with fail
    go_at_call 89; refine (sortI_any b off _ T _ A1.out HHI.out hn).mono ?_; rintro e w2 ⟨rfl, t2, a2⟩
    have B2 : Hid (Below w.heap.size w w2) := Lib.hid (B1.out.trans ((t2.below (Nat.le_of_lt HHI.out)).mono HLO.out))
    have HB2 : Hid (b < w2.heap.size) := Lib.hid (Nat.lt_of_lt_of_le HHI.out t2.size)
    have A2 := Lib.hid a2
    clear t2 a2
    go_wp2_with fail
    go_at_call 73; refine (numbersBelow_any n _ n2).mono ?_; rintro e w3 ⟨v3, rfl, i3, b3⟩
    have B3 := Lib.hid (B2.out.trans (b3.mono B2.out.size))
    have A3 := Lib.hid (A2.out.below b3 HB2.out)
    have HB3 : Hid (b < w3.heap.size) := Lib.hid (Nat.lt_of_lt_of_le HB2.out b3.size)
    have I3 := Lib.hid i3.vl
    obtain ⟨a3, c3, rfl⟩ := i3.len
    have HS := Lib.hid (sortL_len T)
    have V3 : Hid (IL w3 (.slice (some ⟨b, off, none⟩) T.length (T.length + c1)) (sortL T)) := Lib.hid (Or.inr ⟨b, off, c1, by rw [HS.out], by rw [HS.out]; exact hpos, HB3.out, A3.out.cells⟩)
    have HQ := Lib.hid (same_tour T n)
    clear i3 b3
    go_wp2_with fail
    go_at_call 90; refine (slEqual_any _ _ (sortL T) (numL n) _ V3.out I3.out (by rw [HS.out]; exact hn) (by rw [numL_len]; omega)).mono ?_; rintro e w4 ⟨rfl, m, rfl⟩
    rw [HQ.out]
    go_wp2_with fail
    go_ret
    exact says rfl (below_drewN B3.out m)
theorem isOrder_is (t : Bool) (n : Nat) (u : Value) (T : List Int) (w : World) (hu : IL w u T) (hn : T.length ≤ 1048576) (n1 : 1 ≤ n) (n2 : n ≤ 1000) (ht : tourB T n = t) :
    Calls Try.prog 59 #[.int .i64 n, u] w (Says t w) := by subst ht; exact isOrder_any n u T w hu hn n1 n2
end Go.Proofs.Ytgiijkbgbpohoaa
