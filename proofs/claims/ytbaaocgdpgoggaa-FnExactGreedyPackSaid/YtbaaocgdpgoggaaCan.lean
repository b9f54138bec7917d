/- Sizes, gains and a room: both sides' tests. -/
import Derived.Test.YtbaaocgdpgoggaaMax
import Derived.Test.YtbaaocgdpgoggaaRm
import Derived.Test.YtbaaocgdpgoggaaMix
import Derived.Test.YtbaaocgdpgoggaaRowA
import Derived.Deep.LoopGhost
import Derived.BigRegion
import Derived.Deep.RegionWith
import Derived.Test.YtbaaocgdpgoggaaOwn
import Derived.WalkSpells
namespace Go.Proofs.Ytbaaocgdpgoggaa
open Go.RowKit Go.ChangeShapes Go.WideShapes

theorem canB_no1 {S G : List Int} {r : Int} (h : sizesB S = false) : canB S G r = false := by unfold canB; rw [h, Bool.false_and]
theorem canB_no2 {S G : List Int} {r : Int} (h : decide ((G.length : Int) = (S.length : Int)) = false) : canB S G r = false := by unfold canB; rw [h, Bool.false_and, Bool.and_false]
theorem canB_no3 {S G : List Int} {r : Int} (h : inB r 0 1000 = false) : canB S G r = false := by unfold canB; rw [h, Bool.false_and, Bool.and_false, Bool.and_false]
theorem canB_no4 {S G : List Int} {r : Int} (h : allIn G 0 1000 = false) : canB S G r = false := by unfold canB; rw [h, Bool.and_false, Bool.and_false, Bool.and_false]
theorem canB_yes {S G : List Int} {r : Int} (h1 : sizesB S = true) (h2 : decide ((G.length : Int) = (S.length : Int)) = true) (h3 : inB r 0 1000 = true) (h4 : allIn G 0 1000 = true) : canB S G r = true := by unfold canB; rw [h1, h2, h3, h4]; rfl
set_option maxHeartbeats 2000000 in
theorem areThings_any (v u : Value) (S G : List Int) (r : Int) (w : World) (hv : IL w v S) (hu : IL w u G) (hn : S.length ≤ 1048576) (hm : G.length ≤ 1048576) :
    Calls Try.prog 83 #[v, u, .int .i64 r] w (Tells (canB S G r) w) := by
  have HV := Lib.hid hv
  have HU := Lib.hid hu
  obtain ⟨ao, cap, rfl⟩ := hv.long
  obtain ⟨ao2, cap2, rfl⟩ := hu.long
  clear hv hu
  cases h1 : sizesB S with
  | false =>
    rw [canB_no1 h1]
    have H1 := Lib.hid h1
    clear h1
    go_enter Try.func83, Try.ntmps83
    go_wp2_with fail
    go_at_call 153; refine (implSizes_is false _ S _ HV.out hn H1.out).mono ?_; rintro e w' ⟨rfl, m, rfl⟩
    go_wp2_with fail
    go_ret
    exact tells _ rfl
  | true =>
    have H1 := Lib.hid h1
    clear h1
    cases h2 : decide ((G.length : Int) = (S.length : Int)) with
    | false =>
      rw [canB_no2 h2]
      have h2' : ((G.length : Int) == (S.length : Int)) = false := h2
      go_enter Try.func83, Try.ntmps83
      go_wp2_with fail
      go_at_call 153; refine (implSizes_is true _ S _ HV.out hn H1.out).mono ?_; rintro e w' ⟨rfl, m, rfl⟩
      go_wp2_with fail
      go_ret
      exact tells _ rfl
    | true =>
      have h2' : ((G.length : Int) == (S.length : Int)) = true := h2
      have H2 := Lib.hid h2
      clear h2
      cases h4 : allIn G 0 1000 with
      | false =>
        rw [canB_no4 h4]
        have H4 := Lib.hid h4
        clear h4
        go_enter Try.func83, Try.ntmps83
        go_wp2_with fail
        go_at_call 153; refine (implSizes_is true _ S _ HV.out hn H1.out).mono ?_; rintro e w' ⟨rfl, m, rfl⟩
        go_wp2_with fail
        go_at_call 154; refine (areFrom_is false 0 _ G 1000 _ (VL.drewN HU.out _) hm H4.out).mono ?_; rintro e w' ⟨rfl, m2, rfl⟩
        go_wp2_with fail
        go_ret
        exact tells _ rfl
      | true =>
        have H4 := Lib.hid h4
        clear h4
        cases h3 : inB r 0 1000 with
        | false =>
          rw [canB_no3 h3]
          have H3 := Lib.hid h3
          clear h3
          go_enter Try.func83, Try.ntmps83
          go_wp2_with fail
          go_at_call 153; refine (implSizes_is true _ S _ HV.out hn H1.out).mono ?_; rintro e w' ⟨rfl, m, rfl⟩
          go_wp2_with fail
          go_at_call 154; refine (areFrom_is true 0 _ G 1000 _ (VL.drewN HU.out _) hm H4.out).mono ?_; rintro e w' ⟨rfl, m2, rfl⟩
          go_wp2_with fail
          go_at_call 155; refine (isRoom_is false r _ H3.out).mono ?_; rintro e w' ⟨rfl, m3, rfl⟩
          go_wp2_with fail
          go_ret
          exact tells _ rfl
        | true =>
          have H3 := Lib.hid h3
          rw [canB_yes H1.out H2.out h3 H4.out]
          clear h3
          go_enter Try.func83, Try.ntmps83
          go_wp2_with fail
          go_at_call 153; refine (implSizes_is true _ S _ HV.out hn H1.out).mono ?_; rintro e w' ⟨rfl, m, rfl⟩
          go_wp2_with fail
          go_at_call 154; refine (areFrom_is true 0 _ G 1000 _ (VL.drewN HU.out _) hm H4.out).mono ?_; rintro e w' ⟨rfl, m2, rfl⟩
          go_wp2_with fail
          go_at_call 155; refine (isRoom_is true r _ H3.out).mono ?_; rintro e w' ⟨rfl, m3, rfl⟩
          go_wp2_with fail
          go_ret
          exact tells _ rfl
theorem areThings_is (t : Bool) (v u : Value) (S G : List Int) (r : Int) (w : World) (hv : IL w v S) (hu : IL w u G) (hn : S.length ≤ 1048576) (hm : G.length ≤ 1048576) (ht : canB S G r = t) :
    Calls Try.prog 83 #[v, u, .int .i64 r] w (Tells t w) := by subst ht; exact areThings_any v u S G r w hv hu hn hm
set_option maxHeartbeats 2000000 in
theorem l04Can_any (v u : Value) (S G : List Int) (r : Int) (w : World) (hv : IL w v S) (hu : IL w u G) (hn : S.length ≤ 1048576) (hm : G.length ≤ 1048576) :
    Calls Try.prog 81 #[v, u, .int .i64 r] w (Tells (canB S G r) w) := by
  have HV := Lib.hid hv
  have HU := Lib.hid hu
  obtain ⟨ao, cap, rfl⟩ := hv.long
  clear hv
  cases h1 : sizesB S with
  | false =>
    rw [canB_no1 h1]
    have H1 := Lib.hid h1
    obtain ⟨ao2, cap2, rfl⟩ := hu.long
    clear h1 hu
    go_enter Try.func81, Try.ntmps81
    go_wp2_with fail
    go_at_call 152; refine (l04Sizes_is false _ S _ HV.out hn H1.out).mono ?_; rintro e w' ⟨rfl, m, rfl⟩
    go_wp2_with fail
    go_ret
    exact tells _ rfl
  | true =>
    have H1 := Lib.hid h1
    have OK := Lib.hid (sizesB_ok h1)
    clear h1
    cases h2 : decide ((G.length : Int) = (S.length : Int)) with
    | false =>
      rw [canB_no2 h2]
      obtain ⟨ao2, cap2, rfl⟩ := hu.long
      have h2' : ((G.length : Int) != (S.length : Int)) = true := by simpa using h2
      clear hu h2
      go_enter Try.func81, Try.ntmps81
      go_wp2_with fail
      go_at_call 152; refine (l04Sizes_is true _ S _ HV.out hn H1.out).mono ?_; rintro e w' ⟨rfl, m, rfl⟩
      go_wp2_with fail
      go_ret
      exact tells _ rfl
    | true =>
      have h2' : ((G.length : Int) != (S.length : Int)) = false := by simpa using h2
      have H2 := Lib.hid h2
      have hgl : G.length = S.length := by simp at h2; omega
      clear h2
      cases h3 : inB r 0 1000 with
      | false =>
        rw [canB_no3 h3]
        have H3 := Lib.hid h3
        obtain ⟨ao2, cap2, rfl⟩ := hu.long
        clear h3 hu hgl
        go_enter Try.func81, Try.ntmps81
        go_wp2_with fail
        go_at_call 152; refine (l04Sizes_is true _ S _ HV.out hn H1.out).mono ?_; rintro e w' ⟨rfl, m, rfl⟩
        go_wp2_with fail
        go_at_call 110; refine (l00In_is false r 0 1000 _ H3.out).mono ?_; rintro e w' ⟨rfl, m2, rfl⟩
        go_wp2_with fail
        go_ret
        exact tells _ rfl
      | true =>
        have H3 := Lib.hid h3
        clear h3
        rcases hu with ⟨hz, ao2, cap2, rfl⟩ | ⟨b, off, cap2, rfl, hpos, hbl, hcell⟩
        · exfalso; have := OK.out.l1; rw [hz] at hgl; simp at hgl; omega
        have HC := Lib.hid hcell
        clear hcell hgl
        go_enter Try.func81, Try.ntmps81
        go_wp2_with fail
        go_at_call 152; refine (l04Sizes_is true _ S _ HV.out hn H1.out).mono ?_; rintro e w' ⟨rfl, m, rfl⟩
        go_wp2_with fail
        go_at_call 110; refine (l00In_is true r 0 1000 _ H3.out).mono ?_; rintro e w' ⟨rfl, m2, rfl⟩
        have HW0 : Hid (∃ m', w.drewN (m + m2) = w.drewN m') := Lib.hid ⟨_, rfl⟩
        go_wp2_with fail
        go_loopw [7] (fun i wr => ∃ k : Nat, k ≤ G.length ∧ i = .int .i64 k ∧ (∀ j, j < k → inB (G.getD j 0) 0 1000 = true) ∧ ∃ m, wr = w.drewN m) (fun i _ => G.length - (intOf i).toNat)
        case atStart => exact ⟨0, Nat.zero_le _, rfl, fun j hj => by omega, HW0.out⟩
        case round =>
          obtain ⟨k, hk, rfl, hall, hwr⟩ := hrel
          have HL := Lib.hid hall
          have HW := Lib.hid (drew_more hwr)
          clear hall
          by_cases hlt : k < G.length
          · have c1 : wr.cell? ⟨b, off + k, none⟩ = some (.int .i64 (G.getD k 0)) := by obtain ⟨n, rfl⟩ := hwr; exact HC.out k hlt
            obtain ⟨y, hy⟩ : ∃ y, y = G.getD k 0 := ⟨_, rfl⟩
            rw [← hy] at c1
            have HY := Lib.hid hy
            clear hy hwr
            cases ht : inB y 0 1000 with
            | false =>
              have T := Lib.hid (show (decide (0 ≤ y) && decide (y ≤ 1000)) = false from ht)
              clear ht
              go_wp2_with fail
              go_at_call 110; refine (l00In_is false y 0 1000 _ T.out).mono ?_; rintro e w' ⟨rfl, m, rfl⟩
              go_wp2_with fail
              go_ret
              obtain ⟨m2, h2⟩ := HW.out m
              exact ⟨ret_bool (canB_no4 (allIn_no hlt (by rw [← HY.out]; exact T.out))).symm, m2, h2⟩
            | true =>
              have T := Lib.hid (show (decide (0 ≤ y) && decide (y ≤ 1000)) = true from ht)
              clear ht
              go_wp2_with fail
              go_at_call 110; refine (l00In_is true y 0 1000 _ T.out).mono ?_; rintro e w' ⟨rfl, m, rfl⟩
              go_wp2_with fail
              go_roundw
              case rel => exact ⟨k + 1, by omega, by go_num, fun j hj => by
                by_cases e : j = k
                · subst e; rw [← HY.out]; exact T.out
                · exact HL.out j (by omega), HW.out m⟩
              case measure => simp [intOf]; omega
          · obtain rfl : k = G.length := by omega
            have HWR := Lib.hid hwr
            clear hwr
            go_wp2_with fail
            go_ret
            exact ⟨ret_bool (canB_yes H1.out H2.out H3.out (rngAll HL.out)).symm, HWR.out⟩
theorem l04Can_is (t : Bool) (v u : Value) (S G : List Int) (r : Int) (w : World) (hv : IL w v S) (hu : IL w u G) (hn : S.length ≤ 1048576) (hm : G.length ≤ 1048576) (ht : canB S G r = t) :
    Calls Try.prog 81 #[v, u, .int .i64 r] w (Tells t w) := by subst ht; exact l04Can_any v u S G r w hv hu hn hm
end Go.Proofs.Ytbaaocgdpgoggaa
