/- Faults in a room: the model, where there is no answer. -/
import Derived.Test.YtiobbclciboggaaFaJ
import Derived.Test.YtiobbclciboggaaFaO
namespace Go.Proofs.Ytiobbclciboggaa
open Go.RowKit Go.ChangeShapes Go.WideShapes

set_option maxHeartbeats 2000000 in
theorem specFaultsOf_no (v : Value) (A : List Int) (room rule : Int) (w : World) (hv : IL w v A) (o : OKI A) (hno : okF A room rule = false) :
    Calls Try.prog 43 #[v, .int .i64 room, .int .i64 rule] w (SaysIB (faI A room rule) (okF A room rule) w) := by
  cases h1 : asksB A 63 with
  | false =>
    have e : okF A room rule = false := by unfold okF; rw [h1]; rfl
    have e2 : faI A room rule = 0 := by unfold faI; rw [e]; rfl
    rw [e, e2]
    have HV := Lib.hid hv
    obtain ⟨ao, cap, rfl⟩ := hv.long
    have H1 := Lib.hid h1
    clear e e2 hv h1
    go_enter Try.func43, Try.ntmps43
    go_wp2_with fail
    go_at_call 79; refine (l06Asks_is false _ A 64 _ HV.out o.size (by omega) (by omega) H1.out).mono ?_; rintro e w1 ⟨rfl, m1, rfl⟩
    go_wp2_with fail
    go_ret2
    exact ⟨rfl, below_drewN (Below.refl _ _) _⟩
  | true =>
    cases h2 : inB room 1 16 with
    | false =>
      have e : okF A room rule = false := by unfold okF; rw [h1, h2]; rfl
      have e2 : faI A room rule = 0 := by unfold faI; rw [e]; rfl
      rw [e, e2]
      have HV := Lib.hid hv
      obtain ⟨ao, cap, rfl⟩ := hv.long
      have H1 := Lib.hid h1
      have H2 : Hid ((decide ((1 : Int) ≤ room) && decide (room ≤ 16)) = false) := Lib.hid h2
      clear e e2 hv h1 h2
      go_enter Try.func43, Try.ntmps43
      go_wp2_with fail
      go_at_call 79; refine (l06Asks_is true _ A 64 _ HV.out o.size (by omega) (by omega) H1.out).mono ?_; rintro e w1 ⟨rfl, m1, rfl⟩
      go_wp2_with fail
      go_at_call 64; refine (l00In_is false room 1 16 _ H2.out).mono ?_; rintro e w2 ⟨rfl, m2, rfl⟩
      go_wp2_with fail
      go_ret2
      exact ⟨rfl, below_drewN (Below.refl _ _) _⟩
    | true =>
      cases h3 : inB rule 0 2 with
      | false =>
        have e : okF A room rule = false := by unfold okF; rw [h1, h2, h3]; rfl
        have e2 : faI A room rule = 0 := by unfold faI; rw [e]; rfl
        rw [e, e2]
        have HV := Lib.hid hv
        obtain ⟨ao, cap, rfl⟩ := hv.long
        have H1 := Lib.hid h1
        have H2 : Hid ((decide ((1 : Int) ≤ room) && decide (room ≤ 16)) = true) := Lib.hid h2
        have H3 : Hid ((decide ((0 : Int) ≤ rule) && decide (rule ≤ 2)) = false) := Lib.hid h3
        clear e e2 hv h1 h2 h3
        go_enter Try.func43, Try.ntmps43
        go_wp2_with fail
        go_at_call 79; refine (l06Asks_is true _ A 64 _ HV.out o.size (by omega) (by omega) H1.out).mono ?_; rintro e w1 ⟨rfl, m1, rfl⟩
        go_wp2_with fail
        go_at_call 64; refine (l00In_is true room 1 16 _ H2.out).mono ?_; rintro e w2 ⟨rfl, m2, rfl⟩
        go_wp2_with fail
        go_at_call 64; refine (l00In_is false rule 0 2 _ H3.out).mono ?_; rintro e w3 ⟨rfl, m3, rfl⟩
        go_wp2_with fail
        go_ret2
        exact ⟨rfl, below_drewN (Below.refl _ _) _⟩
      | true =>
        unfold okF at hno
        rw [h1, h2, h3] at hno
        cases hno
end Go.Proofs.Ytiobbclciboggaa
