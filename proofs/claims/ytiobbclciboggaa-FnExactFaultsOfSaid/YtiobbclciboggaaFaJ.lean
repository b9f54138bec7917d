/- Faults in a room: the program, for all arguments. -/
import Derived.Test.YtiobbclciboggaaFaI
namespace Go.Proofs.Ytiobbclciboggaa
open Go.RowKit Go.ChangeShapes Go.WideShapes

def okF (A : List Int) (room rule : Int) : Bool := asksB A 63 && (inB room 1 16 && inB rule 0 2)
def faI (A : List Int) (room rule : Int) : Int := if okF A room rule then ((fsS (A.map Int.toNat) room.toNat rule A.length).2 : Nat) else 0
theorem asks_nat {A : List Int} {m : Int} (h : asksB A m = true) : A = intsN (A.map Int.toNat) ∧ ∀ x ∈ A.map Int.toNat, (x : Int) ≤ m := by
  have hA : allIn A 0 m = true := by unfold asksB at h; simp only [Bool.and_eq_true] at h; exact h.1
  have each : ∀ x ∈ A, 0 ≤ x ∧ x ≤ m := fun x hx => by
    obtain ⟨i, hi, rfl⟩ := List.getElem_of_mem hx
    have := allIn_at hA hi
    rw [show A.getD i 0 = A[i] by simp [List.getD, hi]] at this
    exact this
  refine ⟨?_, fun x hx => ?_⟩
  · unfold intsN
    rw [List.map_map]
    conv => lhs; rw [← List.map_id A]
    refine List.map_congr_left fun x hx => ?_
    have := each x hx
    show x = ((x.toNat : Nat) : Int)
    omega
  · obtain ⟨y, hy, rfl⟩ := List.mem_map.1 hx
    have := each y hy
    omega
set_option maxHeartbeats 2000000 in
theorem implFaultsOf_any (v : Value) (A : List Int) (room rule : Int) (w : World) (hv : IL w v A) (o : OKI A) (_ : -9223372036854775808 ≤ room ∧ room ≤ 9223372036854775807) (_ : -9223372036854775808 ≤ rule ∧ rule ≤ 9223372036854775807) :
    Calls Try.prog 44 #[v, .int .i64 room, .int .i64 rule] w (SaysIB (faI A room rule) (okF A room rule) w) := by
  cases h1 : asksB A 63 with
  | false =>
    have e : okF A room rule = false := by unfold okF; rw [h1]; rfl
    have e2 : faI A room rule = 0 := by unfold faI; rw [e]; rfl
    rw [e, e2]
    have HV := Lib.hid hv
    obtain ⟨ao, cap, rfl⟩ := hv.long
    have H1 := Lib.hid h1
    clear e e2 hv h1
    go_enter Try.func44, Try.ntmps44
    go_wp2_with fail
    go_at_call 81; refine (areAsks_is false _ A 63 _ HV.out o.size H1.out).mono ?_; rintro e w1 ⟨rfl, m1, rfl⟩
    go_wp2_with fail
    go_ret2
    exact ⟨rfl, below_drewN (Below.refl _ _) _⟩
  | true =>
    cases h2 : inB room 1 16 with
    | false =>
      have e : okF A room rule = false := by unfold okF; rw [h1, h2]; rfl
      have e2 : faI A room rule = 0 := by unfold faI; rw [e]; rfl
      rw [e, e2]
      have HV := Lib.hid hv
      obtain ⟨ao, cap, rfl⟩ := hv.long
      have H1 := Lib.hid h1
      have H2 : Hid ((decide ((1 : Int) ≤ room) && decide (room ≤ 16)) = false) := Lib.hid h2
      clear e e2 hv h1 h2
      go_enter Try.func44, Try.ntmps44
      go_wp2_with fail
      go_at_call 81; refine (areAsks_is true _ A 63 _ HV.out o.size H1.out).mono ?_; rintro e w1 ⟨rfl, m1, rfl⟩
      go_wp2_with fail
      go_at_call 66; refine (isFrom_is false _ 1 16 _ H2.out).mono ?_; rintro e w2 ⟨rfl, m2, rfl⟩
      go_wp2_with fail
      go_ret2
      exact ⟨rfl, below_drewN (Below.refl _ _) _⟩
    | true =>
      cases h3 : inB rule 0 2 with
      | false =>
        have e : okF A room rule = false := by unfold okF; rw [h1, h2, h3]; rfl
        have e2 : faI A room rule = 0 := by unfold faI; rw [e]; rfl
        rw [e, e2]
        have HV := Lib.hid hv
        obtain ⟨ao, cap, rfl⟩ := hv.long
        have H1 := Lib.hid h1
        have H2 : Hid ((decide ((1 : Int) ≤ room) && decide (room ≤ 16)) = true) := Lib.hid h2
        have H3 : Hid ((decide ((0 : Int) ≤ rule) && decide (rule ≤ 2)) = false) := Lib.hid h3
        clear e e2 hv h1 h2 h3
        go_enter Try.func44, Try.ntmps44
        go_wp2_with fail
        go_at_call 81; refine (areAsks_is true _ A 63 _ HV.out o.size H1.out).mono ?_; rintro e w1 ⟨rfl, m1, rfl⟩
        go_wp2_with fail
        go_at_call 66; refine (isFrom_is true _ 1 16 _ H2.out).mono ?_; rintro e w2 ⟨rfl, m2, rfl⟩
        go_wp2_with fail
        go_at_call 66; refine (isFrom_is false _ 0 2 _ H3.out).mono ?_; rintro e w3 ⟨rfl, m3, rfl⟩
        go_wp2_with fail
        go_ret2
        exact ⟨rfl, below_drewN (Below.refl _ _) _⟩
      | true =>
        have e : okF A room rule = true := by unfold okF; rw [h1, h2, h3]; rfl
        have e2 : faI A room rule = ((fsS (A.map Int.toNat) room.toNat rule A.length).2 : Nat) := by unfold faI; rw [e]; rfl
        have r2 : 1 ≤ room ∧ room ≤ 16 := by unfold inB at h2; simpa using h2
        have r3 : 0 ≤ rule ∧ rule ≤ 2 := by unfold inB at h3; simpa using h3
        have hl : A.length ≤ 64 := by
          have : few64 A.length = true := by unfold asksB at h1; simp only [Bool.and_eq_true] at h1; exact h1.2
          unfold few64 at this; simp only [Bool.and_eq_true, decide_eq_true_eq] at this; omega
        obtain ⟨hA, hb⟩ := asks_nat h1
        rw [e, e2]
        have hq : (A.map Int.toNat).length = A.length := by simp
        rw [← hq]
        have h1' : asksB (intsN (A.map Int.toNat)) 63 = true := by rw [← hA]; exact h1
        have hv' : IL w v (intsN (A.map Int.toNat)) := by rw [← hA]; exact hv
        have hr : ((room.toNat : Nat) : Int) = room := by omega
        have h := implFaults_yes v (A.map Int.toNat) room.toNat rule w hv' h1' (by omega) (by omega) r3.1 r3.2 (by omega) (fun x hx => by have := hb x hx; omega)
        rw [hr] at h
        exact h
end Go.Proofs.Ytiobbclciboggaa
