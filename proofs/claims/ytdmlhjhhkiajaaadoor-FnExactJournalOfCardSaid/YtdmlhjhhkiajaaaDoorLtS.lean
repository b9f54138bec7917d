/- The texts of lists of numbers: both sides, for all lists. -/
import Derived.Test.YtdmlhjhhkiajaaaDoorTxS
import Derived.Deep.QuietTactic
import Derived.BigQuiet
namespace Go.Proofs.YtdmlhjhhkiajaaaDoor
open Go.RowKit Go.ChangeShapes Go.WideShapes

theorem drew_moreT {w wr : World} (h : ∃ m, wr = w.drewN m) : ∀ n, ∃ m, wr.drewN n = w.drewN m := by
  obtain ⟨m, rfl⟩ := h
  exact fun n => ⟨_, World.drewN_drewN _ _ _⟩
def valsB (L : List Int) : Bool := allIn L (-1000000000000000) 1000000000000000
def ltOk (L : List Int) : Bool := decide (L.length ≤ 64) && valsB L
def ltD (L : List Int) : List UInt8 := if ltOk L then txtL L else []
def SaysSB (D : List UInt8) (b : Bool) (w : World) (e : Ending) (w' : World) : Prop := e = .returned (.tuple #[.string ⟨D.toArray⟩, .bool b]) ∧ Below w.heap.size w w'
theorem ltOk_ok {L : List Int} (h : ltOk L = true) : L.length ≤ 64 ∧ Few64 L := by
  unfold ltOk at h
  rw [Bool.and_eq_true, decide_eq_true_eq] at h
  refine ⟨h.1, fun i hi => ?_⟩
  have := allIn_at h.2 hi
  omega
set_option maxHeartbeats 1000000 in
theorem l01List_any (v : Value) (L : List Int) (w : World) (hv : IL w v L) (hn : L.length ≤ 1048576) :
    Calls Tryd.prog 65 #[v] w (Tells (ltOk L) w) := by
  rcases hv with ⟨rfl, ao, cap, rfl⟩ | ⟨b, off, cap, rfl, hpos, hbl, hcell⟩
  · go_enter Tryd.func65, Tryd.ntmps65
    go_wp2
    refine wp_loop_rounds 1 ?_
    rw [rounds_succ]
    go_wp2
    go_ret
    exact tells 0 rfl
  · have HC := Lib.hid hcell
    clear hcell
    go_enter Tryd.func65, Tryd.ntmps65
    go_wp2
    go_loopw [3] (fun i wr => ∃ k : Nat, k ≤ L.length ∧ i = .int .i64 k ∧ (∀ j, j < k → inB (L.getD j 0) (-1000000000000000) 1000000000000000 = true) ∧ ∃ m, wr = w.drewN m) (fun i _ => L.length - (intOf i).toNat)
    case atStart => exact ⟨0, Nat.zero_le _, rfl, fun j hj => by omega, 0, rfl⟩
    case round =>
      obtain ⟨k, hk, rfl, hall, hwr⟩ := hrel
      have HL := Lib.hid hall
      have HW := Lib.hid (drew_moreT hwr)
      clear hall
      by_cases hlt : k < L.length
      · have c1 : wr.cell? ⟨b, off + k, none⟩ = some (.int .i64 (L.getD k 0)) := by obtain ⟨n, rfl⟩ := hwr; exact HC.out k hlt
        obtain ⟨y, hy⟩ : ∃ y, y = L.getD k 0 := ⟨_, rfl⟩
        rw [← hy] at c1
        have HY := Lib.hid hy
        clear hy hwr
        cases ht : inB y (-1000000000000000) 1000000000000000 with
        | false =>
          have T := Lib.hid (show (decide (-1000000000000000 ≤ y) && decide (y ≤ 1000000000000000)) = false from ht)
          clear ht
          go_wp2_with (go_at_call 103; refine (l00In_is _ y (-1000000000000000) 1000000000000000 _ T.out).mono ?_; rintro e w' ⟨rfl, m, rfl⟩)
          go_ret
          obtain ⟨m2, h2⟩ := HW.out m
          exact ⟨ret_bool (by unfold ltOk valsB; rw [allIn_no hlt (by rw [← HY.out]; exact T.out), Bool.and_false]), m2, h2⟩
        | true =>
          have T := Lib.hid (show (decide (-1000000000000000 ≤ y) && decide (y ≤ 1000000000000000)) = true from ht)
          clear ht
          go_wp2_with (go_at_call 103; refine (l00In_is _ y (-1000000000000000) 1000000000000000 _ T.out).mono ?_; rintro e w' ⟨rfl, m, rfl⟩)
          go_roundw
          case rel => exact ⟨k + 1, by omega, by go_num, fun j hj => by
            by_cases e : j = k
            · subst e; rw [← HY.out]; exact T.out
            · exact HL.out j (by omega), HW.out m⟩
          case measure => simp [intOf]; omega
      · obtain rfl : k = L.length := by omega
        have HWR := Lib.hid hwr
        have HA : Hid (valsB L = true) := Lib.hid (rngAll HL.out)
        clear hwr
        obtain ⟨t, ht⟩ : ∃ t, decide ((L.length : Int) ≤ 64) = t := ⟨_, rfl⟩
        have T := Lib.hid ht
        go_wp2
        go_ret
        exact ⟨ret_bool (by
          unfold ltOk
          rw [HA.out, Bool.and_true]
          first
            | rfl
            | (rw [← T.out, Bool.eq_iff_iff, decide_eq_true_eq, decide_eq_true_eq]; omega)
            | (rw [Bool.eq_iff_iff, decide_eq_true_eq, decide_eq_true_eq]; omega)), HWR.out⟩
set_option maxHeartbeats 1000000 in
theorem specListText_any (v : Value) (L : List Int) (w : World) (hv : IL w v L) (o : OKI L) :
    Calls Tryd.prog 19 #[v] w (SaysSB (ltD L) (ltOk L) w) := by
  have HV := Lib.hid hv
  obtain ⟨ao, cap, rfl⟩ := hv.long
  have hs := o.size
  cases h : ltOk L with
  | false =>
    have e : ltD L = [] := by unfold ltD; rw [h]; rfl
    rw [e]
    have LS := Lib.hid (fun w hv => h ▸ l01List_any (.slice ao L.length cap) L w hv hs)
    clear hv h e
    go_enter Tryd.func19, Tryd.ntmps19
    go_wp2_with fail
    go_at_call 65; refine (LS.out _ HV.out).mono ?_; rintro e w2 ⟨rfl, m, rfl⟩
    go_wp2_with fail
    go_ret2
    exact ⟨rfl, below_drewN (Below.refl _ _) _⟩
  | true =>
    have e : ltD L = txtL L := by unfold ltD; rw [h]; rfl
    rw [e]
    have LS := Lib.hid (fun w hv => h ▸ l01List_any (.slice ao L.length cap) L w hv hs)
    have ok := ltOk_ok h
    have TX := Lib.hid (fun W hv => l01Text_any (.slice ao L.length cap) L W hv ok.1 ok.2)
    generalize txtL L = D at *
    clear hv h e ok
    go_enter Tryd.func19, Tryd.ntmps19
    go_wp2_with fail
    go_at_call 65; refine (LS.out _ HV.out).mono ?_; rintro e w2 ⟨rfl, m, rfl⟩
    go_wp2_with fail
    go_at_call 66; refine (TX.out _ (VL.drewN HV.out _)).mono ?_; rintro e w3 ⟨rfl, b⟩
    have B := Lib.hid ((below_drewN (Below.refl w.heap.size w) m).trans b)
    clear b
    go_wp2_with fail
    go_ret2
    exact ⟨rfl, B.out⟩
theorem isValue_is (t : Bool) (n : Int) (w : World) (ht : inB n (-1000000000000000) 1000000000000000 = t) : Calls Tryd.prog 64 #[.int .i64 n] w (Tells t w) := by
  have h : (decide (-1000000000000000 ≤ n) && decide (n ≤ 1000000000000000)) = t := ht
  clear ht
  obtain ⟨a, ha⟩ : ∃ a, decide (-1000000000000000 ≤ n) = a := ⟨_, rfl⟩
  obtain ⟨b, hb⟩ : ∃ b, decide (n ≤ 1000000000000000) = b := ⟨_, rfl⟩
  rw [ha, hb] at h
  have H := Lib.hid h
  clear h
  cases a <;> cases b
  all_goals
    go_enter Tryd.func64, Tryd.ntmps64
    go_wp2
    go_ret
    exact tells 0 H.out
set_option maxHeartbeats 2000000 in
theorem implListText_any (v : Value) (L : List Int) (w : World) (hv : IL w v L) (o : OKI L) (hp : PowTab w) :
    Calls Tryd.prog 21 #[v] w (SaysSB (ltD L) (ltOk L) w) := by
  have HP := Lib.hid hp
  have HV := Lib.hid hv
  have hs := o.size
  clear hp
  by_cases hl : L.length ≤ 64
  · rcases hv with ⟨rfl, ao, cap, rfl⟩ | ⟨b, off, cap, rfl, hpos, hbl, hcell⟩
    · have TX := Lib.hid (fun W hv hp => textOfList_any (.slice ao 0 cap) [] W hv (by simp) (fun i hi => by simp at hi) hp)
      have e1 : ltOk [] = true := by decide
      have e2 : ltD [] = txtL [] := by decide
      rw [e1, e2]
      generalize txtL [] = D at *
      clear e1 e2
      go_enter Tryd.func21, Tryd.ntmps21
      go_wp2_with fail
      refine wp_loop_rounds 1 ?_
      rw [rounds_succ]
      go_wp2_with fail
      go_at_call 67; refine (TX.out _ HV.out HP.out).mono ?_; rintro e w3 ⟨rfl, b⟩
      have B := Lib.hid b
      clear b
      go_wp2_with fail
      go_ret2
      exact ⟨rfl, B.out⟩
    · have HC := Lib.hid hcell
      have d0 : decide ((L.length : Int) > 64) = false := by simp; omega
      have d1 : decide ((64 : Int) < (L.length : Int)) = false := by simp; omega
      clear hcell hbl
      go_enter Tryd.func21, Tryd.ntmps21
      go_wp2_with fail
      go_loopw [11] (fun i wr => ∃ k : Nat, k ≤ L.length ∧ i = .int .i64 k ∧ (∀ j, j < k → inB (L.getD j 0) (-1000000000000000) 1000000000000000 = true) ∧ ∃ m, wr = w.drewN m) (fun i _ => L.length - (intOf i).toNat)
      case atStart => exact ⟨0, Nat.zero_le _, rfl, fun j hj => by omega, 0, rfl⟩
      case round =>
        obtain ⟨k, hk, rfl, hall, hwr⟩ := hrel
        have HL := Lib.hid hall
        have HW := Lib.hid (drew_moreT hwr)
        clear hall
        by_cases hlt : k < L.length
        · have c1 : wr.cell? ⟨b, off + k, none⟩ = some (.int .i64 (L.getD k 0)) := by obtain ⟨n, rfl⟩ := hwr; exact HC.out k hlt
          obtain ⟨y, hy⟩ : ∃ y, y = L.getD k 0 := ⟨_, rfl⟩
          rw [← hy] at c1
          have HY := Lib.hid hy
          clear hy hwr
          cases ht : inB y (-1000000000000000) 1000000000000000 with
          | false =>
            have T := Lib.hid ht
            have e1 : ltOk L = false := by unfold ltOk valsB; rw [allIn_no hlt (by rw [← HY.out]; exact T.out), Bool.and_false]
            have e2 : ltD L = [] := by unfold ltD; rw [e1]; rfl
            have E := Lib.hid (And.intro e1 e2)
            clear ht e1 e2
            go_wp2_with (go_at_call 64; refine (isValue_is _ y _ T.out).mono ?_; rintro e w' ⟨rfl, m, rfl⟩)
            go_ret2
            obtain ⟨m2, h2⟩ := HW.out m
            rw [E.out.1, E.out.2]
            exact ⟨rfl, by rw [h2]; exact below_drewN (Below.refl _ _) _⟩
          | true =>
            have T := Lib.hid ht
            clear ht
            go_wp2_with (go_at_call 64; refine (isValue_is _ y _ T.out).mono ?_; rintro e w' ⟨rfl, m, rfl⟩)
            go_roundw
            case rel => exact ⟨k + 1, by omega, by go_num, fun j hj => by
              by_cases e : j = k
              · subst e; rw [← HY.out]; exact T.out
              · exact HL.out j (by omega), HW.out m⟩
            case measure => simp [intOf]; omega
        · obtain rfl : k = L.length := by omega
          have HA : ltOk L = true := by
            unfold ltOk
            rw [show valsB L = true from rngAll HL.out, Bool.and_true, decide_eq_true_eq]
            exact hl
          have e2 : ltD L = txtL L := by unfold ltD; rw [HA]; rfl
          have ok := ltOk_ok HA
          have HBW : Hid (Below w.heap.size w wr) := Lib.hid (by obtain ⟨m, rfl⟩ := hwr; exact below_drewN (Below.refl _ _) _)
          have TX := Lib.hid (textOfList_any (.slice (some ⟨b, off, none⟩) L.length (L.length + cap)) L wr (HV.out.below HBW.out (Nat.le_refl _)) ok.1 ok.2 (HP.out.below' HBW.out))
          have E := Lib.hid (And.intro HA e2)
          clear hwr ok e2 HA
          go_wp2_with fail
          go_at_call 67; refine TX.out.mono ?_; rintro e w3 ⟨rfl, b⟩
          have B := Lib.hid (HBW.out.trans (b.mono HBW.out.size))
          clear b
          go_wp2_with fail
          go_ret2
          rw [E.out.1, E.out.2]
          exact ⟨rfl, B.out⟩
  · have e1 : ltOk L = false := by unfold ltOk; rw [decide_eq_false hl, Bool.false_and]
    have e2 : ltD L = [] := by unfold ltD; rw [e1]; rfl
    rw [e1, e2]
    obtain ⟨ao, cap, rfl⟩ := hv.long
    have d0 : decide ((L.length : Int) > 64) = true := by simp; omega
    have d1 : decide ((64 : Int) < (L.length : Int)) = true := by simp; omega
    clear hv e1 e2
    go_enter Tryd.func21, Tryd.ntmps21
    go_wp2_with fail
    go_ret2
    exact ⟨rfl, Below.refl _ _⟩
end Go.Proofs.YtdmlhjhhkiajaaaDoor
