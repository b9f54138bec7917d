/- Which one goes out, by the rule of what is asked for again: the model. -/
import Derived.Test.YtiobbclciboggaaFaM
import Derived.Deep.QuietTactic
import Derived.BigQuiet
namespace Go.Proofs.Ytiobbclciboggaa
open Go.RowKit Go.ChangeShapes Go.WideShapes

set_option maxRecDepth 100000 in
set_option maxHeartbeats 4000000 in
theorem l06Out_any (v u : Value) (Q Y : List Nat) (i : Nat) (w : World) (hv : IL w v (intsN Q)) (hn : Q.length ≤ 64) (hi : i < Q.length) (hu : IL w u (intsN Y)) (hm : Y.length ≤ 64) (h0 : 0 < Y.length) (hq : ∀ y ∈ Y, Q.getD i 0 ≠ y) :
    Calls Try.prog 80 #[v, .int .i64 (i : Int), u] w (fun e w' => e = .returned (.int .i64 ((mxI (ltF (Q.drop (i + 1))) Y Y.length : Nat) : Int)) ∧ ∃ q, w' = w.drewN q) := by
  rcases hu with ⟨hz, -⟩ | ⟨b, off, cap, rfl, hpos, hbl, hcell⟩
  · have := congrArg List.length hz
    rw [intsN_len, List.length_nil] at this
    omega
  rw [intsN_len] at hcell ⊢
  have HC : Hid (∀ j q, j < Y.length → (w.drewN q).cell? ⟨b, off + j, none⟩ = some (.int .i64 ((Y.getD j 0 : Nat) : Int))) := Lib.hid fun j q hj => by show w.cell? _ = _; rw [hcell j hj, intsN_at hj]
  have AG : Hid (∀ (x m q : Nat), Calls Try.prog 125 #[v, .int .i64 (i : Int), .int .i64 (x : Int)] (w.drewN q) (fun e w' => e = .returned (.int .i64 ((agM Q i x : Nat) : Int)) ∧ ∃ m, w' = (w.drewN q).drewN m)) := Lib.hid fun x _ q => l06Again_any v Q i x (w.drewN q) (VL.drewN hv q) (by omega) (by omega)
  have HQ := Lib.hid hq
  have HI := Lib.hid hi
  clear hcell hv hq hpos
  go_enter Try.func80, Try.ntmps80
  go_wp2_with fail
  go_loopg [7, 8] Y.length (fun gk m s wr => ∃ p : Nat, 1 ≤ p ∧ p ≤ Y.length ∧ gk + p = Y.length + 1 ∧ s = .int .i64 (p : Int) ∧ m = .int .i64 ((mxI (ltF (Q.drop (i + 1))) Y p : Nat) : Int) ∧ ∃ q, wr = w.drewN q)
  case atStart => exact ⟨1, Nat.le_refl _, h0, by omega, rfl, rfl, 0, rfl⟩
  case round =>
    obtain ⟨p, hp1, hp, hgp, rfl, rfl, q0, rfl⟩ := hrel
    obtain ⟨p0, rfl⟩ : ∃ p0, p = p0 + 1 := ⟨p - 1, by omega⟩
    have hmx := mxI_lt (ltF (Q.drop (i + 1))) Y p0
    by_cases hlp : p0 + 1 < Y.length
    · have y1 := HC.out _ q0 hlp
      have y2 := HC.out _ q0 (show mxI (ltF (Q.drop (i + 1))) Y (p0 + 1) < Y.length by omega)
      have UM : Hid (mxI (ltF (Q.drop (i + 1))) Y (p0 + 2) = if ltF (Q.drop (i + 1)) (Y.getD (p0 + 1) 0) (Y.getD (mxI (ltF (Q.drop (i + 1))) Y (p0 + 1)) 0) then p0 + 1 else mxI (ltF (Q.drop (i + 1))) Y (p0 + 1)) := Lib.hid rfl
      have mem : ∀ j, j < Y.length → Y.getD j 0 ∈ Y := fun j hj => by rw [show Y.getD j 0 = Y[j] by simp [List.getD, hj]]; exact List.getElem_mem _
      have LM := Lib.hid (ltF_model hn HI.out (HQ.out _ (mem _ hlp)) (HQ.out _ (mem _ (show mxI (ltF (Q.drop (i + 1))) Y (p0 + 1) < Y.length by omega))))
      clear mem
      have Y2 : Hid (∀ q, (w.drewN q).cell? ⟨b, off + mxI (ltF (Q.drop (i + 1))) Y (p0 + 1), none⟩ = some (.int .i64 ((Y.getD (mxI (ltF (Q.drop (i + 1))) Y (p0 + 1)) 0 : Nat) : Int))) := Lib.hid fun q => HC.out _ q (by omega)
      have Y1 : Hid (∀ q, (w.drewN q).cell? ⟨b, off + (p0 + 1), none⟩ = some (.int .i64 ((Y.getD (p0 + 1) 0 : Nat) : Int))) := Lib.hid fun q => HC.out _ q hlp
      generalize Y.getD (mxI (ltF (Q.drop (i + 1))) Y (p0 + 1)) 0 = jm at y2 UM LM Y2
      generalize Y.getD (p0 + 1) 0 = jp at y1 UM LM Y1
      generalize mxI (ltF (Q.drop (i + 1))) Y (p0 + 1) = M at *
      generalize hp9 : p0 + 1 = p9 at *
      have y1' := fun q => Y1.out q
      have y2' := fun q => Y2.out q
      by_cases h1 : agM Q i jm < agM Q i jp
      · have i1 : ((agM Q i jm : Nat) : Int) < ((agM Q i jp : Nat) : Int) := by omega
        have HLT : Hid (ltF (Q.drop (i + 1)) jp jm = true) := Lib.hid (by rw [← LM.out, decide_eq_true (show agM Q i jp > agM Q i jm from h1)]; rfl)
        go_wp2_with fail
        go_at_call 125; refine (AG.out jp 0 _).mono ?_; rintro e w1 ⟨rfl, q1, rfl⟩
        rw [World.drewN_drewN]
        go_wp2_with fail
        go_at_call 125; refine (AG.out jm 0 _).mono ?_; rintro e w2 ⟨rfl, q2, rfl⟩
        rw [World.drewN_drewN]
        go_wp2_with fail
        go_quiet (fail)
        go_wp2_with fail
        go_roundg (gk - 1)
        case measure => omega
        case rel => exact ⟨p9 + 1, by omega, by omega, by omega, by go_num, by rw [show p9 + 1 = p0 + 2 by omega, UM.out, HLT.out]; rfl, _, rfl⟩
      · have i1 : ¬ ((agM Q i jm : Nat) : Int) < ((agM Q i jp : Nat) : Int) := by omega
        by_cases h2 : agM Q i jp = agM Q i jm
        · have i2 : (((agM Q i jp : Nat) : Int) == ((agM Q i jm : Nat) : Int)) = true := by simp; omega
          by_cases h3 : jp < jm
          · have i3 : ((jp : Nat) : Int) < ((jm : Nat) : Int) := by omega
            have HLT : Hid (ltF (Q.drop (i + 1)) jp jm = true) := Lib.hid (by rw [← LM.out, decide_eq_true h2, decide_eq_true h3]; simp)
            go_wp2_with fail
            go_at_call 125; refine (AG.out jp 0 _).mono ?_; rintro e w1 ⟨rfl, q1, rfl⟩
            rw [World.drewN_drewN]
            go_wp2_with fail
            go_at_call 125; refine (AG.out jm 0 _).mono ?_; rintro e w2 ⟨rfl, q2, rfl⟩
            rw [World.drewN_drewN]
            go_wp2_with fail
            go_quiet (fail)
            go_wp2_with fail
            go_roundg (gk - 1)
            case measure => omega
            case rel => exact ⟨p9 + 1, by omega, by omega, by omega, by go_num, by rw [show p9 + 1 = p0 + 2 by omega, UM.out, HLT.out]; rfl, _, rfl⟩
          · have i3 : ¬ ((jp : Nat) : Int) < ((jm : Nat) : Int) := by omega
            have HLT : Hid (ltF (Q.drop (i + 1)) jp jm = false) := Lib.hid (by rw [← LM.out, decide_eq_false (show ¬ agM Q i jp > agM Q i jm from h1), decide_eq_false h3]; simp)
            go_wp2_with fail
            go_at_call 125; refine (AG.out jp 0 _).mono ?_; rintro e w1 ⟨rfl, q1, rfl⟩
            rw [World.drewN_drewN]
            go_wp2_with fail
            go_at_call 125; refine (AG.out jm 0 _).mono ?_; rintro e w2 ⟨rfl, q2, rfl⟩
            rw [World.drewN_drewN]
            go_wp2_with fail
            go_quiet (fail)
            go_wp2_with fail
            go_roundg (gk - 1)
            case measure => omega
            case rel => exact ⟨p9 + 1, by omega, by omega, by omega, by go_num, by rw [show p9 + 1 = p0 + 2 by omega, UM.out, HLT.out]; rfl, _, rfl⟩
        · have i2 : (((agM Q i jp : Nat) : Int) == ((agM Q i jm : Nat) : Int)) = false := by simp; omega
          have i4 : (agM Q i jp == agM Q i jm) = false := by simpa using h2
          have HLT : Hid (ltF (Q.drop (i + 1)) jp jm = false) := Lib.hid (by rw [← LM.out, decide_eq_false (show ¬ agM Q i jp > agM Q i jm from h1), decide_eq_false h2]; rfl)
          go_wp2_with fail
          go_at_call 125; refine (AG.out jp 0 _).mono ?_; rintro e w1 ⟨rfl, q1, rfl⟩
          rw [World.drewN_drewN]
          go_wp2_with fail
          go_at_call 125; refine (AG.out jm 0 _).mono ?_; rintro e w2 ⟨rfl, q2, rfl⟩
          rw [World.drewN_drewN]
          go_wp2_with fail
          go_quiet (fail)
          go_wp2_with fail
          go_roundg (gk - 1)
          case measure => omega
          case rel => exact ⟨p9 + 1, by omega, by omega, by omega, by go_num, by rw [show p9 + 1 = p0 + 2 by omega, UM.out, HLT.out]; rfl, _, rfl⟩
    · have hpl : p0 + 1 = Y.length := by omega
      rw [hpl]
      clear hmx
      go_wp2_with fail
      go_ret
      exact ⟨rfl, _, rfl⟩
end Go.Proofs.Ytiobbclciboggaa
