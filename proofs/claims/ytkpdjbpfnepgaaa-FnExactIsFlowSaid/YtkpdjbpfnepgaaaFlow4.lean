/- What a flow is: both sides. -/
import Derived.Test.YtkpdjbpfnepgaaaFlow3
namespace Go.Proofs.Ytkpdjbpfnepgaaa
open Go.RowKit Go.ChangeShapes Go.WideShapes

def keptB (N : Nt) (F : List Int) (a b : Int) (i : Nat) : Bool := ((i : Int) == a) || (((i : Int) == b) || (outF N F i == 0))
def isFlowB (N : Nt) (F : List Int) (a b : Int) : Bool := (flowB N F && (nodeB N a && (nodeB N b && !(a == b)))) && (List.range N.nodes.toNat).all fun i => keptB N F a b i
theorem isFlow_no1 {N : Nt} {F : List Int} {a b : Int} (h : (flowB N F && (nodeB N a && (nodeB N b && !(a == b)))) = false) : isFlowB N F a b = false := by unfold isFlowB; rw [h]; rfl
theorem isFlow_no2 {N : Nt} {F : List Int} {a b : Int} {i : Nat} (hi : i < N.nodes.toNat) (h : keptB N F a b i = false) : isFlowB N F a b = false := by unfold isFlowB; rw [rangeNot hi h]; simp
theorem isFlow_yes {N : Nt} {F : List Int} {a b : Int} (h : (flowB N F && (nodeB N a && (nodeB N b && !(a == b)))) = true) (k : ∀ i, i < N.nodes.toNat → keptB N F a b i = true) : isFlowB N F a b = true := by unfold isFlowB; rw [h, rangeAll k]; rfl
/-- The four tests ahead of the loop. -/
structure EndsT (N : Nt) (F : List Int) (a b : Int) (t1 t2 t3 t4 : Bool) : Prop where
  e1 : flowB N F = t1
  e2 : (decide (0 ≤ a) && decide (a ≤ N.nodes - 1)) = t2
  e3 : (decide (0 ≤ b) && decide (b ≤ N.nodes - 1)) = t3
  e4 : (a == b) = t4
theorem EndsT.is {N : Nt} {F : List Int} {a b : Int} {t1 t2 t3 t4 : Bool} (h : EndsT N F a b t1 t2 t3 t4) : (flowB N F && (nodeB N a && (nodeB N b && !(a == b)))) = (t1 && (t2 && (t3 && !t4))) := by
  obtain ⟨rfl, rfl, rfl, rfl⟩ := h
  rfl
theorem endsT (N : Nt) (F : List Int) (a b : Int) : ∃ t1 t2 t3 t4, EndsT N F a b t1 t2 t3 t4 := ⟨_, _, _, _, rfl, rfl, rfl, rfl⟩
/-- The three tests of a node. -/
structure KeptT (N : Nt) (F : List Int) (a b : Int) (i : Nat) (k1 k2 k3 : Bool) : Prop where
  e1 : ((i : Int) == a) = k1
  e2 : ((i : Int) == b) = k2
  e3 : (outF N F i == 0) = k3
theorem KeptT.is {N : Nt} {F : List Int} {a b : Int} {i : Nat} {k1 k2 k3 : Bool} (h : KeptT N F a b i k1 k2 k3) : keptB N F a b i = (k1 || (k2 || k3)) := by
  obtain ⟨rfl, rfl, rfl⟩ := h
  rfl
theorem keptT (N : Nt) (F : List Int) (a b : Int) (i : Nat) : ∃ k1 k2 k3, KeptT N F a b i k1 k2 k3 := ⟨_, _, _, rfl, rfl, rfl⟩
theorem ne_of {a b : Int} {t : Bool} (h : (a == b) = t) : (a != b) = !t := by rw [← h]; rfl

set_option maxHeartbeats 4000000 in
theorem specIsFlow_no (v : Value) (N : Nt) (u : Value) (F : List Int) (a b : Int) (w : World) (hv : NV w v N) (hu : IL w u F) (oN : OKN N) (t1 t2 t3 t4 : Bool) (T : EndsT N F a b t1 t2 t3 t4) (hno : (t1 && (t2 && (t3 && !t4))) = false) :
    Calls Try.prog 30 #[v, u, .int .i64 a, .int .i64 b] w (Says false w) := by
  have HB := Lib.hid (below_alloc w)
  have hn := oN.size
  obtain ⟨s1, rfl, r1⟩ := hv
  have HP := Lib.hid (NP.box w r1)
  have HU := Lib.hid (fun o => hu.below (HB.out o) (Nat.le_refl _))
  have T1 := Lib.hid T.e1
  have T2 := Lib.hid T.e2
  have T3 := Lib.hid T.e3
  have T4 := Lib.hid T.e4
  clear r1 hu
  cases t1 with
  | false =>
    clear T hno
    go_enter Try.func30, Try.ntmps30
    go_wp2_with (go_at_call 60; refine (l03Flow_is false _ _ N _ F _ HP.out (HU.out _) hn T1.out).mono ?_; rintro e w' ⟨rfl, m, rfl⟩)
    go_ret
    exact says rfl (below_drewN (HB.out _) _)
  | true =>
    have HF := Lib.hid (flowB_ok T1.out)
    have n1 := HF.out.n.n1
    have n2 := HF.out.n.n2
    have d0 := HP.out.c0
    cases t2 with
    | false =>
      clear T hno
      go_enter Try.func30, Try.ntmps30
      go_wp2_with fail
      go_at_call 60; refine (l03Flow_is true _ _ N _ F _ HP.out (HU.out _) hn T1.out).mono ?_; rintro e w' ⟨rfl, m, rfl⟩
      go_wp2_with fail
      go_at_call 61; refine (l00In_is false a 0 (N.nodes - 1) _ T2.out).mono ?_; rintro e w' ⟨rfl, m2, rfl⟩
      go_wp2_with fail
      go_ret
      exact says rfl (below_drewN (HB.out _) _)
    | true =>
      cases t3 with
      | false =>
        clear T hno
        go_enter Try.func30, Try.ntmps30
        go_wp2_with fail
        go_at_call 60; refine (l03Flow_is true _ _ N _ F _ HP.out (HU.out _) hn T1.out).mono ?_; rintro e w' ⟨rfl, m, rfl⟩
        go_wp2_with fail
        go_at_call 61; refine (l00In_is true a 0 (N.nodes - 1) _ T2.out).mono ?_; rintro e w' ⟨rfl, m2, rfl⟩
        go_wp2_with fail
        go_at_call 61; refine (l00In_is false b 0 (N.nodes - 1) _ T3.out).mono ?_; rintro e w' ⟨rfl, m3, rfl⟩
        go_wp2_with fail
        go_ret
        exact says rfl (below_drewN (HB.out _) _)
      | true =>
        cases t4 with
        | false => cases hno
        | true =>
          have t4 := T4.out
          clear T hno
          go_enter Try.func30, Try.ntmps30
          go_wp2_with fail
          go_at_call 60; refine (l03Flow_is true _ _ N _ F _ HP.out (HU.out _) hn T1.out).mono ?_; rintro e w' ⟨rfl, m, rfl⟩
          go_wp2_with fail
          go_at_call 61; refine (l00In_is true a 0 (N.nodes - 1) _ T2.out).mono ?_; rintro e w' ⟨rfl, m2, rfl⟩
          go_wp2_with fail
          go_at_call 61; refine (l00In_is true b 0 (N.nodes - 1) _ T3.out).mono ?_; rintro e w' ⟨rfl, m3, rfl⟩
          go_wp2_with fail
          go_ret
          exact says rfl (below_drewN (HB.out _) _)
theorem NP.of {B : Nat} {w w' : World} {g : Nat} {s1 : Value} {N : Nt} (h : NP w g s1 N) (hb : Below B w w') (hB : w.heap.size ≤ B) (hg : g < B) : NP w' g s1 N := h.keep hb hB hg
set_option maxHeartbeats 4000000 in
theorem specIsFlow_yes (v : Value) (N : Nt) (u : Value) (F : List Int) (a b : Int) (w : World) (hv : NV w v N) (hu : IL w u F) (oN : OKN N) (T : EndsT N F a b true true true false) :
    Calls Try.prog 30 #[v, u, .int .i64 a, .int .i64 b] w (Says (isFlowB N F a b) w) := by
  have HB := Lib.hid (below_alloc w)
  have hn := oN.size
  obtain ⟨s1, rfl, r1⟩ := hv
  have HP := Lib.hid (NP.box w r1)
  have HU := Lib.hid (fun o => hu.below (HB.out o) (Nat.le_refl _))
  have T1 := Lib.hid T.e1
  have T2 := Lib.hid T.e2
  have T3 := Lib.hid T.e3
  have TT := Lib.hid T.is
  have t4 := T.e4
  have HF := Lib.hid (flowB_ok T1.out)
  have n1 := HF.out.n.n1
  have n2 := HF.out.n.n2
  have d0 := HP.out.c0
  clear r1 hu T
  go_enter Try.func30, Try.ntmps30
  go_wp2_with fail
  go_at_call 60; refine (l03Flow_is true _ _ N _ F _ HP.out (HU.out _) hn T1.out).mono ?_; rintro e w' ⟨rfl, m, rfl⟩
  go_wp2_with fail
  go_at_call 61; refine (l00In_is true a 0 (N.nodes - 1) _ T2.out).mono ?_; rintro e w' ⟨rfl, m2, rfl⟩
  go_wp2_with fail
  go_at_call 61; refine (l00In_is true b 0 (N.nodes - 1) _ T3.out).mono ?_; rintro e w' ⟨rfl, m3, rfl⟩
  go_wp2_with fail
  clear d0 t4
  go_loopg [9] N.nodes.toNat (fun gk i wr => ∃ k : Nat, k ≤ N.nodes.toNat ∧ gk + k = N.nodes.toNat ∧ i = .int .i64 k ∧ (∀ j, j < k → keptB N F a b j = true) ∧ NP wr w.heap.size s1 N ∧ IL wr u F ∧ Below w.heap.size w wr)
  case atStart => exact ⟨0, Nat.zero_le _, by omega, rfl, fun j hj => by omega, HP.out.dn _, IL.dn (HU.out _) _, below_drewN (HB.out _) _⟩
  case round =>
    obtain ⟨k, hk, hgk, rfl, hall, hp, hq, hb⟩ := hrel
    have HL := Lib.hid hall
    have HPk := Lib.hid hp
    have HQ := Lib.hid hq
    have HW := Lib.hid hb
    have d0 := hp.c0
    clear hp hq hb hall
    by_cases hlt : k < N.nodes.toNat
    · have hlt2 : (k : Int) < N.nodes := by omega
      obtain ⟨k1, k2, k3, tk⟩ := keptT N F a b k
      have KK := Lib.hid tk
      clear tk
      cases k1 with
      | true =>
        have q1 := ne_of KK.out.e1
        rw [Bool.not_true] at q1
        go_wp2_with fail
        go_roundg (gk - 1)
        case measure => omega
        case rel => exact ⟨k + 1, by omega, by omega, by go_num, fun j hj => by
          by_cases e : j = k
          · subst e; rw [KK.out.is]; rfl
          · exact HL.out j (by omega), HPk.out, HQ.out, HW.out⟩
      | false =>
        have q1 := ne_of KK.out.e1
        rw [Bool.not_false] at q1
        cases k2 with
        | true =>
          have q2 := ne_of KK.out.e2
          rw [Bool.not_true] at q2
          go_wp2_with fail
          go_roundg (gk - 1)
          case measure => omega
          case rel => exact ⟨k + 1, by omega, by omega, by go_num, fun j hj => by
            by_cases e : j = k
            · subst e; rw [KK.out.is]; rfl
            · exact HL.out j (by omega), HPk.out, HQ.out, HW.out⟩
        | false =>
          have q2 := ne_of KK.out.e2
          rw [Bool.not_false] at q2
          cases k3 with
          | true =>
            have q3 := ne_of KK.out.e3
            rw [Bool.not_true] at q3
            go_wp2_with fail
            go_at_call 62; refine (l03Out_any _ _ N _ F k _ HPk.out HQ.out HF.out).mono ?_; rintro e w5 ⟨rfl, rfl⟩
            go_wp2_with fail
            go_roundg (gk - 1)
            case measure => omega
            case rel => exact ⟨k + 1, by omega, by omega, by go_num, fun j hj => by
              by_cases e : j = k
              · subst e; rw [KK.out.is]; rfl
              · exact HL.out j (by omega), HPk.out, HQ.out, HW.out⟩
          | false =>
            have q3 := ne_of KK.out.e3
            rw [Bool.not_false] at q3
            go_wp2_with fail
            go_at_call 62; refine (l03Out_any _ _ N _ F k _ HPk.out HQ.out HF.out).mono ?_; rintro e w5 ⟨rfl, rfl⟩
            go_wp2_with fail
            go_ret
            exact says (isFlow_no2 hlt (by rw [KK.out.is]; rfl)).symm HW.out
    · obtain rfl : k = N.nodes.toNat := by omega
      have hge : decide (((N.nodes.toNat : Nat) : Int) < N.nodes) = false := by simp; omega
      go_wp2_with fail
      go_ret
      exact says (isFlow_yes (by rw [TT.out]; rfl) HL.out).symm HW.out

theorem specIsFlow_any (v : Value) (N : Nt) (u : Value) (F : List Int) (a b : Int) (w : World) (hv : NV w v N) (hu : IL w u F) (oN : OKN N) (_oF : OKI F) (_oa : -9223372036854775808 ≤ a ∧ a ≤ 9223372036854775807) (_ob : -9223372036854775808 ≤ b ∧ b ≤ 9223372036854775807) :
    Calls Try.prog 30 #[v, u, .int .i64 a, .int .i64 b] w (Says (isFlowB N F a b) w) := by
  obtain ⟨t1, t2, t3, t4, T⟩ := endsT N F a b
  cases h : (t1 && (t2 && (t3 && !t4))) with
  | false => rw [isFlow_no1 (by rw [T.is]; exact h)]; exact specIsFlow_no v N u F a b w hv hu oN _ _ _ _ T h
  | true =>
    simp only [Bool.and_eq_true, Bool.not_eq_true'] at h
    obtain ⟨rfl, rfl, rfl, rfl⟩ := h
    exact specIsFlow_yes v N u F a b w hv hu oN T
end Go.Proofs.Ytkpdjbpfnepgaaa
