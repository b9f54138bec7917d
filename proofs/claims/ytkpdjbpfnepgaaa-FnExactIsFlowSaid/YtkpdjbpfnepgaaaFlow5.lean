/- What a flow is: the program's side. -/
import Derived.Test.YtkpdjbpfnepgaaaFlow4
namespace Go.Proofs.Ytkpdjbpfnepgaaa
open Go.RowKit Go.ChangeShapes Go.WideShapes

/-- The three tests of areEnds, behind valid nets. -/
theorem areEnds_is (v : Value) (N : Nt) (a b : Int) (w : World) (hv : NV w v N) (oN : OKN N) (t1 t2 t3 t4 : Bool) (e1 : okN N = t1) (e2 : (decide (0 ≤ a) && decide (a ≤ N.nodes - 1)) = t2) (e3 : (decide (0 ≤ b) && decide (b ≤ N.nodes - 1)) = t3) (e4 : (a == b) = t4) :
    Calls Try.prog 63 #[v, .int .i64 a, .int .i64 b] w (Says (t1 && (t2 && (t3 && !t4))) w) := by
  have HB := Lib.hid (below_alloc w)
  have HV := Lib.hid hv
  have T1 := Lib.hid e1
  have T2 := Lib.hid e2
  have T3 := Lib.hid e3
  have q4 := ne_of e4
  obtain ⟨s1, rfl, r1⟩ := hv
  have X0 := Lib.hid (show NBox w _ N s1 from ⟨Box2.mk' w (.int .i64 N.nodes) s1 29, HB.out _⟩)
  clear r1 e1 e2 e3 e4
  cases t1 with
  | false =>
    go_enter Try.func63, Try.ntmps63
    go_wp2_with fail
    go_at_call 18; refine (implValidNet_is false _ N _ (HV.out.below (HB.out _) (Nat.le_refl _)) oN T1.out).mono ?_; rintro e w1 ⟨rfl, bb⟩
    have X1 := Lib.hid (X0.out.next bb)
    clear bb
    go_wp2_with fail
    go_ret
    exact says rfl X1.out.below
  | true =>
    have n1 := (okN_ok T1.out).n1
    have n2 := (okN_ok T1.out).n2
    cases t2 with
    | false =>
      go_enter Try.func63, Try.ntmps63
      go_wp2_with fail
      go_at_call 18; refine (implValidNet_is true _ N _ (HV.out.below (HB.out _) (Nat.le_refl _)) oN T1.out).mono ?_; rintro e w1 ⟨rfl, bb⟩
      have X1 := Lib.hid (X0.out.next bb)
      have l1 := X1.out.box.lt
      obtain ⟨d0, d1⟩ := X1.out.box
      clear bb
      go_wp2_with fail
      go_at_call 54; refine (isIndex_is false N.nodes a _ (by omega) (by omega) T2.out).mono ?_; rintro e w2 ⟨rfl, m2, rfl⟩
      go_wp2_with fail
      go_ret
      exact says rfl (below_drewN X1.out.below _)
    | true =>
      cases t3 with
      | false =>
        go_enter Try.func63, Try.ntmps63
        go_wp2_with fail
        go_at_call 18; refine (implValidNet_is true _ N _ (HV.out.below (HB.out _) (Nat.le_refl _)) oN T1.out).mono ?_; rintro e w1 ⟨rfl, bb⟩
        have X1 := Lib.hid (X0.out.next bb)
        have l1 := X1.out.box.lt
        obtain ⟨d0, d1⟩ := X1.out.box
        clear bb
        go_wp2_with fail
        go_at_call 54; refine (isIndex_is true N.nodes a _ (by omega) (by omega) T2.out).mono ?_; rintro e w2 ⟨rfl, m2, rfl⟩
        go_wp2_with fail
        go_at_call 54; refine (isIndex_is false N.nodes b _ (by omega) (by omega) T3.out).mono ?_; rintro e w2 ⟨rfl, m3, rfl⟩
        go_wp2_with fail
        go_ret
        exact says rfl (below_drewN X1.out.below _)
      | true =>
        go_enter Try.func63, Try.ntmps63
        go_wp2_with fail
        go_at_call 18; refine (implValidNet_is true _ N _ (HV.out.below (HB.out _) (Nat.le_refl _)) oN T1.out).mono ?_; rintro e w1 ⟨rfl, bb⟩
        have X1 := Lib.hid (X0.out.next bb)
        have l1 := X1.out.box.lt
        obtain ⟨d0, d1⟩ := X1.out.box
        clear bb
        go_wp2_with fail
        go_at_call 54; refine (isIndex_is true N.nodes a _ (by omega) (by omega) T2.out).mono ?_; rintro e w2 ⟨rfl, m2, rfl⟩
        go_wp2_with fail
        go_at_call 54; refine (isIndex_is true N.nodes b _ (by omega) (by omega) T3.out).mono ?_; rintro e w2 ⟨rfl, m3, rfl⟩
        go_wp2_with fail
        go_ret
        exact says rfl (below_drewN X1.out.below _)
theorem areEnds_of (t : Bool) (v : Value) (N : Nt) (a b : Int) (w : World) (hv : NV w v N) (oN : OKN N) (e : (okN N && (nodeB N a && (nodeB N b && !(a == b)))) = t) :
    Calls Try.prog 63 #[v, .int .i64 a, .int .i64 b] w (Says t w) := by
  subst e
  exact areEnds_is v N a b w hv oN _ _ _ _ rfl rfl rfl rfl
theorem ends_split (N : Nt) (F : List Int) (a b : Int) : (flowB N F && (nodeB N a && (nodeB N b && !(a == b)))) = ((okN N && (nodeB N a && (nodeB N b && !(a == b)))) && flowB N F) := by
  unfold flowB
  cases okN N <;> cases nodeB N a <;> cases nodeB N b <;> cases (a == b) <;> simp

set_option maxHeartbeats 4000000 in
theorem implIsFlow_yes (v : Value) (N : Nt) (u : Value) (F : List Int) (a b : Int) (w : World) (hv : NV w v N) (hu : IL w u F) (oN : OKN N) (h1 : (okN N && (nodeB N a && (nodeB N b && !(a == b)))) = true) (h2 : flowB N F = true) :
    Calls Try.prog 32 #[v, u, .int .i64 a, .int .i64 b] w (Says (isFlowB N F a b) w) := by
  have HB := Lib.hid (below_alloc w)
  have HV := Lib.hid hv
  have HU := Lib.hid hu
  have H1 := Lib.hid h1
  have H2 := Lib.hid h2
  have TT : Hid ((flowB N F && (nodeB N a && (nodeB N b && !(a == b)))) = true) := Lib.hid (by rw [ends_split, h1, h2]; rfl)
  have HF := Lib.hid (flowB_ok h2)
  have n1 := HF.out.n.n1
  have n2 := HF.out.n.n2
  obtain ⟨s1, rfl, r1⟩ := hv
  have X0 := Lib.hid (show NBox w _ N s1 from ⟨Box2.mk' w (.int .i64 N.nodes) s1 29, HB.out _⟩)
  clear r1 hu h1 h2
  go_enter Try.func32, Try.ntmps32
  go_wp2_with fail
  go_at_call 63; refine (areEnds_of true _ N a b _ (HV.out.below (HB.out _) (Nat.le_refl _)) oN H1.out).mono ?_; rintro e w1 ⟨rfl, bb⟩
  have X1 := Lib.hid (X0.out.next bb)
  have l1 := X1.out.box.lt
  obtain ⟨d0, d1⟩ := X1.out.box
  clear bb X0
  go_wp2_with fail
  clear d0 d1 l1
  go_at_call 64; refine (fits_is true _ N _ F _ (HV.out.below X1.out.below (Nat.le_refl _)) (HU.out.below X1.out.below (Nat.le_refl _)) oN H2.out).mono ?_; rintro e w2 ⟨rfl, bb⟩
  have X2 := Lib.hid (X1.out.next bb)
  have l1 := X2.out.box.lt
  obtain ⟨d0, d1⟩ := X2.out.box
  clear bb X1
  go_wp2_with fail
  clear d0 d1 l1
  go_loopg [23] N.nodes.toNat (fun gk i wr => ∃ k : Nat, k ≤ N.nodes.toNat ∧ gk + k = N.nodes.toNat ∧ i = .int .i64 k ∧ (∀ j, j < k → keptB N F a b j = true) ∧ NBox w wr N s1)
  case atStart => exact ⟨0, Nat.zero_le _, by omega, rfl, fun j hj => by omega, X2.out⟩
  case round =>
    clear X2
    obtain ⟨k, hk, hgk, rfl, hall, hx⟩ := hrel
    have HL := Lib.hid hall
    have HX := Lib.hid hx
    have l1 := hx.box.lt
    obtain ⟨d0, d1⟩ := hx.box
    clear hx hall
    by_cases hlt : k < N.nodes.toNat
    · have hlt2 : (k : Int) < N.nodes := by omega
      obtain ⟨k1, k2, k3, tk⟩ := keptT N F a b k
      have KK := Lib.hid tk
      clear tk
      cases k1 with
      | true =>
        have q1 := ne_of KK.out.e1
        rw [Bool.not_true] at q1
        go_wp2_with fail
        go_roundg (gk - 1)
        case measure => omega
        case rel => exact ⟨k + 1, by omega, by omega, by go_num, fun j hj => by
          by_cases e : j = k
          · subst e; rw [KK.out.is]; rfl
          · exact HL.out j (by omega), HX.out⟩
      | false =>
        have q1 := ne_of KK.out.e1
        rw [Bool.not_false] at q1
        cases k2 with
        | true =>
          have q2 := ne_of KK.out.e2
          rw [Bool.not_true] at q2
          go_wp2_with fail
          go_roundg (gk - 1)
          case measure => omega
          case rel => exact ⟨k + 1, by omega, by omega, by go_num, fun j hj => by
            by_cases e : j = k
            · subst e; rw [KK.out.is]; rfl
            · exact HL.out j (by omega), HX.out⟩
        | false =>
          have q2 := ne_of KK.out.e2
          rw [Bool.not_false] at q2
          cases k3 with
          | true =>
            have q3 := ne_of KK.out.e3
            rw [Bool.not_true] at q3
            go_wp2_with fail
            clear d0 d1 l1
            go_at_call 65; refine (amountOut_any _ N _ F k _ (HV.out.below HX.out.below (Nat.le_refl _)) (HU.out.below HX.out.below (Nat.le_refl _)) HF.out).mono ?_; rintro e w5 ⟨rfl, bb⟩
            have HN := Lib.hid (HX.out.next bb)
            clear bb
            go_wp2_with fail
            go_roundg (gk - 1)
            case measure => omega
            case rel => exact ⟨k + 1, by omega, by omega, by go_num, fun j hj => by
              by_cases e : j = k
              · subst e; rw [KK.out.is]; rfl
              · exact HL.out j (by omega), HN.out⟩
          | false =>
            have q3 := ne_of KK.out.e3
            rw [Bool.not_false] at q3
            go_wp2_with fail
            clear d0 d1 l1
            go_at_call 65; refine (amountOut_any _ N _ F k _ (HV.out.below HX.out.below (Nat.le_refl _)) (HU.out.below HX.out.below (Nat.le_refl _)) HF.out).mono ?_; rintro e w5 ⟨rfl, bb⟩
            have HN := Lib.hid (HX.out.next bb)
            clear bb
            go_wp2_with fail
            go_ret
            exact says (isFlow_no2 hlt (by rw [KK.out.is]; rfl)).symm HN.out.below
    · obtain rfl : k = N.nodes.toNat := by omega
      have hge : decide (((N.nodes.toNat : Nat) : Int) < N.nodes) = false := by simp; omega
      go_wp2_with fail
      go_ret
      exact says (isFlow_yes TT.out HL.out).symm HX.out.below
theorem implIsFlow_any (v : Value) (N : Nt) (u : Value) (F : List Int) (a b : Int) (w : World) (hv : NV w v N) (hu : IL w u F) (oN : OKN N) (_oF : OKI F) (_oa : -9223372036854775808 ≤ a ∧ a ≤ 9223372036854775807) (_ob : -9223372036854775808 ≤ b ∧ b ≤ 9223372036854775807) :
    Calls Try.prog 32 #[v, u, .int .i64 a, .int .i64 b] w (Says (isFlowB N F a b) w) := by
  cases h1 : (okN N && (nodeB N a && (nodeB N b && !(a == b)))) with
  | false =>
    rw [isFlow_no1 (by rw [ends_split, h1]; rfl)]
    have HB := Lib.hid (below_alloc w)
    have HV := Lib.hid hv
    have H1 := Lib.hid h1
    obtain ⟨s1, rfl, r1⟩ := hv
    clear r1 h1 hu
    go_enter Try.func32, Try.ntmps32
    go_wp2_with fail
    go_at_call 63; refine (areEnds_of false _ N a b _ (HV.out.below (HB.out _) (Nat.le_refl _)) oN H1.out).mono ?_; rintro e w1 ⟨rfl, bb⟩
    have H1 := Lib.hid ((HB.out _).trans (bb.mono (by simp)))
    clear bb
    go_wp2_with fail
    go_ret
    exact says rfl H1.out
  | true =>
    cases h2 : flowB N F with
    | true => exact implIsFlow_yes v N u F a b w hv hu oN h1 h2
    | false =>
      rw [isFlow_no1 (by rw [ends_split, h2, Bool.and_false])]
      have HB := Lib.hid (below_alloc w)
      have HV := Lib.hid hv
      have HU := Lib.hid hu
      have H1 := Lib.hid h1
      have H2 := Lib.hid h2
      obtain ⟨s1, rfl, r1⟩ := hv
      have X0 := Lib.hid (show NBox w _ N s1 from ⟨Box2.mk' w (.int .i64 N.nodes) s1 29, HB.out _⟩)
      clear r1 h1 h2 hu
      go_enter Try.func32, Try.ntmps32
      go_wp2_with fail
      go_at_call 63; refine (areEnds_of true _ N a b _ (HV.out.below (HB.out _) (Nat.le_refl _)) oN H1.out).mono ?_; rintro e w1 ⟨rfl, bb⟩
      have X1 := Lib.hid (X0.out.next bb)
      have l1 := X1.out.box.lt
      obtain ⟨d0, d1⟩ := X1.out.box
      clear bb X0
      go_wp2_with fail
      clear d0 d1 l1
      go_at_call 64; refine (fits_is false _ N _ F _ (HV.out.below X1.out.below (Nat.le_refl _)) (HU.out.below X1.out.below (Nat.le_refl _)) oN H2.out).mono ?_; rintro e w2 ⟨rfl, bb⟩
      have X2 := Lib.hid (X1.out.next bb)
      clear bb X1
      go_wp2_with fail
      go_ret
      exact says rfl X2.out.below
end Go.Proofs.Ytkpdjbpfnepgaaa
