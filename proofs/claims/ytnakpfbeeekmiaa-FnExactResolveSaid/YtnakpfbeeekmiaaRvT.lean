/- What two clauses tell without a letter: the model, for all arguments. -/
import Derived.Test.YtnakpfbeeekmiaaRvS
namespace Go.Proofs.Ytnakpfbeeekmiaa
open Go.RowKit Go.ChangeShapes Go.WideShapes
set_option maxRecDepth 100000

theorem rs_no {n : Int} {A B : List Int} {x : Int} (h : (clB n A && (clB n B && inB x 1 n)) = false) : rsO n A B x = none := by
  unfold rsO
  have : (clB n A && (clB n B && (inB x 1 n && cres A B x))) = false := by
    cases h1 : clB n A with
    | false => rfl
    | true =>
      cases h2 : clB n B with
      | false => rfl
      | true => rw [h1, h2, Bool.true_and, Bool.true_and] at h; rw [h]; rfl
  rw [this]; rfl
theorem rs_yes {n : Int} {A B : List Int} {x : Int} (h1 : clB n A = true) (h2 : clB n B = true) (h3 : inB x 1 n = true) : rsO n A B x = bif cres A B x then joins x (butL x A) B else none := by
  unfold rsO; rw [h1, h2, h3]; rfl
theorem cl_rng {n : Int} {c : List Int} (h : ClOk n c) : ∀ i, i < c.length → -1000 ≤ c.getD i 0 ∧ c.getD i 0 ≤ 1000 := fun i hi => by
  have h1 := h.a i hi
  have h2 := h.n2
  unfold ltr at h1
  split at h1 <;> omega
set_option maxHeartbeats 4000000 in
theorem specResolve_any (n : Int) (v : Value) (A : List Int) (u : Value) (B : List Int) (x : Int) (w : World) (hv : IL w v A) (hu : IL w u B) (_ : -9223372036854775808 ≤ n ∧ n ≤ 9223372036854775807) (oA : OKI A) (oB : OKI B) (_ : -9223372036854775808 ≤ x ∧ x ≤ 9223372036854775807) :
    Calls Try.prog 41 #[.int .i64 n, v, u, .int .i64 x] w (SaysJB (rsF n A B x) (rsB n A B x) w) := by
  have HV : Hid (∀ W, Below w.heap.size w W → IL W v A) := Lib.hid fun W b => hv.below b (Nat.le_refl _)
  have HU : Hid (∀ W, Below w.heap.size w W → IL W u B) := Lib.hid fun W b => hu.below b (Nat.le_refl _)
  have nA := oA.size
  have nB := oB.size
  have C1 := Lib.hid fun W (hb : Below w.heap.size w W) => l05Clause_any n v A W (HV.out W hb) nA
  have C2 := Lib.hid fun W (hb : Below w.heap.size w W) => l05Clause_any n u B W (HU.out W hb) nB
  obtain ⟨ao, ac, rfl⟩ := hv.long
  obtain ⟨bo, bc, rfl⟩ := hu.long
  clear hv hu
  cases h1 : clB n A with
  | false =>
    have HE : Hid (rsO n A B x = none) := Lib.hid (rs_no (by rw [h1]; rfl))
    unfold rsF rsB
    rw [HE.out]
    rw [h1] at C1
    clear h1
    go_enter Try.func41, Try.ntmps41
    go_wp2_with fail
    go_at_call 54; refine (C1.out _ (Below.refl _ _)).mono ?_; rintro e w4 ⟨rfl, b4⟩
    go_wp2_with fail
    go_ret2
    exact jb_none b4
  | true =>
    have H1 := Lib.hid h1
    rw [h1] at C1
    cases h2 : clB n B with
    | false =>
      have HE : Hid (rsO n A B x = none) := Lib.hid (rs_no (by rw [h1, h2]; rfl))
      unfold rsF rsB
      rw [HE.out]
      rw [h2] at C2
      clear h1 h2
      go_enter Try.func41, Try.ntmps41
      go_wp2_with fail
      go_at_call 54; refine (C1.out _ (Below.refl _ _)).mono ?_; rintro e w4 ⟨rfl, b4⟩
      have B4 := Lib.hid b4
      clear b4
      go_wp2_with fail
      go_at_call 54; refine (C2.out _ B4.out).mono ?_; rintro e w5 ⟨rfl, b5⟩
      have B5 := Lib.hid (B4.out.trans (b5.mono B4.out.size))
      clear b5
      go_wp2_with fail
      go_ret2
      exact jb_none B5.out
    | true =>
      have H2 := Lib.hid h2
      rw [h2] at C2
      cases h3 : inB x 1 n with
      | false =>
        have HE : Hid (rsO n A B x = none) := Lib.hid (rs_no (by rw [h1, h2, h3]; rfl))
        unfold rsF rsB
        rw [HE.out]
        have H3 := Lib.hid h3
        clear h1 h2 h3
        go_enter Try.func41, Try.ntmps41
        go_wp2_with fail
        go_at_call 54; refine (C1.out _ (Below.refl _ _)).mono ?_; rintro e w4 ⟨rfl, b4⟩
        have B4 := Lib.hid b4
        clear b4
        go_wp2_with fail
        go_at_call 54; refine (C2.out _ B4.out).mono ?_; rintro e w5 ⟨rfl, b5⟩
        have B5 := Lib.hid (B4.out.trans (b5.mono B4.out.size))
        clear b5
        go_wp2_with fail
        go_at_call 78; refine (l00In_is false x 1 n _ H3.out).mono ?_; rintro e w6 ⟨rfl, m, rfl⟩
        go_wp2_with fail
        go_ret2
        exact jb_none (below_drewN B5.out _)
      | true =>
        have HE : Hid (rsO n A B x = resO A B x) := Lib.hid (by rw [rs_yes h1 h2 h3]; rfl)
        unfold rsF rsB
        rw [HE.out]
        have H3 := Lib.hid h3
        have hA := clB_ok h1
        have hB := clB_ok h2
        have a1 := hA.len
        have a2 := hB.len
        have a3 := hA.n2
        have hx := inB_ok h3
        have RV := Lib.hid fun W (hb : Below w.heap.size w W) => l05Resolve_any _ A _ B x W (HV.out W hb) (HU.out W hb) (by omega) (by omega) (cl_rng hA) (cl_rng hB) (by omega)
        generalize resO A B x = r at RV
        clear h1 h2 h3 hA hB a1 a2 a3 hx HE
        go_enter Try.func41, Try.ntmps41
        go_wp2_with fail
        go_at_call 54; refine (C1.out _ (Below.refl _ _)).mono ?_; rintro e w4 ⟨rfl, b4⟩
        have B4 := Lib.hid b4
        clear b4
        go_wp2_with fail
        go_at_call 54; refine (C2.out _ B4.out).mono ?_; rintro e w5 ⟨rfl, b5⟩
        have B5 := Lib.hid (B4.out.trans (b5.mono B4.out.size))
        clear b5
        go_wp2_with fail
        go_at_call 78; refine (l00In_is true x 1 n _ H3.out).mono ?_; rintro e w6 ⟨rfl, m, rfl⟩
        have B6 := Lib.hid (below_drewN B5.out m)
        go_wp2_with fail
        go_at_call 84; refine (RV.out _ B6.out).mono ?_; rintro e w7 ⟨v7, rfl, i7, b7⟩
        have I7 := Lib.hid (SI.wide i7 B6.out.size (Nat.le_refl _) (Nat.le_refl _))
        have B7 := Lib.hid (B6.out.trans (b7.mono B6.out.size))
        clear i7 b7
        go_wp2_with fail
        go_ret2
        exact ⟨_, rfl, I7.out, B7.out⟩
end Go.Proofs.Ytnakpfbeeekmiaa
