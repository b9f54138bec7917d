/- A clause is a part of another one: both sides. -/
import Derived.Test.YtnakpfbeeekmiaaTh0
import Derived.Test.YtnakpfbeeekmiaaIxTh
namespace Go.Proofs.Ytnakpfbeeekmiaa
open Go.RowKit Go.ChangeShapes Go.WideShapes
set_option maxRecDepth 100000

theorem partB_any (P Q : List Int) : partB P Q = !anyZ (fun x => !inS Q x) P := by
  unfold partB anyZ
  rw [Bool.eq_iff_iff, Bool.not_eq_true', List.all_eq_true, List.any_eq_false]
  constructor
  · intro h i hi
    show ¬ (!inS Q (P.getD i 0)) = true
    rw [h i hi]; simp
  · intro h i hi
    have := h i hi
    simpa using this
theorem thCl_any (B : Nat) (x : Int) (u : Value) (Q : List Int) (w : World) (hc : w.cell? ⟨B, 0, none⟩ = some u) (hu : IL w u Q) (hQ : Q.length ≤ 1048576) :
    Calls Try.prog 128 #[.int .i64 x, .pointer (some ⟨B, 0, none⟩)] w (Says (!inS Q x) w) := by
  have HU := Lib.hid hu
  clear hu
  go_enter Try.func128, Try.ntmps128
  go_wp2_with fail
  go_at_call 71; refine (contains_any _ Q x _ HU.out hQ).mono ?_; rintro e w4 ⟨rfl, rfl⟩
  go_wp2_with fail
  go_ret
  exact says rfl (Below.refl _ _)
set_option maxHeartbeats 2000000 in
theorem isPart_any (v u : Value) (P Q : List Int) (w : World) (hv : IL w v P) (hu : IL w u Q) (hP : P.length ≤ 1048576) (hQ : Q.length ≤ 1048576) :
    Calls Try.prog 107 #[v, u] w (Says (partB P Q) w) := by
  have HB1 : Hid (∀ A, Below w.heap.size w (w.alloc A)) := Lib.hid fun A => below_alloc w A
  have HV : Hid (∀ W, Below w.heap.size w W → IL W v P) := Lib.hid fun W b => hv.below b (Nat.le_refl _)
  have HU : Hid (∀ W, Below w.heap.size w W → IL W u Q) := Lib.hid fun W b => hu.below b (Nat.le_refl _)
  have c0 := World.cell?_alloc_new w #[u] 25 0
  have HC0 := Lib.hid c0
  have CT := Lib.hid (ctTh_any (fun x => !inS Q x) w.heap.size v P (w.alloc (.cells #[u] 25)) (HV.out _ (HB1.out _)) hP (fun k w' _ hb => thCl_any w.heap.size (P.getD k 0) u Q w' ((hb.cell (p := ⟨w.heap.size, 0, none⟩) (by simp)).trans HC0.out) (HU.out _ ((HB1.out _).trans (hb.mono (HB1.out _).size))) hQ))
  have HE := Lib.hid (partB_any P Q)
  obtain ⟨va, vc, rfl⟩ := hv.long
  obtain ⟨ua, uc, rfl⟩ := hu.long
  generalize anyZ (fun x => !inS Q x) P = r at CT HE
  clear hv hu c0
  go_enter Try.func107, Try.ntmps107
  go_wp2_with fail
  go_at_call 72; refine CT.out.mono ?_; rintro e w6 ⟨rfl, b6⟩
  have B6 := Lib.hid ((HB1.out _).trans (b6.mono (HB1.out _).size))
  clear b6
  go_wp2_with fail
  go_ret
  exact says HE.out.symm B6.out
set_option maxHeartbeats 2000000 in
theorem l05Part_any (v u : Value) (P Q : List Int) (w : World) (hv : IL w v P) (hu : IL w u Q) (hP : P.length ≤ 1048576) (hQ : Q.length ≤ 1048576) :
    Calls Try.prog 74 #[v, u] w (fun e w' => e = .returned (.bool (partB P Q)) ∧ w = w') := by
  have HU := Lib.hid hu
  have HC : Hid (∀ k, k < P.length → ∃ b off cap, v = .slice (some ⟨b, off, none⟩) P.length (P.length + cap) ∧ w.cell? ⟨b, off + k, none⟩ = some (.int .i64 (P.getD k 0))) := Lib.hid fun k hlt => by
    rcases hv with ⟨hz, -⟩ | ⟨b, off, cap, e, hpos, hbl, hcell⟩
    · rw [hz] at hlt; simp at hlt
    · exact ⟨b, off, cap, e, hcell k hlt⟩
  obtain ⟨va, vc, rfl⟩ := hv.long
  clear hv hu
  go_enter Try.func74, Try.ntmps74
  go_wp2_with fail
  go_loopg [8] P.length (fun gk i wr => ∃ k : Nat, k ≤ P.length ∧ gk + k = P.length ∧ i = .int .i64 k ∧ (∀ j, j < k → inS Q (P.getD j 0) = true) ∧ w = wr)
  case atStart => exact ⟨0, Nat.zero_le _, by omega, rfl, fun j hj => by omega, rfl⟩
  case round =>
    obtain ⟨k, hkl, hgk, rfl, hj, rfl⟩ := hrel
    have HJ := Lib.hid hj
    clear hj
    by_cases hlt : k < P.length
    · obtain ⟨b, off, cap, e, ck⟩ := HC.out k hlt
      injection e with e1 _ e3
      subst e1
      have HN := Lib.hid (@partB_no P Q k hlt)
      obtain ⟨x, hxx⟩ : ∃ x, P.getD k 0 = x := ⟨_, rfl⟩
      have HX := Lib.hid hxx
      rw [hxx] at ck HN
      clear e3 hxx
      cases p : inS Q x with
      | true =>
        have HP := Lib.hid p
        have HJ2 : Hid (∀ j, j < k + 1 → inS Q (P.getD j 0) = true) := Lib.hid fun j hj => by
          by_cases e : j = k
          · subst e; rw [HX.out]; exact HP.out
          · exact HJ.out j (by omega)
        clear p HN
        go_wp2_with fail
        go_at_call 69; refine (l00Has_any _ Q x _ HU.out hQ).mono ?_; rintro e w' ⟨rfl, rfl⟩
        rw [HP.out]
        go_wp2_with fail
        go_roundg (gk - 1)
        case measure => omega
        case rel => exact ⟨k + 1, by omega, by omega, by go_num, HJ2.out, rfl⟩
      | false =>
        have HP := Lib.hid p
        have HE := Lib.hid (HN.out p)
        clear p HN
        go_wp2_with fail
        go_at_call 69; refine (l00Has_any _ Q x _ HU.out hQ).mono ?_; rintro e w' ⟨rfl, rfl⟩
        rw [HP.out]
        go_wp2_with fail
        go_ret
        exact ⟨ret_bool HE.out.symm, rfl⟩
    · obtain rfl : k = P.length := by omega
      have HE := Lib.hid (partB_yes HJ.out)
      go_wp2_with fail
      go_ret
      exact ⟨ret_bool HE.out.symm, rfl⟩
end Go.Proofs.Ytnakpfbeeekmiaa
