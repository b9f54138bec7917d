/- Outputs that are counted: the model. -/
import Derived.Test.YtdmlhjhhkiajaaaDoorCoI
import Derived.Deep.QuietTactic
import Derived.BigQuiet
namespace Go.Proofs.YtdmlhjhhkiajaaaDoor
open Go.RowKit Go.ChangeShapes Go.WideShapes

theorem Grows.strs {E B : Nat} {v : Value} {Z : List ByteArray} {w : World} (h : Grows Value.string E B v Z w) (hp : 0 < Z.length) :
    ∃ g cap, v = .slice (some ⟨g, 0, none⟩) Z.length cap ∧ Z.length ≤ cap ∧ cap ≤ maxLen ∧ ∀ i, i < Z.length → w.cell? ⟨g, i, none⟩ = some (.string (Z.getD i (bsOf []))) := by
  have hc := fun g hg => World.ownsRow.cells (g := g) h hg
  obtain ⟨-, ⟨-, h0⟩ | ⟨g, cap, cur, rfl, hB, hg, hn, hm, -, -⟩⟩ := h
  · omega
  · refine ⟨g, cap, rfl, hn, hm, fun i hi => ?_⟩
    have h1 := hc g rfl i (.string (Z.getD i (bsOf []))) (by simp [List.getD, hi])
    rw [Addr.add_lit, Nat.zero_add] at h1
    exact h1
def SaysL8 (s : ByteArray) (w : World) (e : Ending) (w' : World) : Prop := ∃ g M cap, M + 1 = (lnY s).length ∧ e = .returned (.tuple #[.slice (some ⟨g, 0, none⟩) M cap, .string (lstB (lnY s))]) ∧ (∀ i, i < M → w'.cell? ⟨g, i, none⟩ = some (.string ((lnY s).getD i (bsOf [])))) ∧ Below w.heap.size w w'
set_option maxRecDepth 100000 in
set_option maxHeartbeats 2000000 in
theorem l08Lines_any (s : ByteArray) (w : World) (hs : s.size ≤ 1048576) :
    Calls Tryd.prog 70 #[.string s] w (SaysL8 s w) := by
  have CU := Lib.hid (l01Cut_any s 10 w hs)
  have hN := lnY_pos s
  have hMl := lnY_len s
  obtain ⟨M, hM⟩ : ∃ M, M + 1 = (lnY s).length := ⟨(lnY s).length - 1, by omega⟩
  have HM := Lib.hid hM
  have hMb : M ≤ 1048577 := by omega
  have HLS : Hid ((lnY s).getD M (bsOf []) = lstB (lnY s)) := Lib.hid (by unfold lstB; rw [← hM]; rfl)
  have w1 : IntKind.i64.wrap (((M + 1 : Nat) : Int) - 1) = (M : Int) := by rw [IntKind.wrap_i64]; omega
  have w2 : IntKind.i64.wrap ((M : Int) + 1 - 1) = (M : Int) := by rw [IntKind.wrap_i64]; omega
  clear hN hMl hM hs
  go_enter Tryd.func70, Tryd.ntmps70
  go_wp2_with fail
  go_at_call 107; refine CU.out.mono ?_; rintro e w3 ⟨v, rfl, hG, b3⟩
  obtain ⟨g, cap, rfl, hn, hm, hc⟩ := Grows.strs (show Grows Value.string 9 w.heap.size v (lnY s) w3 from hG) (by have := HM.out; omega)
  rw [← HM.out] at hn hc ⊢
  have c1 := hc M (by omega)
  rw [HLS.out] at c1
  have HC := Lib.hid hc
  have B3 := Lib.hid b3
  unfold maxLen at hm
  have i1 : M < M + 1 := by omega
  have i2 : (0 : Int) ≤ (M : Int) := by omega
  have i3 : (M : Int) ≤ (cap : Int) := by omega
  clear hc b3 hG CU
  go_wp2_with fail
  go_quiet (fail)
  go_wp2_with fail
  go_ret2
  exact ⟨g, M, cap, HM.out, rfl, fun i hi => HC.out i (by omega), below_drewN B3.out _⟩
set_option maxRecDepth 100000 in
set_option maxHeartbeats 4000000 in
theorem specCountOutputs_any (s : ByteArray) (w : World) (hs : s.size ≤ 1048576) :
    Calls Tryd.prog 27 #[.string s] w (SaysCo s w) := by
  have LN := Lib.hid (l08Lines_any s w hs)
  by_cases hl : 16000 < s.size
  · have d0 : decide ((s.size : Int) > 16000) = true := by simp; omega
    have hn : coB s = false := by unfold coB; rw [decide_eq_false (by omega)]; rfl
    have E := Lib.hid (coB_no hn)
    have HN := Lib.hid hn
    clear hn
    go_enter Tryd.func27, Tryd.ntmps27
    go_wp2_with fail
    refine bodyPost_ret (v := .tuple #[.int .i64 0, .int .i64 0, .bool false]) (by simp [results, Tryd.results27, go_sem]) rfl ?_
    exact ⟨by rw [E.out.1, E.out.2, HN.out], Below.refl _ _⟩
  · have d0 : decide ((s.size : Int) > 16000) = false := by simp; omega
    have hll := lnY_len s
    obtain ⟨z, hz⟩ : ∃ z, lstB (lnY s) = z := ⟨_, rfl⟩
    unfold SaysL8 at LN
    rw [hz] at LN
    by_cases h0 : z.size = 0
    · have hb : coB s = true := by unfold coB; rw [decide_eq_true (show s.size ≤ 16000 by omega), decide_eq_true (by rw [hz]; exact h0)]; rfl
      have CY := Lib.hid (fun M (hM : M + 1 = (lnY s).length) => coB_yes hb hM)
      have HB := Lib.hid hb
      have ez : z = ⟨#[]⟩ := ByteArray.ext (Array.eq_empty_of_size_eq_zero h0)
      subst ez
      clear hb hz h0
      go_enter Tryd.func27, Tryd.ntmps27
      go_wp2_with fail
      go_at_call 70; refine LN.out.mono ?_; rintro e w2 ⟨g, M, cap, hM, rfl, hc, b2⟩
      have HC := Lib.hid hc
      have B2 := Lib.hid b2
      have HM := Lib.hid hM
      have hMl : M ≤ 16000 := by omega
      have U0 : Hid (badK (lnY s) 0 = 0) := Lib.hid rfl
      clear hc b2 hM LN hll
      go_wp2_with fail
      go_loopg [7, 8] M (fun gk t i wr => ∃ k : Nat, k ≤ M ∧ gk + k = M ∧ i = .int .i64 k ∧ t = .int .i64 ((badK (lnY s) k : Nat) : Int) ∧ w2 = wr)
      case atStart => exact ⟨0, Nat.zero_le _, by omega, rfl, by rw [U0.out]; rfl, rfl⟩
      case round =>
        obtain ⟨k, hk, hgk, rfl, rfl, rfl⟩ := hrel
        have HGK := Lib.hid hgk
        have hbk := badK_le (lnY s) k
        clear hgk U0
        by_cases hlt : k < M
        · have c1 := HC.out k hlt
          have UE : Hid (badK (lnY s) (k + 1) = badK (lnY s) k + (if badB ((lnY s).getD k (bsOf [])) then 1 else 0)) := Lib.hid rfl
          generalize (lnY s).getD k (bsOf []) = x at *
          generalize badK (lnY s) k = t at *
          have wt : IntKind.i64.wrap ((t : Int) + 1) = (t : Int) + 1 := by rw [IntKind.wrap_i64]; omega
          by_cases q1 : x.toList = [110, 111]
          · have hx : x = ⟨#[110, 111]⟩ := ByteArray.ext (Array.toList_inj.1 (by rw [ByteArray.toList_eq] at q1; exact q1))
            have UY := Lib.hid (UE.out.trans (by rw [show badB x = true by unfold badB; rw [decide_eq_true hx]; rfl]))
            have qb : (x.toList == [110, 111]) = true := by rw [beq_iff_eq]; exact q1
            clear hx q1
            go_wp2_with fail
            go_roundg (gk - 1)
            case measure => have := HGK.out; omega
            case rel => exact ⟨k + 1, by omega, by have := HGK.out; omega, by go_num, by (rw [UY.out]; go_num), rfl⟩
          · by_cases q2 : x.toList = [119, 104, 97, 116]
            · have hx : x = ⟨#[119, 104, 97, 116]⟩ := ByteArray.ext (Array.toList_inj.1 (by rw [ByteArray.toList_eq] at q2; exact q2))
              have UY := Lib.hid (UE.out.trans (by rw [show badB x = true by unfold badB; rw [decide_eq_true hx, Bool.or_true]]))
              have qa : (x.toList == [110, 111]) = false := by rw [beq_eq_false_iff_ne]; exact q1
              have qb : (x.toList == [119, 104, 97, 116]) = true := by rw [beq_iff_eq]; exact q2
              clear hx q1 q2
              go_wp2_with fail
              go_roundg (gk - 1)
              case measure => have := HGK.out; omega
              case rel => exact ⟨k + 1, by omega, by have := HGK.out; omega, by go_num, by (rw [UY.out]; go_num), rfl⟩
            · have n1 : ¬ x = ⟨#[110, 111]⟩ := fun e => q1 (by rw [e, ByteArray.toList_eq])
              have n2 : ¬ x = ⟨#[119, 104, 97, 116]⟩ := fun e => q2 (by rw [e, ByteArray.toList_eq])
              have UN := Lib.hid (UE.out.trans (by rw [show badB x = false by unfold badB; rw [decide_eq_false n1, decide_eq_false n2]; rfl]))
              have qa : (x.toList == [110, 111]) = false := by rw [beq_eq_false_iff_ne]; exact q1
              have qb : (x.toList == [119, 104, 97, 116]) = false := by rw [beq_eq_false_iff_ne]; exact q2
              clear n1 n2 q1 q2
              go_wp2_with fail
              go_roundg (gk - 1)
              case measure => have := HGK.out; omega
              case rel => exact ⟨k + 1, by omega, by have := HGK.out; omega, by go_num, by (rw [UN.out]; go_num), rfl⟩
        · obtain rfl : k = M := by omega
          have E := Lib.hid (CY.out k HM.out)
          generalize hb2 : badK (lnY s) k = t at *
          have wt : IntKind.i64.wrap ((k : Int) - (t : Int)) = (k : Int) - (t : Int) := by rw [IntKind.wrap_i64]; omega
          have HT := Lib.hid hb2
          clear hb2
          go_wp2_with fail
          refine bodyPost_ret (v := .tuple #[.int .i64 (t : Int), .int .i64 ((k : Int) - (t : Int)), .bool true]) (by simp [results, Tryd.results27, go_sem]) rfl ?_
          exact ⟨by rw [E.out.1, E.out.2, HB.out], B2.out⟩
    · have hn : coB s = false := by unfold coB; rw [decide_eq_false (show ¬ (lstB (lnY s)).size = 0 by rw [hz]; exact h0), Bool.and_false]
      have E := Lib.hid (coB_no hn)
      have HN := Lib.hid hn
      have hs1 : ¬ z.toList = [] := fun q => h0 (by rw [ByteArray.toList_eq] at q; rw [show z.size = z.data.toList.length from Array.length_toList.symm, q]; rfl)
      have hs2 : (!z.toList.isEmpty) = true := by
        cases hq : z.toList with
        | nil => exact absurd hq hs1
        | cons a b => rfl
      clear hn h0 hz hll
      go_enter Tryd.func27, Tryd.ntmps27
      go_wp2_with fail
      go_at_call 70; refine LN.out.mono ?_; rintro e w2 ⟨g, M, cap, -, rfl, -, b2⟩
      have B2 := Lib.hid b2
      clear b2
      go_wp2_with fail
      refine bodyPost_ret (v := .tuple #[.int .i64 0, .int .i64 0, .bool false]) (by simp [results, Tryd.results27, go_sem]) rfl ?_
      exact ⟨by rw [E.out.1, E.out.2, HN.out], B2.out⟩
end Go.Proofs.YtdmlhjhhkiajaaaDoor
