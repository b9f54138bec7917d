/- Are lists of cases the same? The program. -/
import Derived.Test.YtiobbclciboggaaScI
namespace Go.Proofs.Ytiobbclciboggaa
open Go.RowKit Go.ChangeShapes Go.WideShapes

theorem isSame_is (t : Bool) (v u : Value) (A B : Cs) (w : World) (hv : CsV w v A) (hu : CsV w u B) (oA : OKC A) (oB : OKC B) (h : sameCs A B = t) :
    Calls Try.prog 77 #[v, u] w (Says t w) := by subst h; exact isSame_any v u A B w hv hu oA oB
set_option maxHeartbeats 4000000 in
theorem eqCs_num (b1 off1 cap1 b2 off2 cap2 : Nat) (Y Z : List Cs) (w : World) (oY : OKCs Y) (oZ : OKCs Z) (he : Y.length = Z.length) (hc1 : ∀ i, i < Y.length → CAt w b1 (off1 + i * 4) (Y.getD i zC)) (hc2 : ∀ i, i < Z.length → CAt w b2 (off2 + i * 4) (Z.getD i zC)) :
    Calls Try.prog 76 #[.slice (some ⟨b1, off1, none⟩) Y.length cap1, .slice (some ⟨b2, off2, none⟩) Z.length cap2, .func (.func 77) #[] #[]] w (Says (sameCL Y Z) w) := by
  have HE := Lib.hid he
  have C1 := Lib.hid hc1
  have C2 := Lib.hid hc2
  have n1 := oY.len
  have n2 := oZ.len
  have O1 := Lib.hid oY
  have O2 := Lib.hid oZ
  have hne : ((Y.length : Int) != (Z.length : Int)) = false := by simp; omega
  clear he hc1 hc2
  go_enter Try.func76, Try.ntmps76
  go_wp2_with fail
  go_loopg [17] Y.length (fun gk i wr => ∃ k : Nat, k ≤ Y.length ∧ gk + k = Y.length ∧ i = .int .i64 k ∧ (∀ j, j < k → sameCs (Y.getD j zC) (Z.getD j zC) = true) ∧ Below w.heap.size w wr)
  case atStart => exact ⟨0, Nat.zero_le _, by omega, rfl, fun j hj => by omega, Below.refl _ _⟩
  case round =>
    obtain ⟨k, hk, hgk, rfl, hall, hwr⟩ := hrel
    have HL := Lib.hid hall
    have HW := Lib.hid hwr
    clear hall
    by_cases hlt : k < Y.length
    · have hlt2 : k < Z.length := by have := HE.out; omega
      have hlt3 : (k : Int) < (Z.length : Int) := by omega
      obtain ⟨x1, m1, k1, x2, m2, k2, ⟨c0, c1, c2, c3⟩, -, -, l1, l2⟩ := (C1.out k hlt).below hwr (Nat.le_refl _)
      obtain ⟨y1, p1, j1, y2, p2, j2, ⟨d0, d1, d2, d3⟩, -, -, g1, g2⟩ := (C2.out k hlt2).below hwr (Nat.le_refl _)
      have HV : Hid (CsV wr (.agg #[.string (Y.getD k zC).name, .int .i64 (Y.getD k zC).form.letters, .slice x1 m1 k1, .slice x2 m2 k2]) (Y.getD k zC)) := Lib.hid ⟨_, _, rfl, l1, l2⟩
      have HU : Hid (CsV wr (.agg #[.string (Z.getD k zC).name, .int .i64 (Z.getD k zC).form.letters, .slice y1 p1 j1, .slice y2 p2 j2]) (Z.getD k zC)) := Lib.hid ⟨_, _, rfl, g1, g2⟩
      have OA := Lib.hid (O1.out.each hlt)
      have OB := Lib.hid (O2.out.each hlt2)
      have HN : Hid (sameCs (Y.getD k zC) (Z.getD k zC) = false → sameCL Y Z = false) := Lib.hid fun h => sameCL_no hlt h
      have HA : Hid (sameCs (Y.getD k zC) (Z.getD k zC) = true → ∀ j, j < k + 1 → sameCs (Y.getD j zC) (Z.getD j zC) = true) := Lib.hid fun h j hj => by
        by_cases e : j = k
        · subst e; exact h
        · exact HL.out j (by omega)
      clear hwr l1 l2 g1 g2
      generalize Y.getD k zC = A at c0 c1 HV OA HN HA
      generalize Z.getD k zC = B at d0 d1 HU OB HN HA
      have HB2 := Lib.hid (fun o p => (below_alloc wr o).alloc (by simp) p)
      have hb1 := cell_block c0
      have hb2 := cell_block d0
      cases q : sameCs A B with
      | true =>
        have HQ := Lib.hid q
        have HA2 := Lib.hid (HA.out q)
        clear q HA HN
        go_wp2_with fail
        refine (isSame_is true _ _ A B _ (HV.out.below (HB2.out _ _) (Nat.le_refl _)) (HU.out.below (HB2.out _ _) (Nat.le_refl _)) OA.out OB.out HQ.out).mono ?_; rintro e w1 ⟨rfl, b1'⟩
        have B1 := Lib.hid (HW.out.trans (((HB2.out _ _).trans (b1'.mono (by simp; omega))).mono HW.out.size))
        clear b1' c0 c1 c2 c3 d0 d1 d2 d3
        go_wp2_with fail
        go_roundg (gk - 1)
        case measure => omega
        case rel => exact ⟨k + 1, by omega, by omega, by go_num, HA2.out, B1.out⟩
      | false =>
        have HQ := Lib.hid q
        have HN2 := Lib.hid (HN.out q)
        clear q HA HN
        go_wp2_with fail
        refine (isSame_is false _ _ A B _ (HV.out.below (HB2.out _ _) (Nat.le_refl _)) (HU.out.below (HB2.out _ _) (Nat.le_refl _)) OA.out OB.out HQ.out).mono ?_; rintro e w1 ⟨rfl, b1'⟩
        have B1 := Lib.hid (HW.out.trans (((HB2.out _ _).trans (b1'.mono (by simp; omega))).mono HW.out.size))
        clear b1' c0 c1 c2 c3 d0 d1 d2 d3
        go_wp2_with fail
        go_ret
        exact says HN2.out.symm B1.out
    · obtain rfl : k = Y.length := by omega
      clear hwr
      go_wp2_with fail
      go_ret
      exact says (sameCL_yes HE.out HL.out).symm HW.out
theorem eqCs_any (u v : Value) (Y Z : List Cs) (w : World) (oY : OKCs Y) (oZ : OKCs Z) (hu : CsLV w u Y) (hv : CsLV w v Z) :
    Calls Try.prog 76 #[u, v, .func (.func 77) #[] #[]] w (Says (sameCL Y Z) w) := by
  have n1 := oY.len
  have n2 := oZ.len
  by_cases he : Y.length = Z.length
  · rcases hu with ⟨rfl, ao, cap, rfl⟩ | ⟨b, off, cap, rfl, hpos, hbl, hcell⟩
    · have hz : Z = [] := List.eq_nil_of_length_eq_zero he.symm
      subst hz
      obtain ⟨ao2, cap2, rfl⟩ := hv.long
      clear hv
      go_enter Try.func76, Try.ntmps76
      go_wp2
      refine wp_loop_rounds 1 ?_
      rw [rounds_succ]
      go_wp2
      go_ret
      exact says rfl (Below.refl _ _)
    · rcases hv with ⟨rfl, -⟩ | ⟨b2, off2, cap2, rfl, hpos2, hbl2, hcell2⟩
      · simp at he; rw [he] at hpos; simp at hpos
      · exact eqCs_num _ _ _ _ _ _ Y Z w oY oZ he hcell hcell2
  · have HS := Lib.hid (sameCL_lens he)
    obtain ⟨ao, cap, rfl⟩ := hu.long
    obtain ⟨ao2, cap2, rfl⟩ := hv.long
    have hne : ((Y.length : Int) != (Z.length : Int)) = true := by simp; omega
    clear hu hv he
    go_enter Try.func76, Try.ntmps76
    go_wp2
    go_ret
    exact says HS.out.symm (Below.refl _ _)
theorem implSameCases_any (u : Value) (Y : List Cs) (v : Value) (Z : List Cs) (w : World) (hu : CsLV w u Y) (hv : CsLV w v Z) (oY : OKCs Y) (oZ : OKCs Z) :
    Calls Try.prog 41 #[u, v] w (Says (sameCL Y Z) w) := by
  have HU := Lib.hid hu
  have HV := Lib.hid hv
  obtain ⟨ao, cap, rfl⟩ := hu.long
  obtain ⟨ao2, cap2, rfl⟩ := hv.long
  clear hu hv
  go_enter Try.func41, Try.ntmps41
  go_wp2_with fail
  refine (eqCs_any _ _ Y Z _ oY oZ HU.out HV.out).mono ?_; rintro e w1 ⟨rfl, b1⟩
  have B1 := Lib.hid b1
  clear b1
  go_wp2_with fail
  go_ret
  exact says rfl B1.out
end Go.Proofs.Ytiobbclciboggaa
