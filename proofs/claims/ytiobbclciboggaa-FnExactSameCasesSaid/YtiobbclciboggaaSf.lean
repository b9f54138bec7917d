/- Are forms the same? Both sides. -/
import Derived.Test.YtiobbclciboggaaSmI
import Derived.Test.YtiobbclciboggaaFm
import Derived.Test.YtiobbclciboggaaDm
namespace Go.Proofs.Ytiobbclciboggaa
open Go.RowKit Go.ChangeShapes Go.WideShapes

def sameC (Y Z : List (List Int)) : Bool := decide (Y.length = Z.length) && (List.range Y.length).all fun i => sameI (Y.getD i []) (Z.getD i [])
def sameFm (A B : Fm) : Bool := (A.letters == B.letters) && sameC A.cs B.cs
theorem sameC_lens {Y Z : List (List Int)} (h : Y.length ≠ Z.length) : sameC Y Z = false := by unfold sameC; rw [decide_eq_false h]; rfl
theorem sameC_yes {Y Z : List (List Int)} (h : Y.length = Z.length) (k : ∀ i, i < Y.length → sameI (Y.getD i []) (Z.getD i []) = true) : sameC Y Z = true := by unfold sameC; rw [decide_eq_true h, rngAll k]; rfl
theorem sameC_no {Y Z : List (List Int)} {i : Nat} (hi : i < Y.length) (k : sameI (Y.getD i []) (Z.getD i []) = false) : sameC Y Z = false := by unfold sameC; rw [rngNot hi k]; simp
set_option maxHeartbeats 4000000 in
theorem eqFunc_num (b1 off1 cap1 b2 off2 cap2 : Nat) (U1 U2 : Nat → Value) (Y Z : List (List Int)) (w : World) (oY : OKL Y) (oZ : OKL Z) (he : Y.length = Z.length) (hc1 : ∀ i, i < Y.length → w.cell? ⟨b1, off1 + i, none⟩ = some (U1 i) ∧ IL w (U1 i) (Y.getD i [])) (hc2 : ∀ i, i < Z.length → w.cell? ⟨b2, off2 + i, none⟩ = some (U2 i) ∧ IL w (U2 i) (Z.getD i [])) :
    Calls Try.prog 123 #[.slice (some ⟨b1, off1, none⟩) Y.length cap1, .slice (some ⟨b2, off2, none⟩) Z.length cap2, .func (.func 98) #[] #[]] w (Tells (sameC Y Z) w) := by
  have HE := Lib.hid he
  have C1 := Lib.hid hc1
  have C2 := Lib.hid hc2
  have n1 := oY.len
  have n2 := oZ.len
  have O1 := Lib.hid oY
  have O2 := Lib.hid oZ
  have hne : ((Y.length : Int) != (Z.length : Int)) = false := by simp; omega
  clear he hc1 hc2
  go_enter Try.func123, Try.ntmps123
  go_wp2_with fail
  go_loopg [17] Y.length (fun gk i wr => ∃ k : Nat, k ≤ Y.length ∧ gk + k = Y.length ∧ i = .int .i64 k ∧ (∀ j, j < k → sameI (Y.getD j []) (Z.getD j []) = true) ∧ ∃ n, wr = w.drewN n)
  case atStart => exact ⟨0, Nat.zero_le _, by omega, rfl, fun j hj => by omega, 0, rfl⟩
  case round =>
    obtain ⟨k, hk, hgk, rfl, hall, hwr⟩ := hrel
    have HL := Lib.hid hall
    have HW := Lib.hid (drewM hwr)
    clear hall
    by_cases hlt : k < Y.length
    · have hlt2 : k < Z.length := by have := HE.out; omega
      have hlt3 : (k : Int) < (Z.length : Int) := by omega
      have c0 : wr.cell? ⟨b1, off1 + k, none⟩ = some (U1 k) := by obtain ⟨n, rfl⟩ := hwr; exact (C1.out k hlt).1
      have d0 : wr.cell? ⟨b2, off2 + k, none⟩ = some (U2 k) := by obtain ⟨n, rfl⟩ := hwr; exact (C2.out k hlt2).1
      have R1 : Hid (IL wr (U1 k) (Y.getD k [])) := Lib.hid (by obtain ⟨n, rfl⟩ := hwr; exact (C1.out k hlt).2)
      have R2 : Hid (IL wr (U2 k) (Z.getD k [])) := Lib.hid (by obtain ⟨n, rfl⟩ := hwr; exact (C2.out k hlt2).2)
      generalize U1 k = u1 at c0 R1
      generalize U2 k = u2 at d0 R2
      clear hwr
      cases q : sameI (Y.getD k []) (Z.getD k []) with
      | true =>
        have HQ := Lib.hid q
        clear q
        go_wp2_with fail
        go_at_call 98; refine (slEqual_any _ _ (Y.getD k []) (Z.getD k []) _ R1.out R2.out (O1.out.short k) (O2.out.short k)).mono ?_; rintro e w' ⟨rfl, m, rfl⟩
        rw [HQ.out]
        go_wp2_with fail
        go_roundg (gk - 1)
        case measure => omega
        case rel => exact ⟨k + 1, by omega, by omega, by go_num, fun j hj => by
          by_cases e : j = k
          · subst e; exact HQ.out
          · exact HL.out j (by omega), HW.out _⟩
      | false =>
        have HQ := Lib.hid q
        clear q
        go_wp2_with fail
        go_at_call 98; refine (slEqual_any _ _ (Y.getD k []) (Z.getD k []) _ R1.out R2.out (O1.out.short k) (O2.out.short k)).mono ?_; rintro e w' ⟨rfl, m, rfl⟩
        rw [HQ.out]
        go_wp2_with fail
        go_ret
        exact Tells.from HW.out (sameC_no hlt HQ.out)
    · obtain rfl : k = Y.length := by omega
      clear hwr
      go_wp2_with fail
      go_ret
      exact Tells.from (m := 0) HW.out (sameC_yes HE.out HL.out)
theorem eqFunc_any (u v : Value) (Y Z : List (List Int)) (w : World) (oY : OKL Y) (oZ : OKL Z) (hu : LV w u Y) (hv : LV w v Z) :
    Calls Try.prog 123 #[u, v, .func (.func 98) #[] #[]] w (Tells (sameC Y Z) w) := by
  have n1 := oY.len
  have n2 := oZ.len
  by_cases he : Y.length = Z.length
  · rcases hu with ⟨rfl, ao, cap, rfl⟩ | ⟨b, off, cap, U1, rfl, hpos, hbl, hcell⟩
    · have hz : Z = [] := List.eq_nil_of_length_eq_zero he.symm
      subst hz
      obtain ⟨ao2, cap2, rfl⟩ := hv.long
      clear hv
      go_enter Try.func123, Try.ntmps123
      go_wp2
      refine wp_loop_rounds 1 ?_
      rw [rounds_succ]
      go_wp2
      go_ret
      exact tells 0 rfl
    · rcases hv with ⟨rfl, -⟩ | ⟨b2, off2, cap2, U2, rfl, hpos2, hbl2, hcell2⟩
      · simp at he; rw [he] at hpos; simp at hpos
      · exact eqFunc_num _ _ _ _ _ _ U1 U2 Y Z w oY oZ he hcell hcell2
  · have HS := Lib.hid (sameC_lens he)
    obtain ⟨ao, cap, rfl⟩ := hu.long
    obtain ⟨ao2, cap2, rfl⟩ := hv.long
    have hne : ((Y.length : Int) != (Z.length : Int)) = true := by simp; omega
    clear hu hv he
    go_enter Try.func123, Try.ntmps123
    go_wp2
    go_ret
    exact tells 0 HS.out.symm
theorem implSameForm_any (v : Value) (A : Fm) (u : Value) (B : Fm) (w : World) (hv : FmV w v A) (hu : FmV w u B) (oA : OKFm A) (oB : OKFm B) :
    Calls Try.prog 122 #[v, u] w (Says (sameFm A B) w) := by
  have HB := Lib.hid (fun o p => (below_alloc w o).alloc (by simp) p)
  obtain ⟨s1, rfl, r1⟩ := hv
  obtain ⟨s2, rfl, r2⟩ := hu
  have R1 := Lib.hid r1
  have R2 := Lib.hid r2
  obtain ⟨x1, y1, rfl⟩ := r1.long
  obtain ⟨x2, y2, rfl⟩ := r2.long
  clear r1 r2
  unfold sameFm
  cases q : (A.letters == B.letters) with
  | false =>
    go_enter Try.func122, Try.ntmps122
    go_wp2_with fail
    go_ret
    exact says rfl (HB.out _ _)
  | true =>
    go_enter Try.func122, Try.ntmps122
    go_wp2_with fail
    go_at_call 123; refine (eqFunc_any _ _ A.cs B.cs _ oA.okl oB.okl (R1.out.below (HB.out _ _) (Nat.le_refl _)) (R2.out.below (HB.out _ _) (Nat.le_refl _))).mono ?_; rintro e w' ⟨rfl, m, rfl⟩
    go_wp2_with fail
    go_ret
    exact says rfl (below_drewN (HB.out _ _) _)
set_option maxHeartbeats 4000000 in
theorem specSameForm_any (v : Value) (A : Fm) (u : Value) (B : Fm) (w : World) (hv : FmV w v A) (hu : FmV w u B) (oA : OKFm A) (oB : OKFm B) :
    Calls Try.prog 73 #[v, u] w (Says (sameFm A B) w) := by
  have HB := Lib.hid (fun o p => (below_alloc w o).alloc (by simp) p)
  have n1 := oA.okl.len
  have n2 := oB.okl.len
  have O1 := Lib.hid oA.okl
  have O2 := Lib.hid oB.okl
  obtain ⟨s1, rfl, r1⟩ := hv
  obtain ⟨s2, rfl, r2⟩ := hu
  unfold sameFm
  cases q : (A.letters == B.letters) with
  | false =>
    have q2 : (A.letters != B.letters) = true := by rw [bne, q]; rfl
    obtain ⟨x1, y1, rfl⟩ := r1.long
    obtain ⟨x2, y2, rfl⟩ := r2.long
    clear r1 r2
    go_enter Try.func73, Try.ntmps73
    go_wp2_with fail
    go_ret
    exact says rfl (HB.out _ _)
  | true =>
    have q2 : (A.letters != B.letters) = false := by rw [bne, q]; rfl
    rw [Bool.true_and]
    clear q
    by_cases he : A.cs.length = B.cs.length
    · rcases r1 with ⟨hz, ao, cap, rfl⟩ | ⟨b, off, cap, U1, rfl, hpos, hbl, hcell⟩
      · have h0 : A.cs.length = 0 := by rw [hz]; rfl
        have HS := Lib.hid (sameC_yes he (fun i hi => by omega))
        obtain ⟨ao2, cap2, rfl⟩ := r2.long
        have hne : ((0 : Int) != (B.cs.length : Int)) = false := by simp; omega
        clear hz r2 he h0
        go_enter Try.func73, Try.ntmps73
        go_wp2_with fail
        refine wp_loop_rounds 1 ?_
        rw [rounds_succ]
        go_wp2
        go_ret
        exact says HS.out.symm (HB.out _ _)
      · rcases r2 with ⟨hz, -⟩ | ⟨b2, off2, cap2, U2, rfl, hpos2, hbl2, hcell2⟩
        · rw [hz] at he; simp at he; rw [he] at hpos; simp at hpos
        have HE := Lib.hid he
        have C1 := Lib.hid hcell
        have C2 := Lib.hid hcell2
        have hne : ((A.cs.length : Int) != (B.cs.length : Int)) = false := by simp; omega
        clear he hcell hcell2
        go_enter Try.func73, Try.ntmps73
        go_wp2_with fail
        obtain ⟨W, hW⟩ : ∃ W, W = (w.alloc (.cells #[.int .i64 A.letters, .slice (some ⟨b, off, none⟩) A.cs.length (A.cs.length + cap)] 94)).alloc (.cells #[.int .i64 B.letters, .slice (some ⟨b2, off2, none⟩) B.cs.length (B.cs.length + cap2)] 94) := ⟨_, rfl⟩
        have HWW := Lib.hid hW
        clear hW
        go_loopg [23] A.cs.length (fun gk i wr => ∃ k : Nat, k ≤ A.cs.length ∧ gk + k = A.cs.length ∧ i = .int .i64 k ∧ (∀ j, j < k → sameI (A.cs.getD j []) (B.cs.getD j []) = true) ∧ ∃ n, wr = W.drewN n)
        case atStart => exact ⟨0, Nat.zero_le _, by omega, rfl, fun j hj => by omega, 0, HWW.out.symm⟩
        case round =>
          obtain ⟨k, hk, hgk, rfl, hall, hwr⟩ := hrel
          have HL := Lib.hid hall
          have HW := Lib.hid (drewM hwr)
          have hBW : Below w.heap.size w wr := by obtain ⟨n, rfl⟩ := hwr; rw [HWW.out]; exact below_drewN (HB.out _ _) n
          have HBW := Lib.hid hBW
          have g1 : wr.cell? ⟨w.heap.size, 1, none⟩ = some (.slice (some ⟨b, off, none⟩) A.cs.length (A.cs.length + cap)) := by obtain ⟨n, rfl⟩ := hwr; rw [HWW.out]; go_simp
          have g2 : wr.cell? ⟨w.heap.size + 1, 1, none⟩ = some (.slice (some ⟨b2, off2, none⟩) B.cs.length (B.cs.length + cap2)) := by obtain ⟨n, rfl⟩ := hwr; rw [HWW.out]; go_simp
          clear hall
          by_cases hlt : k < A.cs.length
          · have hlt2 : k < B.cs.length := by have := HE.out; omega
            have c0 : wr.cell? ⟨b, off + k, none⟩ = some (U1 k) := by rw [hBW.cell (p := ⟨b, off + k, none⟩) hbl]; exact (C1.out k hlt).1
            have d0 : wr.cell? ⟨b2, off2 + k, none⟩ = some (U2 k) := by rw [hBW.cell (p := ⟨b2, off2 + k, none⟩) hbl2]; exact (C2.out k hlt2).1
            have R1 := Lib.hid ((C1.out k hlt).2.below hBW (Nat.le_refl _))
            have R2 := Lib.hid ((C2.out k hlt2).2.below hBW (Nat.le_refl _))
            generalize U1 k = u1 at c0 R1
            generalize U2 k = u2 at d0 R2
            clear hBW hwr
            cases q : sameI (A.cs.getD k []) (B.cs.getD k []) with
            | true =>
              have HQ := Lib.hid q
              clear q
              go_wp2_with fail
              go_quiet ((go_at_call 74; with_reducible exact Calls.quiet_of (l00Same_at true _ _ (A.cs.getD k []) (B.cs.getD k []) _ (VL.drewN R1.out _) (VL.drewN R2.out _) (O1.out.short k) (O2.out.short k) HQ.out)))
              go_wp2_with fail
              go_roundg (gk - 1)
              case measure => omega
              case rel => exact ⟨k + 1, by omega, by omega, by go_num, fun j hj => by
                by_cases e : j = k
                · subst e; exact HQ.out
                · exact HL.out j (by omega), HW.out _⟩
            | false =>
              have HQ := Lib.hid q
              clear q
              go_wp2_with fail
              go_quiet ((go_at_call 74; with_reducible exact Calls.quiet_of (l00Same_at false _ _ (A.cs.getD k []) (B.cs.getD k []) _ (VL.drewN R1.out _) (VL.drewN R2.out _) (O1.out.short k) (O2.out.short k) HQ.out)))
              go_wp2_with fail
              go_ret
              exact says (sameC_no hlt HQ.out).symm (below_drewN HBW.out _)
          · obtain rfl : k = A.cs.length := by omega
            clear hBW hwr
            go_wp2_with fail
            go_ret
            exact says (sameC_yes HE.out HL.out).symm HBW.out
    · have HS := Lib.hid (sameC_lens he)
      have hne : ((A.cs.length : Int) != (B.cs.length : Int)) = true := by simp; omega
      obtain ⟨x1, y1, rfl⟩ := r1.long
      obtain ⟨x2, y2, rfl⟩ := r2.long
      clear r1 r2 he
      go_enter Try.func73, Try.ntmps73
      go_wp2_with fail
      go_ret
      exact says HS.out.symm (HB.out _ _)
end Go.Proofs.Ytiobbclciboggaa
