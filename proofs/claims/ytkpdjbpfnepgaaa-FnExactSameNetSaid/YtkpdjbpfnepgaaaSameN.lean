/- Are nets the same? Both sides. -/
import Derived.Test.YtkpdjbpfnepgaaaVn
import Derived.Laws.StructEq
namespace Go.Proofs.Ytkpdjbpfnepgaaa
open Go.RowKit Go.ChangeShapes Go.WideShapes

def eqA (a c : Ac) : Bool := (a.f == c.f) && ((a.t == c.t) && ((a.r == c.r) && (a.c == c.c)))
def sameA (Y Z : List Ac) : Bool := decide (Y.length = Z.length) && (List.range Y.length).all fun i => eqA (Y.getD i zA) (Z.getD i zA)
def sameN (A B : Nt) : Bool := (A.nodes == B.nodes) && sameA A.arcs B.arcs
theorem sameA_lens {Y Z : List Ac} (h : Y.length ≠ Z.length) : sameA Y Z = false := by unfold sameA; rw [decide_eq_false h]; rfl
theorem sameA_yes {Y Z : List Ac} (h : Y.length = Z.length) (k : ∀ i, i < Y.length → eqA (Y.getD i zA) (Z.getD i zA) = true) : sameA Y Z = true := by unfold sameA; rw [decide_eq_true h, rangeAll k]; rfl
theorem sameA_no {Y Z : List Ac} {i : Nat} (hi : i < Y.length) (k : eqA (Y.getD i zA) (Z.getD i zA) = false) : sameA Y Z = false := by unfold sameA; rw [rangeNot hi k]; simp

/-- Two arcs by '=='. -/
theorem run_eqArc (a c : Ac) (w : World) : (Op.equalIn 10000 65 (.agg #[.int .i64 a.f, .int .i64 a.t, .int .i64 a.r, .int .i64 a.c]) (.agg #[.int .i64 c.f, .int .i64 c.t, .int .i64 c.r, .int .i64 c.c])).run Try.prog w = .ok (eqA a c) w := by
  have u3 := Try.underlying2
  have a3 := Try.isAgg2
  have z3 := Try.sizeOf2
  have hS : Try.prog.underlying 65 = some (.struct (Try.prog.fieldsOf 65)) := by kernel_rfl
  rw [show (10000 : Nat) = 9999 + 1 from rfl, run_equalIn_agg w 9999 65 _ _ hS (by kernel_rfl)]
  simp only [Program.fieldsOf, Try.underlying65]
  go_simp
  unfold eqA
  by_cases h1 : a.f = c.f <;> by_cases h2 : a.t = c.t <;> by_cases h3 : a.r = c.r <;> by_cases h4 : a.c = c.c <;> simp [h1, h2, h3, h4]
theorem guard_arc : Try.prog.eqGuardType Try.prog.depth 65 = false := by kernel_rfl
theorem run_guardA (op : BinOp) (x y : Operand) (xs ys : Array Value) (w : World) : (eqGuard op 65 x y (.agg xs) (.agg ys)).run Try.prog w = .ok () w := run_eqGuard_agg w op _ x y xs ys guard_arc
theorem run_neqA (a c : Ac) (w : World) : (binOp .neq 65 (.agg #[.int .i64 a.f, .int .i64 a.t, .int .i64 a.r, .int .i64 a.c]) (.agg #[.int .i64 c.f, .int .i64 c.t, .int .i64 c.r, .int .i64 c.c])).run Try.prog w = .ok (.bool (!eqA a c)) w := by
  rw [run_neq_struct, run_eqArc]; rfl
attribute [local go_sem high] run_neqA run_eqArc run_guardA

set_option maxHeartbeats 4000000 in
theorem eqArcs_num (b1 off1 cap1 b2 off2 cap2 : Nat) (Y Z : List Ac) (w : World) (hn : Y.length ≤ 1048576) (he : Y.length = Z.length) (hc1 : ∀ i, i < Y.length → ArcAt w b1 (off1 + i * 4) (Y.getD i zA)) (hc2 : ∀ i, i < Z.length → ArcAt w b2 (off2 + i * 4) (Z.getD i zA)) :
    Calls Try.prog 55 #[.slice (some ⟨b1, off1, none⟩) Y.length cap1, .slice (some ⟨b2, off2, none⟩) Z.length cap2] w (Tells (sameA Y Z) w) := by
  have HE := Lib.hid he
  have C1 := Lib.hid hc1
  have C2 := Lib.hid hc2
  have hne : ((Y.length : Int) != (Z.length : Int)) = false := by simp; omega
  have hle : Z.length ≤ 1048576 := by omega
  clear he hc1 hc2
  go_enter Try.func55, Try.ntmps55
  go_wp2
  go_loopw [13] (fun i wr => ∃ k : Nat, k ≤ Y.length ∧ i = .int .i64 k ∧ (∀ j, j < k → eqA (Y.getD j zA) (Z.getD j zA) = true) ∧ ∃ n, wr = w.drewN n) (fun i _ => Y.length - (intOf i).toNat)
  case atStart => exact ⟨0, Nat.zero_le _, rfl, fun j hj => by omega, 0, rfl⟩
  case round =>
    obtain ⟨k, hk, rfl, hall, hwr⟩ := hrel
    have HL := Lib.hid hall
    have HW := Lib.hid (drew_more hwr)
    clear hall
    by_cases hlt : k < Y.length
    · have hlt2 : k < Z.length := by have := HE.out; omega
      have e1 : ArcAt wr b1 (off1 + k * 4) (Y.getD k zA) := by obtain ⟨n, rfl⟩ := hwr; exact (C1.out k hlt).dn n
      have e2 : ArcAt wr b2 (off2 + k * 4) (Z.getD k zA) := by obtain ⟨n, rfl⟩ := hwr; exact (C2.out k hlt2).dn n
      obtain ⟨a, ha⟩ : ∃ a, a = Y.getD k zA := ⟨_, rfl⟩
      obtain ⟨c, hc⟩ : ∃ c, c = Z.getD k zA := ⟨_, rfl⟩
      rw [← ha] at e1
      rw [← hc] at e2
      have HA := Lib.hid ha
      have HC := Lib.hid hc
      obtain ⟨c0, c1, c2, c3⟩ := e1
      obtain ⟨d0, d1, d2, d3⟩ := e2
      clear hwr ha hc
      cases q : eqA a c with
      | true =>
        have Q := Lib.hid q
        go_wp2_with fail
        go_quiet (fail)
        go_wp2_with fail
        go_roundw
        case rel => exact ⟨k + 1, by omega, by go_num, fun j hj => by
          by_cases e : j = k
          · subst e; rw [← HA.out, ← HC.out]; exact Q.out
          · exact HL.out j (by omega), HW.out _⟩
        case measure => simp [intOf]; omega
      | false =>
        have Q := Lib.hid q
        go_wp2_with fail
        go_quiet (fail)
        go_wp2_with fail
        go_ret
        exact Tells.of HW.out (sameA_no hlt (by rw [← HA.out, ← HC.out]; exact Q.out))
    · obtain rfl : k = Y.length := by omega
      clear hwr
      go_wp2_with fail
      go_ret
      exact Tells.of (m := 0) HW.out (sameA_yes HE.out HL.out)
theorem eqArcs_any (u v : Value) (Y Z : List Ac) (w : World) (hn : Y.length ≤ 1048576) (hm : Z.length ≤ 1048576) (hu : AV w u Y) (hv : AV w v Z) :
    Calls Try.prog 55 #[u, v] w (Tells (sameA Y Z) w) := by
  by_cases he : Y.length = Z.length
  · rcases hu with ⟨rfl, ao, cap, rfl⟩ | ⟨b, off, cap, rfl, hpos, hbl, hcell⟩
    · have hz : Z = [] := List.eq_nil_of_length_eq_zero he.symm
      subst hz
      obtain ⟨ao2, cap2, rfl⟩ := hv.long
      clear hv
      go_enter Try.func55, Try.ntmps55
      go_wp2
      refine wp_loop_rounds 1 ?_
      rw [rounds_succ]
      go_wp2
      go_ret
      exact tells 0 rfl
    · rcases hv with ⟨rfl, -⟩ | ⟨b2, off2, cap2, rfl, hpos2, hbl2, hcell2⟩
      · simp at he; rw [he] at hpos; simp at hpos
      · exact eqArcs_num _ _ _ _ _ _ Y Z w hn he hcell hcell2
  · have HS := Lib.hid (sameA_lens he)
    obtain ⟨ao, cap, rfl⟩ := hu.long
    obtain ⟨ao2, cap2, rfl⟩ := hv.long
    have hne : ((Y.length : Int) != (Z.length : Int)) = true := by simp; omega
    clear hu hv he
    go_enter Try.func55, Try.ntmps55
    go_wp2
    go_ret
    exact tells 0 HS.out.symm
theorem implSameNet_any (v : Value) (A : Nt) (u : Value) (B : Nt) (w : World) (hv : NV w v A) (hu : NV w u B) (oA : OKN A) (oB : OKN B) :
    Calls Try.prog 21 #[v, u] w (Says (sameN A B) w) := by
  have HB := Lib.hid (fun o p => (below_alloc w o).alloc (by simp) p)
  have n1 := oA.size
  have n2 := oB.size
  obtain ⟨s1, rfl, r1⟩ := hv
  obtain ⟨s2, rfl, r2⟩ := hu
  have R1 := Lib.hid r1
  have R2 := Lib.hid r2
  clear r1 r2
  unfold sameN
  cases q : (A.nodes == B.nodes) with
  | false =>
    go_enter Try.func21, Try.ntmps21
    go_wp2_with fail
    go_ret
    exact says rfl (HB.out _ _)
  | true =>
    go_enter Try.func21, Try.ntmps21
    go_wp2_with fail
    go_at_call 55; refine (eqArcs_any _ _ A.arcs B.arcs _ n1 n2 (R1.out.below (HB.out _ _) (Nat.le_refl _)) (R2.out.below (HB.out _ _) (Nat.le_refl _))).mono ?_; rintro e w' ⟨rfl, m, rfl⟩
    go_wp2_with fail
    go_ret
    exact says rfl (below_drewN (HB.out _ _) _)
set_option maxHeartbeats 4000000 in
theorem specSameNet_any (v : Value) (A : Nt) (u : Value) (B : Nt) (w : World) (hv : NV w v A) (hu : NV w u B) (oA : OKN A) (oB : OKN B) :
    Calls Try.prog 20 #[v, u] w (Says (sameN A B) w) := by
  have HB := Lib.hid (fun o p => (below_alloc w o).alloc (by simp) p)
  have n1 := oA.size
  have n2 := oB.size
  obtain ⟨s1, rfl, r1⟩ := hv
  obtain ⟨s2, rfl, r2⟩ := hu
  unfold sameN
  cases q : (A.nodes == B.nodes) with
  | false =>
    have q2 : (A.nodes != B.nodes) = true := by rw [bne, q]; rfl
    clear r1 r2
    go_enter Try.func20, Try.ntmps20
    go_wp2_with fail
    go_ret
    exact says rfl (HB.out _ _)
  | true =>
    have q2 : (A.nodes != B.nodes) = false := by rw [bne, q]; rfl
    rw [Bool.true_and]
    clear q
    by_cases he : A.arcs.length = B.arcs.length
    · rcases r1 with ⟨hz, ao, cap, rfl⟩ | ⟨b, off, cap, rfl, hpos, hbl, hcell⟩
      · have h0 : A.arcs.length = 0 := by rw [hz]; rfl
        have HS := Lib.hid (sameA_yes he (fun i hi => by omega))
        obtain ⟨ao2, cap2, rfl⟩ := r2.long
        have hne : ((0 : Int) != (B.arcs.length : Int)) = false := by simp; omega
        clear hz r2 he h0
        go_enter Try.func20, Try.ntmps20
        go_wp2_with fail
        refine wp_loop_rounds 1 ?_
        rw [rounds_succ]
        go_wp2
        go_ret
        exact says HS.out.symm (HB.out _ _)
      · rcases r2 with ⟨hz, -⟩ | ⟨b2, off2, cap2, rfl, hpos2, hbl2, hcell2⟩
        · rw [hz] at he; simp at he; rw [he] at hpos; simp at hpos
        have HE := Lib.hid he
        have C1 := Lib.hid (fun o p i hi => (hcell i hi).keep (HB.out o p) hbl)
        have C2 := Lib.hid (fun o p i hi => (hcell2 i hi).keep (HB.out o p) hbl2)
        have hne : ((A.arcs.length : Int) != (B.arcs.length : Int)) = false := by simp; omega
        clear he hcell hcell2
        go_enter Try.func20, Try.ntmps20
        go_wp2_with fail
        obtain ⟨W, hW⟩ : ∃ W, W = (w.alloc (.cells #[.int .i64 A.nodes, .slice (some ⟨b, off, none⟩) A.arcs.length (A.arcs.length + cap)] 29)).alloc (.cells #[.int .i64 B.nodes, .slice (some ⟨b2, off2, none⟩) B.arcs.length (B.arcs.length + cap2)] 29) := ⟨_, rfl⟩
        have HWW := Lib.hid hW
        clear hW
        go_loopw [23] (fun i wr => ∃ k : Nat, k ≤ A.arcs.length ∧ i = .int .i64 k ∧ (∀ j, j < k → eqA (A.arcs.getD j zA) (B.arcs.getD j zA) = true) ∧ ∃ n, wr = W.drewN n) (fun i _ => A.arcs.length - (intOf i).toNat)
        case atStart => exact ⟨0, Nat.zero_le _, rfl, fun j hj => by omega, 0, HWW.out.symm⟩
        case round =>
          obtain ⟨k, hk, rfl, hall, hwr⟩ := hrel
          have HL := Lib.hid hall
          have HW := Lib.hid (drew_more hwr)
          have hBW : Below w.heap.size w wr := by obtain ⟨n, rfl⟩ := hwr; rw [HWW.out]; exact below_drewN (HB.out _ _) n
          have HBW := Lib.hid hBW
          have g1 : wr.cell? ⟨w.heap.size, 1, none⟩ = some (.slice (some ⟨b, off, none⟩) A.arcs.length (A.arcs.length + cap)) := by obtain ⟨n, rfl⟩ := hwr; rw [HWW.out]; go_simp
          have g2 : wr.cell? ⟨w.heap.size + 1, 1, none⟩ = some (.slice (some ⟨b2, off2, none⟩) B.arcs.length (B.arcs.length + cap2)) := by obtain ⟨n, rfl⟩ := hwr; rw [HWW.out]; go_simp
          clear hall hBW
          by_cases hlt : k < A.arcs.length
          · have hlt2 : k < B.arcs.length := by have := HE.out; omega
            have e1 : ArcAt wr b (off + k * 4) (A.arcs.getD k zA) := by obtain ⟨n, rfl⟩ := hwr; rw [HWW.out]; exact (C1.out _ _ k hlt).dn n
            have e2 : ArcAt wr b2 (off2 + k * 4) (B.arcs.getD k zA) := by obtain ⟨n, rfl⟩ := hwr; rw [HWW.out]; exact (C2.out _ _ k hlt2).dn n
            obtain ⟨a, ha⟩ : ∃ a, a = A.arcs.getD k zA := ⟨_, rfl⟩
            obtain ⟨c, hc⟩ : ∃ c, c = B.arcs.getD k zA := ⟨_, rfl⟩
            rw [← ha] at e1
            rw [← hc] at e2
            have HA := Lib.hid ha
            have HC := Lib.hid hc
            obtain ⟨c0, c1, c2, c3⟩ := e1
            obtain ⟨d0, d1, d2, d3⟩ := e2
            clear hwr ha hc
            cases q : eqA a c with
            | true =>
              have Q := Lib.hid q
              go_wp2_with fail
              go_quiet (fail)
              go_wp2_with fail
              go_roundw
              case rel => exact ⟨k + 1, by omega, by go_num, fun j hj => by
                by_cases e : j = k
                · subst e; rw [← HA.out, ← HC.out]; exact Q.out
                · exact HL.out j (by omega), HW.out _⟩
              case measure => simp [intOf]; omega
            | false =>
              have Q := Lib.hid q
              go_wp2_with fail
              go_quiet (fail)
              go_wp2_with fail
              go_ret
              exact says (sameA_no hlt (by rw [← HA.out, ← HC.out]; exact Q.out)).symm (below_drewN HBW.out _)
          · obtain rfl : k = A.arcs.length := by omega
            clear hwr
            go_wp2_with fail
            go_ret
            exact says (sameA_yes HE.out HL.out).symm HBW.out
    · have HS := Lib.hid (sameA_lens he)
      obtain ⟨ao, cap, rfl⟩ := r1.long
      obtain ⟨ao2, cap2, rfl⟩ := r2.long
      have hne : ((A.arcs.length : Int) != (B.arcs.length : Int)) = true := by simp; omega
      clear r1 r2 he
      go_enter Try.func20, Try.ntmps20
      go_wp2_with fail
      go_ret
      exact says HS.out.symm (HB.out _ _)
end Go.Proofs.Ytkpdjbpfnepgaaa
