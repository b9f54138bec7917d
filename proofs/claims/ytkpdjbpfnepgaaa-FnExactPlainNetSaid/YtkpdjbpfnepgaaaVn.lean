/- Nets are valid: both sides say so. -/
import Derived.Test.YtkpdjbpfnepgaaaVn0
import Derived.Test.YtkpdjbpfnepgaaaIl
import Derived.BigQuiet
import Derived.Deep.QuietTactic
namespace Go.Proofs.Ytkpdjbpfnepgaaa
open Go.RowKit Go.ChangeShapes Go.WideShapes

/-- A block that holds a net. -/
structure NP (w : World) (g : Nat) (s1 : Value) (N : Nt) : Prop where
  c0 : w.cell? ⟨g, 0, none⟩ = some (.int .i64 N.nodes)
  c1 : w.cell? ⟨g, 1, none⟩ = some s1
  r1 : AV w s1 N.arcs
theorem NP.dn {w : World} {g : Nat} {s1 : Value} {N : Nt} (h : NP w g s1 N) (n : Nat) : NP (w.drewN n) g s1 N := ⟨h.c0, h.c1, h.r1.dn n⟩
theorem NP.keep {B : Nat} {w w' : World} {g : Nat} {s1 : Value} {N : Nt} (h : NP w g s1 N) (hb : Below B w w') (hB : w.heap.size ≤ B) (hg : g < B) : NP w' g s1 N :=
  ⟨keep_cell h.c0 hb hg, keep_cell h.c1 hb hg, h.r1.below hb hB⟩
theorem NP.box (w : World) {s1 : Value} {N : Nt} (g1 : AV w s1 N.arcs) : NP (w.alloc (.cells #[.int .i64 N.nodes, s1] 29)) w.heap.size s1 N :=
  ⟨World.cell?_alloc_new _ _ _ _, World.cell?_alloc_new _ _ _ _, g1.below (below_alloc _ _) (Nat.le_refl _)⟩
theorem okN_no1 {N : Nt} (h : (decide (2 ≤ N.nodes) && decide (N.nodes ≤ 16)) = false) : okN N = false := by unfold okN; rw [h]; rfl
theorem okN_no2 {N : Nt} (h : decide ((N.arcs.length : Int) ≤ 48) = false) : okN N = false := by unfold okN; rw [h]; simp
theorem okN_no3 {N : Nt} {i : Nat} (hi : i < N.arcs.length) (h : okA N.nodes (N.arcs.getD i zA) = false) : okN N = false := by unfold okN arcsB; rw [rangeNot hi h]; simp
theorem okN_yes {N : Nt} (h1 : (decide (2 ≤ N.nodes) && decide (N.nodes ≤ 16)) = true) (h2 : decide ((N.arcs.length : Int) ≤ 48) = true) (h3 : ∀ i, i < N.arcs.length → okA N.nodes (N.arcs.getD i zA) = true) : okN N = true := by
  unfold okN arcsB; rw [h1, h2, rangeAll h3]; rfl
theorem in64_sub {n : Int} (h1 : 2 ≤ n) (h2 : n ≤ 16) : IntKind.i64.wrap (n - 1) = n - 1 := IntWalk.i64_in _ (by omega)
/-- The five tests of an arc. -/
structure ArcT (n : Int) (a : Ac) (t1 t2 t3 t4 t5 : Bool) : Prop where
  e1 : (decide (0 ≤ a.f) && decide (a.f ≤ n - 1)) = t1
  e2 : (decide (0 ≤ a.t) && decide (a.t ≤ n - 1)) = t2
  e3 : (a.f == a.t) = t3
  e4 : (decide (0 ≤ a.r) && decide (a.r ≤ 1000000)) = t4
  e5 : (decide (-1000 ≤ a.c) && decide (a.c ≤ 1000)) = t5
theorem ArcT.is {n : Int} {a : Ac} {t1 t2 t3 t4 t5 : Bool} (h : ArcT n a t1 t2 t3 t4 t5) : okA n a = (t1 && (t2 && (!t3 && (t4 && t5)))) := by
  obtain ⟨rfl, rfl, rfl, rfl, rfl⟩ := h
  rfl
theorem arcT (n : Int) (a : Ac) : ∃ t1 t2 t3 t4 t5, ArcT n a t1 t2 t3 t4 t5 := ⟨_, _, _, _, _, rfl, rfl, rfl, rfl, rfl⟩

theorem Tells.of {b c : Bool} {w wr : World} (h : ∀ m, ∃ n, wr.drewN m = w.drewN n) {m : Nat} (e : c = b) : Tells c w (.returned (.bool b)) (wr.drewN m) := by
  obtain ⟨n, hn⟩ := h m
  rw [hn, e]
  exact ⟨rfl, n, rfl⟩
theorem drew_more {w wr : World} (h : ∃ n, wr = w.drewN n) : ∀ m, ∃ n, wr.drewN m = w.drewN n := fun m => by obtain ⟨n, rfl⟩ := h; exact ⟨n + m, World.drewN_drewN _ _ _⟩
set_option maxHeartbeats 8000000 in
theorem l03Is_arcs (g : Nat) (s1 : Value) (N : Nt) (w : World) (h : NP w g s1 N) (n1 : 2 ≤ N.nodes) (n2 : N.nodes ≤ 16) (hl : N.arcs.length ≤ 48) :
    Calls Try.prog 52 #[.pointer (some ⟨g, 0, none⟩)] w (Tells (okN N) w) := by
  have E0 := Lib.hid (show (decide (2 ≤ N.nodes) && decide (N.nodes ≤ 16)) = true by simp; omega)
  have E1 := Lib.hid (show decide ((N.arcs.length : Int) ≤ 48) = true by simp; omega)
  have HWR := Lib.hid (in64_sub n1 n2)
  obtain ⟨c0, c1, r1⟩ := h
  have hgt : decide ((N.arcs.length : Int) > 48) = false := by simp; omega
  rcases r1 with ⟨hz, ao, cap, rfl⟩ | ⟨b, off, cap, rfl, hpos, hbl, hcell⟩
  · have HZ := Lib.hid hz
    have hlen : N.arcs.length = 0 := by rw [hz]; rfl
    have HLN := Lib.hid hlen
    clear hz hlen hgt hl
    go_enter Try.func52, Try.ntmps52
    go_wp2_with (go_at_call 61; refine (l00In_is true N.nodes 2 16 _ E0.out).mono ?_; rintro e w' ⟨rfl, m, rfl⟩)
    refine wp_loop_rounds 1 ?_
    rw [rounds_succ]
    go_wp2
    go_ret
    exact tells _ (okN_yes E0.out E1.out (fun i hi => by rw [HLN.out] at hi; omega)).symm
  have HC := Lib.hid hcell
  clear hcell
  go_enter Try.func52, Try.ntmps52
  go_wp2_with (go_at_call 61; refine (l00In_is true N.nodes 2 16 _ E0.out).mono ?_; rintro e w' ⟨rfl, m, rfl⟩)
  go_loopg [24] N.arcs.length (fun gk i wr => ∃ k : Nat, k ≤ N.arcs.length ∧ gk + k = N.arcs.length ∧ i = .int .i64 k ∧ (∀ j, j < k → okA N.nodes (N.arcs.getD j zA) = true) ∧ ∃ n, wr = w.drewN n)
  case atStart => exact ⟨0, Nat.zero_le _, by omega, rfl, fun j hj => by omega, _, rfl⟩
  case round =>
    obtain ⟨k, hk, hgk, rfl, hall, hwr⟩ := hrel
    have HL := Lib.hid hall
    have HW := Lib.hid (drew_more hwr)
    have d0 : wr.cell? ⟨g, 0, none⟩ = some (.int .i64 N.nodes) := by obtain ⟨n, rfl⟩ := hwr; exact c0
    have d1 : wr.cell? ⟨g, 1, none⟩ = some (.slice (some ⟨b, off, none⟩) N.arcs.length (N.arcs.length + cap)) := by obtain ⟨n, rfl⟩ := hwr; exact c1
    by_cases hlt : k < N.arcs.length
    · have ha : ArcAt wr b (off + k * 4) (N.arcs.getD k zA) := by obtain ⟨n, rfl⟩ := hwr; exact (HC.out k hlt).dn n
      obtain ⟨a, hA⟩ : ∃ a, a = N.arcs.getD k zA := ⟨_, rfl⟩
      rw [← hA] at ha
      have HA := Lib.hid hA
      obtain ⟨a0, a1, a2, a3⟩ := ha
      have hw := HWR.out
      obtain ⟨t1, t2, t3, t4, t5, tt⟩ := arcT N.nodes a
      have T := Lib.hid tt
      clear tt hA hall hwr
      cases t1 with
      | false =>
        have e3 := T.out.e3
        have T1 := Lib.hid T.out.e1
        have T2 := Lib.hid T.out.e2
        have T4 := Lib.hid T.out.e4
        have T5 := Lib.hid T.out.e5
        go_wp2_with fail
        go_quiet (first | (go_at_call 61; first | (with_reducible exact Calls.quiet_of (l00In_is _ a.f 0 (N.nodes - 1) _ T1.out)) | (with_reducible exact Calls.quiet_of (l00In_is _ a.t 0 (N.nodes - 1) _ T2.out)) | (with_reducible exact Calls.quiet_of (l00In_is _ a.r 0 1000000 _ T4.out)) | (with_reducible exact Calls.quiet_of (l00In_is _ a.c (-1000) 1000 _ T5.out))))
        go_wp2_with fail
        go_ret
        exact Tells.of HW.out (okN_no3 hlt (by rw [← HA.out, T.out.is]; rfl))
      | true =>
        cases t2 with
        | false =>
          have e3 := T.out.e3
          have T1 := Lib.hid T.out.e1
          have T2 := Lib.hid T.out.e2
          have T4 := Lib.hid T.out.e4
          have T5 := Lib.hid T.out.e5
          go_wp2_with fail
          go_quiet (first | (go_at_call 61; first | (with_reducible exact Calls.quiet_of (l00In_is _ a.f 0 (N.nodes - 1) _ T1.out)) | (with_reducible exact Calls.quiet_of (l00In_is _ a.t 0 (N.nodes - 1) _ T2.out)) | (with_reducible exact Calls.quiet_of (l00In_is _ a.r 0 1000000 _ T4.out)) | (with_reducible exact Calls.quiet_of (l00In_is _ a.c (-1000) 1000 _ T5.out))))
          go_wp2_with fail
          go_ret
          exact Tells.of HW.out (okN_no3 hlt (by rw [← HA.out, T.out.is]; simp))
        | true =>
          cases t3 with
          | true =>
            have e3 := T.out.e3
            have T1 := Lib.hid T.out.e1
            have T2 := Lib.hid T.out.e2
            have T4 := Lib.hid T.out.e4
            have T5 := Lib.hid T.out.e5
            go_wp2_with fail
            go_quiet (first | (go_at_call 61; first | (with_reducible exact Calls.quiet_of (l00In_is _ a.f 0 (N.nodes - 1) _ T1.out)) | (with_reducible exact Calls.quiet_of (l00In_is _ a.t 0 (N.nodes - 1) _ T2.out)) | (with_reducible exact Calls.quiet_of (l00In_is _ a.r 0 1000000 _ T4.out)) | (with_reducible exact Calls.quiet_of (l00In_is _ a.c (-1000) 1000 _ T5.out))))
            go_wp2_with fail
            go_ret
            exact Tells.of HW.out (okN_no3 hlt (by rw [← HA.out, T.out.is]; simp))
          | false =>
            cases t4 with
            | false =>
              have e3 := T.out.e3
              have T1 := Lib.hid T.out.e1
              have T2 := Lib.hid T.out.e2
              have T4 := Lib.hid T.out.e4
              have T5 := Lib.hid T.out.e5
              go_wp2_with fail
              go_quiet (first | (go_at_call 61; first | (with_reducible exact Calls.quiet_of (l00In_is _ a.f 0 (N.nodes - 1) _ T1.out)) | (with_reducible exact Calls.quiet_of (l00In_is _ a.t 0 (N.nodes - 1) _ T2.out)) | (with_reducible exact Calls.quiet_of (l00In_is _ a.r 0 1000000 _ T4.out)) | (with_reducible exact Calls.quiet_of (l00In_is _ a.c (-1000) 1000 _ T5.out))))
              go_wp2_with fail
              go_ret
              exact Tells.of HW.out (okN_no3 hlt (by rw [← HA.out, T.out.is]; simp))
            | true =>
              cases t5 with
              | false =>
                have e3 := T.out.e3
                have T1 := Lib.hid T.out.e1
                have T2 := Lib.hid T.out.e2
                have T4 := Lib.hid T.out.e4
                have T5 := Lib.hid T.out.e5
                go_wp2_with fail
                go_quiet (first | (go_at_call 61; first | (with_reducible exact Calls.quiet_of (l00In_is _ a.f 0 (N.nodes - 1) _ T1.out)) | (with_reducible exact Calls.quiet_of (l00In_is _ a.t 0 (N.nodes - 1) _ T2.out)) | (with_reducible exact Calls.quiet_of (l00In_is _ a.r 0 1000000 _ T4.out)) | (with_reducible exact Calls.quiet_of (l00In_is _ a.c (-1000) 1000 _ T5.out))))
                go_wp2_with fail
                go_ret
                exact Tells.of HW.out (okN_no3 hlt (by rw [← HA.out, T.out.is]; simp))
              | true =>
                have e3 := T.out.e3
                have T1 := Lib.hid T.out.e1
                have T2 := Lib.hid T.out.e2
                have T4 := Lib.hid T.out.e4
                have T5 := Lib.hid T.out.e5
                go_wp2_with fail
                go_quiet (first | (go_at_call 61; first | (with_reducible exact Calls.quiet_of (l00In_is _ a.f 0 (N.nodes - 1) _ T1.out)) | (with_reducible exact Calls.quiet_of (l00In_is _ a.t 0 (N.nodes - 1) _ T2.out)) | (with_reducible exact Calls.quiet_of (l00In_is _ a.r 0 1000000 _ T4.out)) | (with_reducible exact Calls.quiet_of (l00In_is _ a.c (-1000) 1000 _ T5.out))))
                go_wp2_with fail
                go_roundg (gk - 1)
                case measure => omega
                case rel => exact ⟨k + 1, by omega, by omega, by go_num, fun j hj => by
                  by_cases e : j = k
                  · subst e; rw [← HA.out, T.out.is]; rfl
                  · exact HL.out j (by omega), HW.out _⟩
    · obtain rfl : k = N.arcs.length := by omega
      clear hall hwr
      go_wp2_with fail
      go_ret
      exact Tells.of (m := 0) HW.out (okN_yes E0.out E1.out HL.out)
end Go.Proofs.Ytkpdjbpfnepgaaa
