/- Tables are valid: the loops of both sides. -/
import Derived.Test.YtdacbkkanhelfaaVt
namespace Go.Proofs.Ytdacbkkanhelfaa
open Go.RowKit Go.ChangeShapes Go.WideShapes

theorem getD_int {Z : List Int} (h : ∀ x ∈ Z, -9223372036854775808 ≤ x ∧ x ≤ 9223372036854775807) {i : Nat} (hi : i < Z.length) : -9223372036854775808 ≤ Z.getD i 0 ∧ Z.getD i 0 ≤ 9223372036854775807 := by rw [getDI hi]; exact h _ (List.getElem_mem hi)
theorem basB_no {T : Tb} {i : Nat} (hi : i < T.S.length) (h : (colB T i && newB T i) = false) : basB T = false := not_range hi h
theorem basB_yes {T : Tb} (h : ∀ i, i < T.S.length → (colB T i && newB T i) = true) : basB T = true := all_range h
theorem newB_no {T : Tb} {i k : Nat} (hk : k < i) (h : (T.S.getD k 0 == T.S.getD i 0) = true) : newB T i = false := not_range hk (by rw [h]; rfl)
theorem newB_yes {T : Tb} {i : Nat} (h : ∀ k, k < i → (T.S.getD k 0 == T.S.getD i 0) = false) : newB T i = true := all_range fun k hk => by rw [h k hk]; rfl

set_option maxHeartbeats 4000000 in
theorem l02Table_loop (g : Nat) (s1 s2 : Value) (T : Tb) (w : World) (h : TP w g s1 s2 T) (oT : OKT T) (e0 : (decide (1 ≤ T.vars) && decide (T.vars ≤ 8)) = true) (e1 : (decide (1 ≤ (T.S.length : Int)) && decide ((T.S.length : Int) ≤ 8)) = true)
    (e2 : decide ((T.N.length : Int) = ((T.S.length : Nat) + 1) * T.wide) = true) (e4 : finAll T.N = true) :
    Calls Try.prog 70 #[.pointer (some ⟨g, 0, none⟩)] w (Tells (basB T) w) := by
  have HP := Lib.hid h
  have n1 := oT.n1
  have n2 := oT.n2
  obtain ⟨c0, c1, c2, r1, r2⟩ := h
  obtain ⟨ao1, cap1, rfl⟩ := r1.long
  have R1 := Lib.hid r1
  have FT := Lib.hid oT.fit
  have E0 := Lib.hid e0
  have hv : 1 ≤ T.vars ∧ T.vars ≤ 8 := by simpa using e0
  have E1 := Lib.hid e1
  have hl : 1 ≤ (T.S.length : Int) ∧ (T.S.length : Int) ≤ 8 := by simpa using e1
  have HV := Lib.hid hv
  have hx : 0 ≤ T.wide ∧ T.wide ≤ 17 := by unfold Tb.wide; omega
  have hw1 : IntKind.i64.wrap ((T.S.length : Int) + 1) = (T.S.length : Int) + 1 := IntWalk.i64_in _ (by omega)
  have hw2 : IntKind.i64.wrap (((T.S.length : Int) + 1) * T.wide) = ((T.S.length : Int) + 1) * T.wide := by
    refine IntWalk.i64_in _ ?_
    have : 0 ≤ ((T.S.length : Int) + 1) * T.wide := Int.mul_nonneg (by omega) hx.1
    have : ((T.S.length : Int) + 1) * T.wide ≤ 9 * 17 := Int.mul_le_mul (by omega) hx.2 hx.1 (by omega)
    omega
  have hw3 : IntKind.i64.wrap (T.wide - 2) = T.wide - 2 := IntWalk.i64_in _ (by omega)
  have e3 : ((T.N.length : Int) != ((T.S.length : Nat) + 1) * T.wide) = false := by simpa using e2
  have E4 := Lib.hid e4
  obtain ⟨hv1, hv2⟩ := hv
  obtain ⟨hl1, hl2⟩ := hl
  rcases r2 with ⟨hz, _⟩ | ⟨b, off, cap, rfl, hpos, hbl, hcell⟩
  · rw [hz] at hl1; exact absurd hl1 (by simp)
  clear e0 e1 e2 e4 r1 oT hx
  go_enter Try.func70, Try.ntmps70
  go_wp2_with fail
  go_quiet (first | (go_at_call 97; first | (with_reducible exact Calls.quiet_of (l00In_is true T.vars 1 8 _ E0.out)) | (with_reducible exact Calls.quiet_of (l00In_is true (T.S.length : Nat) 1 8 _ E1.out))) | (go_at_call 105; exact Calls.quiet_of (l02Wide_any _ _ _ T _ (TP.dn HP.out) HV.out n2)) | (go_at_call 98; exact Calls.quiet_of (l02Finite_is _ _ _ _ R1.out n1 E4.out)))
  go_wp2_with fail
  go_loopg [4] T.S.length (fun gk i wr => ∃ k : Nat, k ≤ T.S.length ∧ gk + k = T.S.length ∧ i = .int .i64 k ∧ (∀ j, j < k → (colB T j && newB T j) = true) ∧ ∃ n, wr = w.drewN n)
  case atStart => exact ⟨0, Nat.zero_le _, by omega, rfl, fun j hj => by omega, _, rfl⟩
  case round =>
    obtain ⟨k, hk, hgk, rfl, hall, hwr⟩ := hrel
    have HA := Lib.hid hall
    clear hall
    have d0 : wr.cell? ⟨g, 0, none⟩ = some (.int .i64 T.vars) := by obtain ⟨n, rfl⟩ := hwr; exact c0
    have d2 : wr.cell? ⟨g, 2, none⟩ = some (.slice (some ⟨b, off, none⟩) T.S.length (T.S.length + cap)) := by obtain ⟨n, rfl⟩ := hwr; exact c2
    have HPW : Hid (TP wr g (.slice ao1 T.N.length cap1) (.slice (some ⟨b, off, none⟩) T.S.length (T.S.length + cap)) T) := Lib.hid (by obtain ⟨n, rfl⟩ := hwr; exact TP.dn HP.out)
    have HW : Hid (∃ n, wr = w.drewN n) := Lib.hid hwr
    have hcw : Hid (∀ i, i < T.S.length → wr.cell? ⟨b, off + i, none⟩ = some (.int .i64 (T.S.getD i 0))) := Lib.hid (by obtain ⟨n, rfl⟩ := hwr; exact hcell)
    clear hcell hwr c0 c1 c2 e3
    obtain ⟨wo, rfl⟩ : ∃ x : World, x = wr := ⟨_, rfl⟩
    obtain ⟨go, rfl⟩ : ∃ x : Nat, x = gk := ⟨_, rfl⟩
    by_cases hlt : k < T.S.length
    · have x1 := hcw.out k hlt
      have HK := Lib.hid hk
      clear hk
      cases hc : colB T k with
      | false =>
        have HC := Lib.hid hc
        have HC2 : Hid ((decide (0 ≤ T.S.getD k 0) && decide (T.S.getD k 0 ≤ T.wide - 2)) = false) := Lib.hid hc
        clear hc
        generalize T.S.getD k 0 = y at x1 HC2
        go_wp2_with fail
        go_quiet (first | (go_at_call 105; exact Calls.quiet_of (l02Wide_any _ _ _ T _ (TP.dn HPW.out) HV.out n2)) | (go_at_call 97; exact Calls.quiet_of (l00In_is false y 0 (T.wide - 2) _ HC2.out)))
        go_wp2_with fail
        go_ret
        obtain ⟨n, hn⟩ := HW.out
        exact ⟨by rw [basB_no hlt (by rw [HC.out]; rfl)]; rfl, _, by rw [hn]; exact World.drewN_drewN _ _ _⟩
      | true =>
        have HC := Lib.hid hc
        have HC2 : Hid ((decide (0 ≤ T.S.getD k 0) && decide (T.S.getD k 0 ≤ T.wide - 2)) = true) := Lib.hid hc
        clear hc
        generalize T.S.getD k 0 = y at x1 HC2
        go_wp2_with fail
        go_quiet (first | (go_at_call 105; exact Calls.quiet_of (l02Wide_any _ _ _ T _ (TP.dn HPW.out) HV.out n2)) | (go_at_call 97; exact Calls.quiet_of (l00In_is true y 0 (T.wide - 2) _ HC2.out)))
        go_wp2_with fail
        generalize hW : wo.drewN _ = wp
        have HW2 : Hid (∃ n, wp = w.drewN n) := Lib.hid (by obtain ⟨n, hn⟩ := HW.out; exact ⟨_, by rw [← hW, hn]; exact World.drewN_drewN _ _ _⟩)
        have p2 : wp.cell? ⟨g, 2, none⟩ = some (.slice (some ⟨b, off, none⟩) T.S.length (T.S.length + cap)) := by rw [← hW]; exact d2
        have y1 : wp.cell? ⟨b, off + k, none⟩ = some (.int .i64 (T.S.getD k 0)) := by rw [← hW]; exact hcw.out k hlt
        have hcp : Hid (∀ i, i < T.S.length → wp.cell? ⟨b, off + i, none⟩ = some (.int .i64 (T.S.getD i 0))) := Lib.hid (by rw [← hW]; exact hcw.out)
        clear hW d0 d2 x1 hcw HPW
        go_loopg [5] k (fun gm m wr => ∃ j : Nat, j ≤ k ∧ gm + j = k ∧ m = .int .i64 j ∧ (∀ q, q < j → (T.S.getD q 0 == T.S.getD k 0) = false) ∧ ∃ n, wr = wp.drewN n)
        case atStart => exact ⟨0, Nat.zero_le _, by omega, rfl, fun j hj => by omega, 0, rfl⟩
        case round =>
          obtain ⟨j, hj, hgj, rfl, hnone, hwr⟩ := hrel
          have HN := Lib.hid hnone
          clear hnone
          have q2 : wr.cell? ⟨g, 2, none⟩ = some (.slice (some ⟨b, off, none⟩) T.S.length (T.S.length + cap)) := by obtain ⟨n, rfl⟩ := hwr; exact p2
          have z1 : wr.cell? ⟨b, off + k, none⟩ = some (.int .i64 (T.S.getD k 0)) := by obtain ⟨n, rfl⟩ := hwr; exact y1
          have HW3 : Hid (∃ n, wr = w.drewN n) := Lib.hid (by obtain ⟨n, rfl⟩ := hwr; obtain ⟨m, hm⟩ := HW2.out; exact ⟨_, by rw [hm]; exact World.drewN_drewN _ _ _⟩)
          have HW4 : Hid (∃ n, wr = wp.drewN n) := Lib.hid hwr
          by_cases hjk : j < k
          · have hjl : j < T.S.length := by omega
            have z2 : wr.cell? ⟨b, off + j, none⟩ = some (.int .i64 (T.S.getD j 0)) := by obtain ⟨n, rfl⟩ := hwr; exact hcp.out j hjl
            clear hwr p2 y1
            cases hs : (T.S.getD j 0 == T.S.getD k 0) with
            | true =>
              have HS := Lib.hid hs
              generalize T.S.getD k 0 = y at z1 hs
              generalize T.S.getD j 0 = z at z2 hs
              go_wp2_with fail
              go_quiet (fail)
              go_wp2_with fail
              go_ret
              obtain ⟨n, hn⟩ := HW3.out
              exact ⟨by rw [basB_no hlt (by rw [HC.out, newB_no hjk HS.out]; rfl)]; rfl, _, by rw [hn]; exact World.drewN_drewN _ _ _⟩
            | false =>
              have HS := Lib.hid hs
              generalize T.S.getD k 0 = y at z1 hs
              generalize T.S.getD j 0 = z at z2 hs
              go_wp2_with fail
              go_quiet (fail)
              go_wp2_with fail
              go_roundg (gk - 1)
              case measure => omega
              case rel =>
                obtain ⟨n, hn⟩ := HW4.out
                exact ⟨j + 1, by omega, by omega, by go_num, fun q hq => by
                  by_cases e : q = j
                  · subst e; exact HS.out
                  · exact HN.out q (by omega), _, by rw [hn]; exact World.drewN_drewN _ _ _⟩
          · obtain rfl : j = k := by omega
            clear hwr p2 y1
            go_wp2_with fail
            go_roundg (go - 1)
            case measure => omega
            case rel =>
              obtain ⟨n, hn⟩ := HW3.out
              exact ⟨j + 1, by omega, by omega, by go_num, fun q hq => by
                by_cases e : q = j
                · subst e; rw [HC.out, newB_yes HN.out]; rfl
                · exact HA.out q (by omega), n, hn⟩
    · obtain rfl : k = T.S.length := by omega
      go_wp2_with fail
      go_ret
      obtain ⟨n, hn⟩ := HW.out
      exact ⟨by rw [basB_yes HA.out]; rfl, n, hn⟩
end Go.Proofs.Ytdacbkkanhelfaa
