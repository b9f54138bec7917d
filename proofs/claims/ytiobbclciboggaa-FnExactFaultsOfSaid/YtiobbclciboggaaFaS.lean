/- Faults in a room: the model. -/
import Derived.Test.YtiobbclciboggaaFaN
import Derived.Test.YtiobbclciboggaaLiI
import Derived.StillTailTactics
import Derived.Deep.RegionWith
namespace Go.Proofs.Ytiobbclciboggaa
open Go.RowKit Go.ChangeShapes Go.WideShapes

theorem Grows.front {B g n cap : Nat} {Y : List Int} {w : World} (h : Grows (Value.int .i64) 2 B (.slice (some ⟨g, 0, none⟩) n cap) Y w) {M : Nat} (hM : M ≤ Y.length) : Grows (Value.int .i64) 2 B (.slice (some ⟨g, 0, none⟩) M cap) (Y.take M) w := by
  obtain ⟨h1, h2⟩ := h
  have hl : (Y.take M).length = M := by simp; omega
  refine ⟨by simp, ?_⟩
  rcases h2 with ⟨e, _⟩ | ⟨g', cap', cur, e, hB, hg, hn, hc, hs, ht⟩
  · cases e
  · injection e with e1 e2 e3
    injection e1 with e1
    injection e1 with e1 _ _
    subst e1 e3
    refine Or.inr ⟨g, cap, cur, by rw [hl], hB, hg, by omega, hc, hs, ?_⟩
    rw [hl, Nat.mul_one, List.map_take, ← ht, Nat.mul_one, List.take_take, Nat.min_eq_left hM]
theorem lies_drop {w : World} {g M : Nat} {K : List Nat} (h : Arr (Value.int .i64) 0 w g 0 (intsN K)) {j : Nat} {u : Value} (hu : ((intsN (K.drop (M + 1))).map (Value.int .i64))[j]? = some u) : w.cell? ⟨g, M + 1 + j, none⟩ = some u := by
  have hj : M + 1 + j < K.length := by
    have := (List.getElem?_eq_some_iff.1 hu).1
    simp [intsN] at this
    omega
  have h0 := h.cells (M + 1 + j) (by rw [intsN_len]; exact hj)
  rw [Nat.zero_add] at h0
  rw [h0, ← hu]
  simp [intsN, List.getD, hj]
/-- The last place of x among the first p. -/
def lstI (Y : List Nat) (x : Nat) : Nat → Int
  | 0 => -1
  | p + 1 => if Y.getD p 0 = x then (p : Int) else lstI Y x p
theorem lstI_none {Y : List Nat} {x : Nat} (h : x ∉ Y) : ∀ p, p ≤ Y.length → lstI Y x p = -1
  | 0, _ => rfl
  | p + 1, hp => by
    have e : Y.getD p 0 ≠ x := fun q => h (by rw [← q, show Y.getD p 0 = Y[p] by simp [List.getD, (show p < Y.length by omega)]]; exact List.getElem_mem _)
    unfold lstI
    rw [if_neg e]
    exact lstI_none h p (by omega)
theorem lstI_some {Y : List Nat} {x : Nat} : ∀ p, p ≤ Y.length → (∃ j, j < p ∧ Y.getD j 0 = x) → ∃ M : Nat, M < Y.length ∧ lstI Y x p = (M : Int) ∧ Y.getD M 0 = x
  | 0, _, ⟨j, h, _⟩ => by omega
  | p + 1, hp, ⟨j, h1, h2⟩ => by
    by_cases e : Y.getD p 0 = x
    · exact ⟨p, by omega, by unfold lstI; rw [if_pos e], e⟩
    · obtain ⟨M, a, b, c⟩ := lstI_some p (by omega) ⟨j, by
        by_cases q : j = p
        · subst q; exact absurd h2 e
        · omega, h2⟩
      exact ⟨M, a, by unfold lstI; rw [if_neg e]; exact b, c⟩
theorem lstI_bd {Y : List Nat} {x : Nat} : ∀ p, -1 ≤ lstI Y x p ∧ lstI Y x p < p
  | 0 => by unfold lstI; omega
  | p + 1 => by
    have := lstI_bd (Y := Y) (x := x) p
    unfold lstI
    split <;> omega
set_option maxRecDepth 100000 in
set_option maxHeartbeats 16000000 in
theorem specFaults_yes (v : Value) (Q : List Nat) (r : Nat) (rule : Int) (w : World) (hv : IL w v (intsN Q)) (h1 : asksB (intsN Q) 63 = true) (hr1 : 1 ≤ r) (hr2 : r ≤ 16) (hu1 : 0 ≤ rule) (hu2 : rule ≤ 2) (hq : Q.length ≤ 64) :
    Calls Try.prog 43 #[v, .int .i64 (r : Int), .int .i64 rule] w (SaysIB ((fsS Q r rule Q.length).2 : Nat) true w) := by
  obtain ⟨i0, hi, hz0, hz1, hz2⟩ := info_parts Try.infoFi
  have HV := Lib.hid hv
  have H1 := Lib.hid h1
  have hql := intsN_len Q
  have HOK := Lib.hid (fun i hi => fsS_ok (Q := Q) (rule := rule) hr1 i hi)
  rcases hv with ⟨hz, ao, cap, rfl⟩ | ⟨b, off, cap, rfl, hpos, hbl, hcell⟩
  · exfalso
    have : few64 (intsN Q).length = true := by unfold asksB at h1; simp only [Bool.and_eq_true] at h1; exact h1.2
    rw [hz] at this
    revert this; decide
  rw [hql] at hcell HV ⊢
  have HC : Hid (∀ W, Below w.heap.size w W → ∀ i, i < Q.length → W.cell? ⟨b, off + i, none⟩ = some (.int .i64 ((Q.getD i 0 : Nat) : Int))) := Lib.hid fun W h i hi => by
    rw [h.cell (p := ⟨b, off + i, none⟩) hbl, hcell i hi, intsN_at hi]
  have HR1 : Hid ((decide ((1 : Int) ≤ (r : Int)) && decide ((r : Int) ≤ 16)) = true) := Lib.hid (by rw [decide_eq_true (by omega), decide_eq_true (by omega)]; rfl)
  have HR2 : Hid ((decide ((0 : Int) ≤ rule) && decide (rule ≤ 2)) = true) := Lib.hid (by rw [decide_eq_true hu1, decide_eq_true hu2]; rfl)
  clear hcell h1 hql hpos
  go_enter Try.func43, Try.ntmps43
  go_wp2_with fail
  go_at_call 79; refine (l06Asks_is true _ (intsN Q) 64 _ HV.out (by rw [intsN_len]; omega) (by omega) (by omega) H1.out).mono ?_; rintro e w1 ⟨rfl, m1, rfl⟩
  go_wp2_with fail
  go_at_call 64; refine (l00In_is true (r : Int) 1 16 _ HR1.out).mono ?_; rintro e w2 ⟨rfl, m2, rfl⟩
  go_wp2_with fail
  go_at_call 64; refine (l00In_is true rule 0 2 _ HR2.out).mono ?_; rintro e w3 ⟨rfl, m3, rfl⟩
  obtain ⟨w3, hw3⟩ : ∃ x : World, x = (w.drewN (m1 + m2)).drewN m3 := ⟨_, rfl⟩
  have B3 : Hid (Below w.heap.size w w3) := Lib.hid (by rw [hw3]; exact below_drewN (below_drewN (Below.refl _ _) _) _)
  have hw3s : w.heap.size ≤ w3.heap.size := B3.out.size
  have HBW : Hid (∀ W, Below w3.heap.size w3 W → Below w.heap.size w W) := Lib.hid fun W h => B3.out.trans (h.mono hw3s)
  have HVW : Hid (∀ W, Below w3.heap.size w3 W → IL W (.slice (some ⟨b, off, none⟩) Q.length (Q.length + cap)) (intsN Q)) := Lib.hid fun W h => HV.out.below (HBW.out W h) (Nat.le_refl _)
  rw [← hw3]
  clear hw3
  have G3 : Hid (Grows (Value.int .i64) 2 w3.heap.size (.slice (some ⟨w3.heap.size, 0, none⟩) 0 0) (intsN []) (w3.alloc (.cells #[] 2))) := Lib.hid (Grows.empty (Value.int .i64) _ _ w3 (Nat.le_refl _))
  have B4 : Hid (Below w3.heap.size w3 (w3.alloc (.cells #[] 2))) := Lib.hid (below_alloc _ _)
  go_wp2_with fail
  go_loopg [8, 9, 10] Q.length (fun gk s f i wr => ∃ k : Nat, k ≤ Q.length ∧ gk + k = Q.length ∧ i = .int .i64 k ∧ f = .int .i64 ((fsS Q r rule k).2 : Nat) ∧ Grows (Value.int .i64) 2 w3.heap.size s (intsN (fsS Q r rule k).1) wr ∧ Below w3.heap.size w3 wr)
  case atStart => exact ⟨0, Nat.zero_le _, by omega, rfl, rfl, G3.out, B4.out⟩
  case round =>
    clear G3 B4
    obtain ⟨k, hk, hgk, rfl, rfl, hG, hB⟩ := hrel
    have HB := Lib.hid hB
    by_cases hlt : k < Q.length
    · have c1 := HC.out _ (HBW.out _ hB) k hlt
      have ok := HOK.out k (by omega)
      have ND := Lib.hid ok.nd
      have fl := ok.len
      have ff := ok.few
      have U : Hid (fsS Q r rule (k + 1) = fsStep r rule (Q.drop (k + 1)) (Q.getD k 0) (fsS Q r rule k)) := Lib.hid rfl
      have XQ : Hid (∀ W, Below w3.heap.size w3 W → W.cell? ⟨b, off + k, none⟩ = some (.int .i64 ((Q.getD k 0 : Nat) : Int))) := Lib.hid fun W h => HC.out W (HBW.out W h) k hlt
      generalize fsS Q r rule k = P at *
      obtain ⟨Y, f⟩ := P
      dsimp only at *
      obtain ⟨x, hx⟩ : ∃ x, x = Q.getD k 0 := ⟨_, rfl⟩
      have HX := Lib.hid hx
      rw [← hx] at U XQ c1
      clear hx ok
      have HG := Lib.hid hG
      obtain ⟨sa, sc, rfl⟩ := SI.len (d := (0 : Int)) hG.si
      rw [intsN_len] at HG ⊢
      have HIL : Hid (∀ q, IL (wr.drewN q) (.slice sa Y.length sc) (intsN Y)) := Lib.hid fun q => by
        have h := (HG.out.drewN q).si (d := (0 : Int)); exact h.vl
      have HCE : Hid (∀ i, i < Y.length → ∃ g, sa = some ⟨g, 0, none⟩ ∧ ∀ q, (wr.drewN q).cell? ⟨g, i, none⟩ = some (.int .i64 ((Y.getD i 0 : Nat) : Int))) := Lib.hid fun i hi => by
        obtain ⟨g, gc, cur, e, _, _, _, _, _, _, ha⟩ := Grows.at HG.out (by omega)
        injection e with e1 _ _
        have h0 := ha.cells i (by rw [intsN_len]; exact hi)
        rw [Nat.zero_add, intsN_at hi] at h0
        exact ⟨g, e1, fun q => h0⟩
      clear hG hB
      obtain ⟨wo, rfl⟩ : ∃ y : World, y = wr := ⟨_, rfl⟩
      obtain ⟨g2, rfl⟩ : ∃ y : Nat, y = gk := ⟨_, rfl⟩
      go_wp2_with fail
      go_loopg [11, 12] Y.length (fun gk a i wi => ∃ p : Nat, p ≤ Y.length ∧ gk + p = Y.length ∧ i = .int .i64 (p : Int) ∧ a = .int .i64 (lstI Y x p) ∧ ∃ q, wi = wo.drewN q)
      case atStart => exact ⟨0, Nat.zero_le _, by omega, rfl, rfl, 0, rfl⟩
      case round =>
        obtain ⟨p, hp, hgp, rfl, rfl, q0, rfl⟩ := hrel
        have bd := lstI_bd (Y := Y) (x := x) p
        by_cases hlp : p < Y.length
        · obtain ⟨g, rfl, cy'⟩ := HCE.out p hlp
          have cq' : ∀ q, (wo.drewN q).cell? ⟨b, off + k, none⟩ = some (.int .i64 (x : Int)) := fun q => XQ.out _ (below_drewN HB.out q)
          have cy := cy' q0
          have cq := cq' q0
          have lp1 : (p : Int) < (Y.length : Int) := by omega
          have lk1 : (k : Int) < (Q.length : Int) := by omega
          have UL : Hid (lstI Y x (p + 1) = if Y.getD p 0 = x then (p : Int) else lstI Y x p) := Lib.hid rfl
          generalize Y.getD p 0 = y at cy cy' UL
          generalize lstI Y x p = l0 at *
          clear c1
          by_cases hxy : y = x
          · have hE : ((y : Int) == (x : Int)) = true := by simp; omega
            have UE : Hid (lstI Y x (p + 1) = (p : Int)) := Lib.hid (by rw [UL.out, if_pos hxy])
            subst hxy
            clear UL
            go_wp2_with fail
            go_quiet (fail)
            go_wp2_with fail
            go_roundg (gk - 1)
            case measure => omega
            case rel => exact ⟨p + 1, by omega, by omega, by go_num, by rw [UE.out], _, rfl⟩
          · have hE : ((y : Int) == (x : Int)) = false := by simp; omega
            have hE2 : ¬ (y : Int) = (x : Int) := by omega
            have UE : Hid (lstI Y x (p + 1) = l0) := Lib.hid (by rw [UL.out, if_neg hxy])
            clear UL hxy
            go_wp2_with fail
            go_quiet (fail)
            go_wp2_with fail
            go_roundg (gk - 1)
            case measure => omega
            case rel => exact ⟨p + 1, by omega, by omega, by go_num, by rw [UE.out], _, rfl⟩
        · obtain rfl : p = Y.length := by omega
          obtain ⟨t, ht⟩ : ∃ t, decide (x ∈ Y) = t := ⟨_, rfl⟩
          obtain ⟨w5, hw5⟩ : ∃ y : World, y = wo.drewN q0 := ⟨_, rfl⟩
          have G5 : Hid (Grows (Value.int .i64) 2 w3.heap.size (.slice sa Y.length sc) (intsN Y) w5) := Lib.hid (by rw [hw5]; exact HG.out.drewN q0)
          have B5 : Hid (Below w3.heap.size w3 w5) := Lib.hid (by rw [hw5]; exact below_drewN HB.out q0)
          have I5 : Hid (IL w5 (.slice sa Y.length sc) (intsN Y)) := Lib.hid (by rw [hw5]; exact HIL.out q0)
          rw [← hw5]
          clear hw5 HIL HCE HG c1
          cases t with
          | true =>
            have hm : x ∈ Y := of_decide_eq_true ht
            obtain ⟨M, hM, eM, eX⟩ := lstI_some (Y := Y) (x := x) Y.length (Nat.le_refl _) (by
              obtain ⟨j, hj, e⟩ := List.getElem_of_mem hm
              exact ⟨j, hj, by simp [List.getD, hj, e]⟩)
            rw [eM]
            by_cases hr : rule = 1
            · have UE : Hid (fsS Q r rule (k + 1) = ((Y.filter fun z => !(z == x)) ++ [x], f)) := Lib.hid (by rw [U.out]; unfold fsStep; dsimp only; rw [if_pos hm, if_pos hr])
              have HER := Lib.hid (erase_filter ND.out M hM)
              rw [eX] at HER
              obtain ⟨g, gc, cur, e, hBg, hgl, _, hgc, _, _, har⟩ := Grows.at G5.out (by omega)
              injection e with e1 _ e3
              have e3 := e3.symm
              subst e1 e3
              have A5 := Lib.hid har
              subst hr
              clear ht hm eM eX har U
              have GF : Hid (w5.drew.ownsRow w3.heap.size 2 1 (.slice (some ⟨g, 0, none⟩) M gc) M (((intsN Y).take M).map (Value.int .i64))) := Lib.hid (by
                have h := (G5.out.drewN 1).front (M := M) (by rw [intsN_len]; omega)
                unfold Grows at h
                rw [List.length_take, intsN_len, Nat.min_eq_left (by omega)] at h
                exact h)
              have HFM : Hid (((intsN Y).take M).map (Value.int .i64) ++ ((intsN (Y.drop (M + 1))).map (Value.int .i64)) = (intsN (Y.filter fun u => !(u == x))).map (Value.int .i64)) := Lib.hid (by
                rw [← HER.out, ← List.map_append]
                congr 1
                unfold intsN
                rw [List.map_append, List.map_take])
              have HFL : Hid (M + (Y.length - (M + 1)) = (intsN (Y.filter fun u => !(u == x))).length) := Lib.hid (by rw [intsN_len, ← HER.out, List.length_append, List.length_take, List.length_drop]; omega)
              have HLL : (Y.filter fun u => !(u == x)).length ≤ 16 := Nat.le_trans (List.length_filter_le _ _) (by omega)
              have w7 : IntKind.i64.wrap ((M : Int) + 1) = (M : Int) + 1 := by rw [IntKind.wrap_i64]; omega
              have b1 : (0 : Int) ≤ (M : Int) := by omega
              have b2 : (M : Int) ≤ (gc : Int) := by omega
              have b3' : (0 : Int) ≤ (M : Int) + 1 := by omega
              have b4 : (M : Int) + 1 ≤ (Y.length : Int) := by omega
              have b5 : (Y.length : Int) ≤ (gc : Int) := by omega
              by_cases hcap : gc = M + 1
              · have HL0 : Hid (Y.length = M + 1) := Lib.hid (by omega)
                have hdr : Y.drop (M + 1) = [] := List.drop_eq_nil_of_le (by rw [HL0.out]; exact Nat.le_refl _)
                have HFM2 : Hid (((intsN Y).take M).map (Value.int .i64) = (intsN (Y.filter fun u => !(u == x))).map (Value.int .i64)) := Lib.hid (by
                  have h0 := HFM.out
                  rw [hdr] at h0
                  rw [← h0]
                  simp [intsN])
                have HFL2 : Hid (M = (intsN (Y.filter fun u => !(u == x))).length) := Lib.hid (by rw [← HFL.out, HL0.out]; omega)
                clear hdr
                obtain ⟨N, hN⟩ : ∃ N, N = M + 1 := ⟨_, rfl⟩
                have HLN : Hid (Y.length = N) := Lib.hid (by rw [hN]; exact HL0.out)
                have w8 : IntKind.i64.wrap ((M : Int) + 1) = (N : Int) := by rw [w7]; omega
                have d1 : (M : Int) ≤ (N : Int) := by omega
                have d2 : (0 : Int) ≤ (N : Int) := by omega
                have HM13 : Hid (M ≤ 16) := Lib.hid (by omega)
                rw [← hN] at hcap
                subst hcap
                rw [HLN.out]
                clear w7 hN b3' b4 b5 b2 hgc hM
                go_wp2_with fail
                all_goals
                  refine wp_region_still_tail 7 (by kernel_rfl) (by kernel_rfl) ?_
                  simp only [List.take_succ_cons, List.take_zero, List.drop_succ_cons, List.drop_zero]
                  repeat still_step
                  refine wpStill_nil ?_
                  change wpList _ _ _ _ _ w5.drew
                  refine wpList_append_own_at _ rfl _ _ 24 rfl w3.heap.size 2 i0 (.int .i64 0) 1 8 Try.underlying24 hi hz0 hz1 hz2 rfl (by decide) _ M _ rfl (GF.out) ⟨g, 0, none⟩ _ _ [] rfl (by simp) (by intro j u hu; simp at hu) (by simp) (by have := HM13.out; simp; unfold maxLen; omega) (by have := HM13.out; simp; omega) (by have := B5.out.size; simpa using this) ?_
                  intro v6 w6 hown6 hgrow6 _ hat6
                  have T6 : Hid (Grows (Value.int .i64) 2 w3.heap.size v6 (intsN (Y.filter fun u => !(u == x))) w6) := Lib.hid (by unfold Grows; rw [← HFL2.out, ← HFM2.out]; simpa using hown6)
                  clear hat6
                  have B6 : Hid (Below w3.heap.size w3 w6) := Lib.hid ((below_drewN B5.out 1).grown hgrow6 B5.out.size (fun q hq => (World.ownsRow.lt GF.out q hq).1))
                  obtain ⟨ya, yc, rfl⟩ := SI.len (d := (0 : Int)) T6.out.si
                  rw [intsN_len] at T6 ⊢
                  have c1 := XQ.out _ B6.out
                  clear hown6 hgrow6
                  go_wp2_with (at_builtin; (refine wpList_append_own _ rfl _ _ 24 rfl w3.heap.size 2 i0 (.int .i64 0) 1 8 Try.underlying24 hi hz0 hz1 hz2 rfl (by decide) _ _ _ rfl (Grows.alloc T6.out _) ⟨w6.heap.size, 0, none⟩ 1 1 [.int .i64 (x : Int)] rfl rfl one_new (by intro u hu; simp at hu; subst hu; rfl) (by rw [intsN_len]; unfold maxLen; omega) (by rw [intsN_len]; omega) (by have := B6.out.size; simp; omega) ?_); intro v8 w8 hown8 hgrow8 _; have G8 : Hid (Grows (Value.int .i64) 2 w3.heap.size v8 (intsN ((Y.filter fun u => !(u == x)) ++ [x])) w8) := Lib.hid (by (rw [intsN_more]; exact Grows.more rfl hown8)); have B8 : Hid (Below w3.heap.size w3 w8) := Lib.hid ((B6.out.alloc B6.out.size _).grown hgrow8 (by have := B6.out.size; simp; omega) (fun q hq => (World.ownsRow.lt T6.out q hq).1)); clear hown8 hgrow8; obtain ⟨va, vc, rfl⟩ := SI.len (d := (0 : Int)) G8.out.si)
                  go_roundg (g2 - 1)
                  case measure => omega
                  case rel => exact ⟨k + 1, by omega, by omega, by go_num, by (rw [UE.out]), by rw [UE.out]; exact G8.out, B8.out⟩
              · skip
                go_wp2_with fail
                all_goals
                  refine wp_region_still_tail 7 (by kernel_rfl) (by kernel_rfl) ?_
                  simp only [List.take_succ_cons, List.take_zero, List.drop_succ_cons, List.drop_zero]
                  repeat still_step
                  refine wpStill_nil ?_
                  change wpList _ _ _ _ _ w5.drew
                  refine wpList_append_own_at _ rfl _ _ 24 rfl w3.heap.size 2 i0 (.int .i64 0) 1 8 Try.underlying24 hi hz0 hz1 hz2 rfl (by decide) _ M _ rfl (GF.out) ⟨g, M + 1, none⟩ (Y.length - (M + 1)) (gc - (M + 1)) ((intsN (Y.drop (M + 1))).map (Value.int .i64)) rfl (by simp [intsN_len]) ?c2 (map_oneI _) (by unfold maxLen; omega) (by omega) (by have := B5.out.size; simpa using this) ?_
                  case c2 => intro j u hu; rw [Go.WideShapes.add_plain]; exact lies_drop A5.out hu
                  intro v6 w6 hown6 hgrow6 _ hat6
                  have T6 : Hid (Grows (Value.int .i64) 2 w3.heap.size v6 (intsN (Y.filter fun u => !(u == x))) w6) := Lib.hid (by unfold Grows; rw [← HFL.out, ← HFM.out]; exact hown6)
                  clear hat6
                  have B6 : Hid (Below w3.heap.size w3 w6) := Lib.hid ((below_drewN B5.out 1).grown hgrow6 B5.out.size (fun q hq => (World.ownsRow.lt GF.out q hq).1))
                  obtain ⟨ya, yc, rfl⟩ := SI.len (d := (0 : Int)) T6.out.si
                  rw [intsN_len] at T6 ⊢
                  have c1 := XQ.out _ B6.out
                  clear hown6 hgrow6
                  go_wp2_with (at_builtin; (refine wpList_append_own _ rfl _ _ 24 rfl w3.heap.size 2 i0 (.int .i64 0) 1 8 Try.underlying24 hi hz0 hz1 hz2 rfl (by decide) _ _ _ rfl (Grows.alloc T6.out _) ⟨w6.heap.size, 0, none⟩ 1 1 [.int .i64 (x : Int)] rfl rfl one_new (by intro u hu; simp at hu; subst hu; rfl) (by rw [intsN_len]; unfold maxLen; omega) (by rw [intsN_len]; omega) (by have := B6.out.size; simp; omega) ?_); intro v8 w8 hown8 hgrow8 _; have G8 : Hid (Grows (Value.int .i64) 2 w3.heap.size v8 (intsN ((Y.filter fun u => !(u == x)) ++ [x])) w8) := Lib.hid (by (rw [intsN_more]; exact Grows.more rfl hown8)); have B8 : Hid (Below w3.heap.size w3 w8) := Lib.hid ((B6.out.alloc B6.out.size _).grown hgrow8 (by have := B6.out.size; simp; omega) (fun q hq => (World.ownsRow.lt T6.out q hq).1)); clear hown8 hgrow8; obtain ⟨va, vc, rfl⟩ := SI.len (d := (0 : Int)) G8.out.si)
                  go_roundg (g2 - 1)
                  case measure => omega
                  case rel => exact ⟨k + 1, by omega, by omega, by go_num, by (rw [UE.out]), by rw [UE.out]; exact G8.out, B8.out⟩
            · have UE : Hid (fsS Q r rule (k + 1) = (Y, f)) := Lib.hid (by rw [U.out]; unfold fsStep; dsimp only; rw [if_pos hm, if_neg hr])
              have hr1' : (rule == 1) = false := by simpa using hr
              have m0 : (0 : Int) ≤ (M : Int) := by omega
              clear ht hm eM eX U
              go_wp2_with fail
              go_roundg (g2 - 1)
              case measure => omega
              case rel => exact ⟨k + 1, by omega, by omega, by go_num, by rw [UE.out], by rw [UE.out]; exact G5.out, B5.out⟩
          | false =>
            have hm : ¬ x ∈ Y := of_decide_eq_false ht
            have eN := lstI_none hm Y.length (Nat.le_refl _)
            rw [eN]
            have wf : IntKind.i64.wrap ((f : Int) + 1) = ((f + 1 : Nat) : Int) := by rw [IntKind.wrap_i64]; omega
            by_cases hr : Y.length = r
            · have hY0 : 0 < Y.length := by omega
              have hri : ((Y.length : Int) == (r : Int)) = true := by simp; omega
              obtain ⟨g, gc, cur, e, hBg, hgl, _, hgc, _, _, har⟩ := Grows.at G5.out (by omega)
              injection e with e1 _ e3
              have e3 := e3.symm
              subst e1 e3
              have hMl := outI_lt (rule := rule) (rest := Q.drop (k + 1)) hY0
              have HER := Lib.hid (erase_filter ND.out (outI rule (Q.drop (k + 1)) Y) hMl)
              have UE : Hid (fsS Q r rule (k + 1) = ((Y.filter fun z => !(z == Y.getD (outI rule (Q.drop (k + 1)) Y) 0)) ++ [x], f + 1)) := Lib.hid (by rw [U.out]; unfold fsStep; dsimp only; rw [if_neg hm, if_pos hr])
              by_cases hr2' : rule = 2
              · have hOI : outI rule (Q.drop (k + 1)) Y = mxI (ltF (Q.drop (k + 1))) Y Y.length := by unfold outI; rw [if_pos hr2']
                rw [hOI] at hMl HER UE
                have HXM : Hid (∀ y ∈ Y, Q.getD k 0 ≠ y) := Lib.hid fun y hy e => hm (by rw [HX.out, e]; exact hy)
                subst hr2'
                have hyl : Y.length ≤ 16 := by omega
                have hrn : (r : Int) = (Y.length : Int) := by omega
                clear hrn
                clear ht hm eN har U hOI hr
                go_wp2_with fail
                go_at_call 80; refine (l06Out_any _ _ Q Y k _ (HVW.out _ B5.out) hq hlt I5.out (by omega) hY0 HXM.out).mono ?_; rintro e w9 ⟨rfl, q9, rfl⟩
                obtain ⟨w5, hw5⟩ : ∃ y : World, y = w5.drewN q9 := ⟨_, rfl⟩
                have G5 : Hid (Grows (Value.int .i64) 2 w3.heap.size (.slice (some ⟨g, 0, none⟩) Y.length gc) (intsN Y) w5) := Lib.hid (by rw [hw5]; exact G5.out.drewN q9)
                have B5 : Hid (Below w3.heap.size w3 w5) := Lib.hid (by rw [hw5]; exact below_drewN B5.out q9)
                rw [← hw5]
                clear hw5
                obtain ⟨g', gc', cur', e', _, _, _, _, _, _, har⟩ := Grows.at G5.out (by omega)
                injection e' with e1 _ e3
                injection e1 with e1
                injection e1 with e1 _ _
                subst e1 e3
                have A5 := Lib.hid har
                obtain ⟨M, hMe⟩ : ∃ M, M = mxI (ltF (Q.drop (k + 1))) Y Y.length := ⟨_, rfl⟩
                rw [← hMe] at hMl HER UE ⊢
                have hM := hMl
                obtain ⟨z, hz⟩ : ∃ z, z = Y.getD M 0 := ⟨_, rfl⟩
                rw [← hz] at HER UE
                clear hMe hMl hz har
                have GF : Hid (w5.drew.ownsRow w3.heap.size 2 1 (.slice (some ⟨g, 0, none⟩) M gc) M (((intsN Y).take M).map (Value.int .i64))) := Lib.hid (by
                  have h := (G5.out.drewN 1).front (M := M) (by rw [intsN_len]; omega)
                  unfold Grows at h
                  rw [List.length_take, intsN_len, Nat.min_eq_left (by omega)] at h
                  exact h)
                have HFM : Hid (((intsN Y).take M).map (Value.int .i64) ++ ((intsN (Y.drop (M + 1))).map (Value.int .i64)) = (intsN (Y.filter fun u => !(u == z))).map (Value.int .i64)) := Lib.hid (by
                  rw [← HER.out, ← List.map_append]
                  congr 1
                  unfold intsN
                  rw [List.map_append, List.map_take])
                have HFL : Hid (M + (Y.length - (M + 1)) = (intsN (Y.filter fun u => !(u == z))).length) := Lib.hid (by rw [intsN_len, ← HER.out, List.length_append, List.length_take, List.length_drop]; omega)
                have HLL : (Y.filter fun u => !(u == z)).length ≤ 16 := Nat.le_trans (List.length_filter_le _ _) (by omega)
                have w7 : IntKind.i64.wrap ((M : Int) + 1) = (M : Int) + 1 := by rw [IntKind.wrap_i64]; omega
                have b1 : (0 : Int) ≤ (M : Int) := by omega
                have b2 : (M : Int) ≤ (gc : Int) := by omega
                have b3' : (0 : Int) ≤ (M : Int) + 1 := by omega
                have b4 : (M : Int) + 1 ≤ (Y.length : Int) := by omega
                have b5 : (Y.length : Int) ≤ (gc : Int) := by omega
                by_cases hcap : gc = M + 1
                · have HL0 : Hid (Y.length = M + 1) := Lib.hid (by omega)
                  have hdr : Y.drop (M + 1) = [] := List.drop_eq_nil_of_le (by rw [HL0.out]; exact Nat.le_refl _)
                  have HFM2 : Hid (((intsN Y).take M).map (Value.int .i64) = (intsN (Y.filter fun u => !(u == z))).map (Value.int .i64)) := Lib.hid (by
                    have h0 := HFM.out
                    rw [hdr] at h0
                    rw [← h0]
                    simp [intsN])
                  have HFL2 : Hid (M = (intsN (Y.filter fun u => !(u == z))).length) := Lib.hid (by rw [← HFL.out, HL0.out]; omega)
                  clear hdr
                  obtain ⟨N, hN⟩ : ∃ N, N = M + 1 := ⟨_, rfl⟩
                  have HLN : Hid (Y.length = N) := Lib.hid (by rw [hN]; exact HL0.out)
                  have w8 : IntKind.i64.wrap ((M : Int) + 1) = (N : Int) := by rw [w7]; omega
                  have d1 : (M : Int) ≤ (N : Int) := by omega
                  have d2 : (0 : Int) ≤ (N : Int) := by omega
                  have HM13 : Hid (M ≤ 16) := Lib.hid (by omega)
                  rw [← hN] at hcap
                  subst hcap
                  rw [HLN.out]
                  clear w7 hN b3' b4 b5 b2 hgc hM
                  go_wp2_with fail
                  all_goals
                    refine wp_region_still_tail 7 (by kernel_rfl) (by kernel_rfl) ?_
                    simp only [List.take_succ_cons, List.take_zero, List.drop_succ_cons, List.drop_zero]
                    repeat still_step
                    refine wpStill_nil ?_
                    change wpList _ _ _ _ _ w5.drew
                    refine wpList_append_own_at _ rfl _ _ 24 rfl w3.heap.size 2 i0 (.int .i64 0) 1 8 Try.underlying24 hi hz0 hz1 hz2 rfl (by decide) _ M _ rfl (GF.out) ⟨g, 0, none⟩ _ _ [] rfl (by simp) (by intro j u hu; simp at hu) (by simp) (by have := HM13.out; simp; unfold maxLen; omega) (by have := HM13.out; simp; omega) (by have := B5.out.size; simpa using this) ?_
                    intro v6 w6 hown6 hgrow6 _ hat6
                    have T6 : Hid (Grows (Value.int .i64) 2 w3.heap.size v6 (intsN (Y.filter fun u => !(u == z))) w6) := Lib.hid (by unfold Grows; rw [← HFL2.out, ← HFM2.out]; simpa using hown6)
                    clear hat6
                    have B6 : Hid (Below w3.heap.size w3 w6) := Lib.hid ((below_drewN B5.out 1).grown hgrow6 B5.out.size (fun q hq => (World.ownsRow.lt GF.out q hq).1))
                    obtain ⟨ya, yc, rfl⟩ := SI.len (d := (0 : Int)) T6.out.si
                    rw [intsN_len] at T6 ⊢
                    have c1 := XQ.out _ B6.out
                    clear hown6 hgrow6
                    go_wp2_with (at_builtin; (refine wpList_append_own _ rfl _ _ 24 rfl w3.heap.size 2 i0 (.int .i64 0) 1 8 Try.underlying24 hi hz0 hz1 hz2 rfl (by decide) _ _ _ rfl (Grows.alloc T6.out _) ⟨w6.heap.size, 0, none⟩ 1 1 [.int .i64 (x : Int)] rfl rfl one_new (by intro u hu; simp at hu; subst hu; rfl) (by rw [intsN_len]; unfold maxLen; omega) (by rw [intsN_len]; omega) (by have := B6.out.size; simp; omega) ?_); intro v8 w8 hown8 hgrow8 _; have G8 : Hid (Grows (Value.int .i64) 2 w3.heap.size v8 (intsN ((Y.filter fun u => !(u == z)) ++ [x])) w8) := Lib.hid (by (rw [intsN_more]; exact Grows.more rfl hown8)); have B8 : Hid (Below w3.heap.size w3 w8) := Lib.hid ((B6.out.alloc B6.out.size _).grown hgrow8 (by have := B6.out.size; simp; omega) (fun q hq => (World.ownsRow.lt T6.out q hq).1)); clear hown8 hgrow8; obtain ⟨va, vc, rfl⟩ := SI.len (d := (0 : Int)) G8.out.si)
                    go_roundg (g2 - 1)
                    case measure => omega
                    case rel => exact ⟨k + 1, by omega, by omega, by go_num, by (rw [UE.out]; go_num), by rw [UE.out]; exact G8.out, B8.out⟩
                · skip
                  go_wp2_with fail
                  all_goals
                    refine wp_region_still_tail 7 (by kernel_rfl) (by kernel_rfl) ?_
                    simp only [List.take_succ_cons, List.take_zero, List.drop_succ_cons, List.drop_zero]
                    repeat still_step
                    refine wpStill_nil ?_
                    change wpList _ _ _ _ _ w5.drew
                    refine wpList_append_own_at _ rfl _ _ 24 rfl w3.heap.size 2 i0 (.int .i64 0) 1 8 Try.underlying24 hi hz0 hz1 hz2 rfl (by decide) _ M _ rfl (GF.out) ⟨g, M + 1, none⟩ (Y.length - (M + 1)) (gc - (M + 1)) ((intsN (Y.drop (M + 1))).map (Value.int .i64)) rfl (by simp [intsN_len]) ?c2 (map_oneI _) (by unfold maxLen; omega) (by omega) (by have := B5.out.size; simpa using this) ?_
                    case c2 => intro j u hu; rw [Go.WideShapes.add_plain]; exact lies_drop A5.out hu
                    intro v6 w6 hown6 hgrow6 _ hat6
                    have T6 : Hid (Grows (Value.int .i64) 2 w3.heap.size v6 (intsN (Y.filter fun u => !(u == z))) w6) := Lib.hid (by unfold Grows; rw [← HFL.out, ← HFM.out]; exact hown6)
                    clear hat6
                    have B6 : Hid (Below w3.heap.size w3 w6) := Lib.hid ((below_drewN B5.out 1).grown hgrow6 B5.out.size (fun q hq => (World.ownsRow.lt GF.out q hq).1))
                    obtain ⟨ya, yc, rfl⟩ := SI.len (d := (0 : Int)) T6.out.si
                    rw [intsN_len] at T6 ⊢
                    have c1 := XQ.out _ B6.out
                    clear hown6 hgrow6
                    go_wp2_with (at_builtin; (refine wpList_append_own _ rfl _ _ 24 rfl w3.heap.size 2 i0 (.int .i64 0) 1 8 Try.underlying24 hi hz0 hz1 hz2 rfl (by decide) _ _ _ rfl (Grows.alloc T6.out _) ⟨w6.heap.size, 0, none⟩ 1 1 [.int .i64 (x : Int)] rfl rfl one_new (by intro u hu; simp at hu; subst hu; rfl) (by rw [intsN_len]; unfold maxLen; omega) (by rw [intsN_len]; omega) (by have := B6.out.size; simp; omega) ?_); intro v8 w8 hown8 hgrow8 _; have G8 : Hid (Grows (Value.int .i64) 2 w3.heap.size v8 (intsN ((Y.filter fun u => !(u == z)) ++ [x])) w8) := Lib.hid (by (rw [intsN_more]; exact Grows.more rfl hown8)); have B8 : Hid (Below w3.heap.size w3 w8) := Lib.hid ((B6.out.alloc B6.out.size _).grown hgrow8 (by have := B6.out.size; simp; omega) (fun q hq => (World.ownsRow.lt T6.out q hq).1)); clear hown8 hgrow8; obtain ⟨va, vc, rfl⟩ := SI.len (d := (0 : Int)) G8.out.si)
                    go_roundg (g2 - 1)
                    case measure => omega
                    case rel => exact ⟨k + 1, by omega, by omega, by go_num, by (rw [UE.out]; go_num), by rw [UE.out]; exact G8.out, B8.out⟩
              · have hOI : outI rule (Q.drop (k + 1)) Y = 0 := by unfold outI; rw [if_neg hr2']
                rw [hOI] at hMl HER UE
                have hru : (rule == 2) = false := by simpa using hr2'
                have A5 := Lib.hid har
                obtain ⟨z, hz⟩ : ∃ z, z = Y.getD 0 0 := ⟨_, rfl⟩
                rw [← hz] at HER UE
                have hyl : Y.length ≤ 16 := by omega
                obtain ⟨M, hMe⟩ : ∃ M : Nat, 0 = M := ⟨0, rfl⟩
                have HM0 := Lib.hid hMe.symm
                have HER : Hid (Y.take M ++ Y.drop (M + 1) = Y.filter fun u => !(u == z)) := Lib.hid (by rw [HM0.out]; exact HER.out)
                have hM : M < Y.length := by omega
                clear ht hm eN har U hOI hMl hz hMe hr
                go_upto_if 76 with fail
                go_cut [13] (fun s wx => s = .int .i64 (M : Int) ∧ w5 = wx)
                case first =>
                  clear hM
                  go_wp2_with fail
                  go_meet
                  exact ⟨by rw [HM0.out]; rfl, rfl⟩
                case rest =>
                  obtain ⟨rfl, rfl⟩ := hcut
                  have GF : Hid (w5.drew.ownsRow w3.heap.size 2 1 (.slice (some ⟨g, 0, none⟩) M gc) M (((intsN Y).take M).map (Value.int .i64))) := Lib.hid (by
                    have h := (G5.out.drewN 1).front (M := M) (by rw [intsN_len]; omega)
                    unfold Grows at h
                    rw [List.length_take, intsN_len, Nat.min_eq_left (by omega)] at h
                    exact h)
                  have HFM : Hid (((intsN Y).take M).map (Value.int .i64) ++ ((intsN (Y.drop (M + 1))).map (Value.int .i64)) = (intsN (Y.filter fun u => !(u == z))).map (Value.int .i64)) := Lib.hid (by
                    rw [← HER.out, ← List.map_append]
                    congr 1
                    unfold intsN
                    rw [List.map_append, List.map_take])
                  have HFL : Hid (M + (Y.length - (M + 1)) = (intsN (Y.filter fun u => !(u == z))).length) := Lib.hid (by rw [intsN_len, ← HER.out, List.length_append, List.length_take, List.length_drop]; omega)
                  have HLL : (Y.filter fun u => !(u == z)).length ≤ 16 := Nat.le_trans (List.length_filter_le _ _) (by omega)
                  have w7 : IntKind.i64.wrap ((M : Int) + 1) = (M : Int) + 1 := by rw [IntKind.wrap_i64]; omega
                  have b1 : (0 : Int) ≤ (M : Int) := by omega
                  have b2 : (M : Int) ≤ (gc : Int) := by omega
                  have b3' : (0 : Int) ≤ (M : Int) + 1 := by omega
                  have b4 : (M : Int) + 1 ≤ (Y.length : Int) := by omega
                  have b5 : (Y.length : Int) ≤ (gc : Int) := by omega
                  by_cases hcap : gc = M + 1
                  · have HL0 : Hid (Y.length = M + 1) := Lib.hid (by omega)
                    have hdr : Y.drop (M + 1) = [] := List.drop_eq_nil_of_le (by rw [HL0.out]; exact Nat.le_refl _)
                    have HFM2 : Hid (((intsN Y).take M).map (Value.int .i64) = (intsN (Y.filter fun u => !(u == z))).map (Value.int .i64)) := Lib.hid (by
                      have h0 := HFM.out
                      rw [hdr] at h0
                      rw [← h0]
                      simp [intsN])
                    have HFL2 : Hid (M = (intsN (Y.filter fun u => !(u == z))).length) := Lib.hid (by rw [← HFL.out, HL0.out]; omega)
                    clear hdr
                    obtain ⟨N, hN⟩ : ∃ N, N = M + 1 := ⟨_, rfl⟩
                    have HLN : Hid (Y.length = N) := Lib.hid (by rw [hN]; exact HL0.out)
                    have w8 : IntKind.i64.wrap ((M : Int) + 1) = (N : Int) := by rw [w7]; omega
                    have d1 : (M : Int) ≤ (N : Int) := by omega
                    have d2 : (0 : Int) ≤ (N : Int) := by omega
                    have HM13 : Hid (M ≤ 16) := Lib.hid (by omega)
                    rw [← hN] at hcap
                    subst hcap
                    rw [HLN.out]
                    clear w7 hN b3' b4 b5 b2 hgc hM
                    go_wp2_with fail
                    all_goals
                      refine wp_region_still_tail 7 (by kernel_rfl) (by kernel_rfl) ?_
                      simp only [List.take_succ_cons, List.take_zero, List.drop_succ_cons, List.drop_zero]
                      repeat still_step
                      refine wpStill_nil ?_
                      change wpList _ _ _ _ _ w5.drew
                      refine wpList_append_own_at _ rfl _ _ 24 rfl w3.heap.size 2 i0 (.int .i64 0) 1 8 Try.underlying24 hi hz0 hz1 hz2 rfl (by decide) _ M _ rfl (GF.out) ⟨g, 0, none⟩ _ _ [] rfl (by simp) (by intro j u hu; simp at hu) (by simp) (by have := HM13.out; simp; unfold maxLen; omega) (by have := HM13.out; simp; omega) (by have := B5.out.size; simpa using this) ?_
                      intro v6 w6 hown6 hgrow6 _ hat6
                      have T6 : Hid (Grows (Value.int .i64) 2 w3.heap.size v6 (intsN (Y.filter fun u => !(u == z))) w6) := Lib.hid (by unfold Grows; rw [← HFL2.out, ← HFM2.out]; simpa using hown6)
                      clear hat6
                      have B6 : Hid (Below w3.heap.size w3 w6) := Lib.hid ((below_drewN B5.out 1).grown hgrow6 B5.out.size (fun q hq => (World.ownsRow.lt GF.out q hq).1))
                      obtain ⟨ya, yc, rfl⟩ := SI.len (d := (0 : Int)) T6.out.si
                      rw [intsN_len] at T6 ⊢
                      have c1 := XQ.out _ B6.out
                      clear hown6 hgrow6
                      go_wp2_with (at_builtin; (refine wpList_append_own _ rfl _ _ 24 rfl w3.heap.size 2 i0 (.int .i64 0) 1 8 Try.underlying24 hi hz0 hz1 hz2 rfl (by decide) _ _ _ rfl (Grows.alloc T6.out _) ⟨w6.heap.size, 0, none⟩ 1 1 [.int .i64 (x : Int)] rfl rfl one_new (by intro u hu; simp at hu; subst hu; rfl) (by rw [intsN_len]; unfold maxLen; omega) (by rw [intsN_len]; omega) (by have := B6.out.size; simp; omega) ?_); intro v8 w8 hown8 hgrow8 _; have G8 : Hid (Grows (Value.int .i64) 2 w3.heap.size v8 (intsN ((Y.filter fun u => !(u == z)) ++ [x])) w8) := Lib.hid (by (rw [intsN_more]; exact Grows.more rfl hown8)); have B8 : Hid (Below w3.heap.size w3 w8) := Lib.hid ((B6.out.alloc B6.out.size _).grown hgrow8 (by have := B6.out.size; simp; omega) (fun q hq => (World.ownsRow.lt T6.out q hq).1)); clear hown8 hgrow8; obtain ⟨va, vc, rfl⟩ := SI.len (d := (0 : Int)) G8.out.si)
                      go_roundg (g2 - 1)
                      case measure => omega
                      case rel => exact ⟨k + 1, by omega, by omega, by go_num, by (rw [UE.out]; go_num), by rw [UE.out]; exact G8.out, B8.out⟩
                  · skip
                    go_wp2_with fail
                    all_goals
                      refine wp_region_still_tail 7 (by kernel_rfl) (by kernel_rfl) ?_
                      simp only [List.take_succ_cons, List.take_zero, List.drop_succ_cons, List.drop_zero]
                      repeat still_step
                      refine wpStill_nil ?_
                      change wpList _ _ _ _ _ w5.drew
                      refine wpList_append_own_at _ rfl _ _ 24 rfl w3.heap.size 2 i0 (.int .i64 0) 1 8 Try.underlying24 hi hz0 hz1 hz2 rfl (by decide) _ M _ rfl (GF.out) ⟨g, M + 1, none⟩ (Y.length - (M + 1)) (gc - (M + 1)) ((intsN (Y.drop (M + 1))).map (Value.int .i64)) rfl (by simp [intsN_len]) ?c2 (map_oneI _) (by unfold maxLen; omega) (by omega) (by have := B5.out.size; simpa using this) ?_
                      case c2 => intro j u hu; rw [Go.WideShapes.add_plain]; exact lies_drop A5.out hu
                      intro v6 w6 hown6 hgrow6 _ hat6
                      have T6 : Hid (Grows (Value.int .i64) 2 w3.heap.size v6 (intsN (Y.filter fun u => !(u == z))) w6) := Lib.hid (by unfold Grows; rw [← HFL.out, ← HFM.out]; exact hown6)
                      clear hat6
                      have B6 : Hid (Below w3.heap.size w3 w6) := Lib.hid ((below_drewN B5.out 1).grown hgrow6 B5.out.size (fun q hq => (World.ownsRow.lt GF.out q hq).1))
                      obtain ⟨ya, yc, rfl⟩ := SI.len (d := (0 : Int)) T6.out.si
                      rw [intsN_len] at T6 ⊢
                      have c1 := XQ.out _ B6.out
                      clear hown6 hgrow6
                      go_wp2_with (at_builtin; (refine wpList_append_own _ rfl _ _ 24 rfl w3.heap.size 2 i0 (.int .i64 0) 1 8 Try.underlying24 hi hz0 hz1 hz2 rfl (by decide) _ _ _ rfl (Grows.alloc T6.out _) ⟨w6.heap.size, 0, none⟩ 1 1 [.int .i64 (x : Int)] rfl rfl one_new (by intro u hu; simp at hu; subst hu; rfl) (by rw [intsN_len]; unfold maxLen; omega) (by rw [intsN_len]; omega) (by have := B6.out.size; simp; omega) ?_); intro v8 w8 hown8 hgrow8 _; have G8 : Hid (Grows (Value.int .i64) 2 w3.heap.size v8 (intsN ((Y.filter fun u => !(u == z)) ++ [x])) w8) := Lib.hid (by (rw [intsN_more]; exact Grows.more rfl hown8)); have B8 : Hid (Below w3.heap.size w3 w8) := Lib.hid ((B6.out.alloc B6.out.size _).grown hgrow8 (by have := B6.out.size; simp; omega) (fun q hq => (World.ownsRow.lt T6.out q hq).1)); clear hown8 hgrow8; obtain ⟨va, vc, rfl⟩ := SI.len (d := (0 : Int)) G8.out.si)
                      go_roundg (g2 - 1)
                      case measure => omega
                      case rel => exact ⟨k + 1, by omega, by omega, by go_num, by (rw [UE.out]; go_num), by rw [UE.out]; exact G8.out, B8.out⟩
            · have UE : Hid (fsS Q r rule (k + 1) = (Y ++ [x], f + 1)) := Lib.hid (by rw [U.out]; unfold fsStep; dsimp only; rw [if_neg hm, if_neg hr])
              have hri : ((Y.length : Int) == (r : Int)) = false := by simp; omega
              have hri2 : ¬ (Y.length : Int) = (r : Int) := by omega
              have T6 := G5
              have B6 := B5
              obtain ⟨w6, rfl⟩ : ∃ y : World, y = w5 := ⟨_, rfl⟩
              have c1 := XQ.out _ B6.out
              clear ht hm eN U
              go_wp2_with (at_builtin; (refine wpList_append_own _ rfl _ _ 24 rfl w3.heap.size 2 i0 (.int .i64 0) 1 8 Try.underlying24 hi hz0 hz1 hz2 rfl (by decide) _ _ _ rfl (Grows.alloc T6.out _) ⟨w6.heap.size, 0, none⟩ 1 1 [.int .i64 (x : Int)] rfl rfl one_new (by intro u hu; simp at hu; subst hu; rfl) (by rw [intsN_len]; unfold maxLen; omega) (by rw [intsN_len]; omega) (by have := B6.out.size; simp; omega) ?_); intro v8 w8 hown8 hgrow8 _; have G8 : Hid (Grows (Value.int .i64) 2 w3.heap.size v8 (intsN (Y ++ [x])) w8) := Lib.hid (by (rw [intsN_more]; exact Grows.more rfl hown8)); have B8 : Hid (Below w3.heap.size w3 w8) := Lib.hid ((B6.out.alloc B6.out.size _).grown hgrow8 (by have := B6.out.size; simp; omega) (fun q hq => (World.ownsRow.lt T6.out q hq).1)); clear hown8 hgrow8; obtain ⟨va, vc, rfl⟩ := SI.len (d := (0 : Int)) G8.out.si)
              go_roundg (g2 - 1)
              case measure => omega
              case rel => exact ⟨k + 1, by omega, by omega, by go_num, by (rw [UE.out]; go_num), by rw [UE.out]; exact G8.out, B8.out⟩
    · obtain rfl : k = Q.length := by omega
      clear hG hB
      go_wp2_with fail
      go_ret2
      exact ⟨rfl, HBW.out _ HB.out⟩
theorem specFaultsOf_any (v : Value) (A : List Int) (room rule : Int) (w : World) (hv : IL w v A) (o : OKI A) (_ : -9223372036854775808 ≤ room ∧ room ≤ 9223372036854775807) (_ : -9223372036854775808 ≤ rule ∧ rule ≤ 9223372036854775807) :
    Calls Try.prog 43 #[v, .int .i64 room, .int .i64 rule] w (SaysIB (faI A room rule) (okF A room rule) w) := by
  cases hc : okF A room rule with
  | false => have h := specFaultsOf_no v A room rule w hv o hc; rwa [hc] at h
  | true =>
    have hc2 := hc
    unfold okF at hc2
    simp only [Bool.and_eq_true] at hc2
    obtain ⟨h1, h2, h3⟩ := hc2
    have e2 : faI A room rule = ((fsS (A.map Int.toNat) room.toNat rule A.length).2 : Nat) := by unfold faI; rw [hc]; rfl
    have r2 : 1 ≤ room ∧ room ≤ 16 := by unfold inB at h2; simpa using h2
    have r3 : 0 ≤ rule ∧ rule ≤ 2 := by unfold inB at h3; simpa using h3
    have hl : A.length ≤ 64 := by
      have : few64 A.length = true := by unfold asksB at h1; simp only [Bool.and_eq_true] at h1; exact h1.2
      unfold few64 at this; simp only [Bool.and_eq_true, decide_eq_true_eq] at this; omega
    obtain ⟨hA, hb⟩ := asks_nat h1
    rw [e2]
    have hq : (A.map Int.toNat).length = A.length := by simp
    rw [← hq]
    have h1' : asksB (intsN (A.map Int.toNat)) 63 = true := by rw [← hA]; exact h1
    have hv' : IL w v (intsN (A.map Int.toNat)) := by rw [← hA]; exact hv
    have hr : ((room.toNat : Nat) : Int) = room := by omega
    have h := specFaults_yes v (A.map Int.toNat) room.toNat rule w hv' h1' (by omega) (by omega) r3.1 r3.2 (by omega)
    rw [hr] at h
    exact h
end Go.Proofs.Ytiobbclciboggaa
