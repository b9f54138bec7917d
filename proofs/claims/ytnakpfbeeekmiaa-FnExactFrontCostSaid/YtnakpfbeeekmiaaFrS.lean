/- Lists whose numbers come to the front: the model. -/
import Derived.Test.YtnakpfbeeekmiaaFrJ
import Derived.Test.YtnakpfbeeekmiaaRowA
import Derived.Deep.RegionWith
namespace Go.Proofs.Ytnakpfbeeekmiaa
open Go.RowKit Go.ChangeShapes Go.WideShapes

theorem Try.infoFr : (Try.prog.info? 2).map (fun i => (i.zero, i.size, i.bytes)) = some (some (.int .i64 0), 1, 8) := by kernel_rfl
set_option maxRecDepth 100000 in
set_option maxHeartbeats 8000000 in
theorem specFront_yes (v : Value) (Q : List Nat) (n : Nat) (w : World) (hv : IL w v (intsN Q)) (h1 : asksB (intsN Q) ((n : Int) - 1) = true) (hn1 : 1 ≤ n) (hn2 : n ≤ 64) (hq : Q.length ≤ 64) (hx : ∀ x ∈ Q, x < n) :
    Calls Try.prog 45 #[v, .int .i64 (n : Int)] w (SaysIJB ((fcS Q n Q.length).2 : Nat) (intsN (fcS Q n Q.length).1) true w) := by
  obtain ⟨i0, hi, hz0, hz1, hz2⟩ := info_parts Try.infoFr
  have HV := Lib.hid hv
  have H1 := Lib.hid h1
  have hql := intsN_len Q
  have HOK := Lib.hid (fun i hi => fcS_ok (Q := Q) hx i hi)
  have HX := Lib.hid hx
  rcases hv with ⟨hz, ao, cap, rfl⟩ | ⟨b, off, cap, rfl, hpos, hbl, hcell⟩
  · exfalso
    have : few64 (intsN Q).length = true := by unfold asksB at h1; simp only [Bool.and_eq_true] at h1; exact h1.2
    rw [hz] at this
    revert this; decide
  rw [hql] at hcell HV ⊢
  have HC : Hid (∀ W, Below w.heap.size w W → ∀ i, i < Q.length → W.cell? ⟨b, off + i, none⟩ = some (.int .i64 ((Q.getD i 0 : Nat) : Int))) := Lib.hid fun W h i hi => by
    rw [h.cell (p := ⟨b, off + i, none⟩) hbl, hcell i hi, intsN_at hi]
  have HR1 : Hid ((decide ((1 : Int) ≤ (n : Int)) && decide ((n : Int) ≤ 64)) = true) := Lib.hid (by rw [decide_eq_true (by omega), decide_eq_true (by omega)]; rfl)
  clear hcell h1 hql hx hpos
  go_enter Try.func45, Try.ntmps45
  go_wp2_with fail
  go_at_call 78; refine (l00In_is true (n : Int) 1 64 _ HR1.out).mono ?_; rintro e w2 ⟨rfl, m2, rfl⟩
  go_wp2_with fail
  go_at_call 87; refine (l06Asks_is true _ (intsN Q) (n : Int) _ (VL.drewN HV.out _) (by rw [intsN_len]; omega) (by omega) (by omega) H1.out).mono ?_; rintro e w1 ⟨rfl, m1, rfl⟩
  obtain ⟨w3, hw3⟩ : ∃ x : World, x = (w.drewN m2).drewN m1 := ⟨_, rfl⟩
  have B3 : Hid (Below w.heap.size w w3) := Lib.hid (by rw [hw3]; exact below_drewN (below_drewN (Below.refl _ _) _) _)
  have hw3s : w.heap.size ≤ w3.heap.size := B3.out.size
  have HBW : Hid (∀ W, Below w3.heap.size w3 W → Below w.heap.size w W) := Lib.hid fun W h => B3.out.trans (h.mono hw3s)
  rw [← hw3]
  clear hw3
  have G3 : Hid (Grows (Value.int .i64) 2 w3.heap.size (.slice (some ⟨w3.heap.size, 0, none⟩) 0 0) (numL 0) (w3.alloc (.cells #[] 2))) := Lib.hid (Grows.empty (Value.int .i64) _ _ w3 (Nat.le_refl _))
  have B4 : Hid (Below w3.heap.size w3 (w3.alloc (.cells #[] 2))) := Lib.hid (below_alloc _ _)
  go_wp2_with fail
  go_loopg [7, 8] n (fun gk v i wr => ∃ k : Nat, k ≤ n ∧ gk + k = n ∧ i = .int .i64 k ∧ Below w3.heap.size w3 wr ∧ Grows (Value.int .i64) 2 w3.heap.size v (numL k) wr)
  case atStart => exact ⟨0, Nat.zero_le _, by omega, rfl, B4.out, G3.out⟩
  case round =>
    obtain ⟨k, hk, hgk, rfl, hB, hG⟩ := hrel
    have HB := Lib.hid hB
    have HG := Lib.hid hG
    have HML := Lib.hid (numL_len k)
    have HUP := Lib.hid (numL_up k)
    clear hB hG G3 B4
    by_cases hlt : k < n
    · go_wp2_with (at_builtin; refine wpList_append_own _ rfl _ _ 25 rfl w3.heap.size 2 i0 (.int .i64 0) 1 8 Try.underlying25 hi hz0 hz1 hz2 rfl (by decide) _ _ _ rfl (Grows.alloc HG.out _) ⟨wr.heap.size, 0, none⟩ 1 1 [.int .i64 (k : Int)] rfl rfl ?c1 ?c2 ?c3 ?c4 ?c5 ?_)
      case c1 => exact one_new
      case c2 => intro u hu; simp at hu; subst hu; rfl
      case c3 => rw [HML.out]; unfold maxLen; omega
      case c4 => rw [HML.out]; omega
      case c5 => have := HB.out.size; simp; omega
      intro v' w' hown hgrow _
      have HN2 : Hid (Below w3.heap.size w3 w' ∧ Grows (Value.int .i64) 2 w3.heap.size v' (numL (k + 1)) w') := Lib.hid ⟨(HB.out.alloc HB.out.size _).grown hgrow (by have := HB.out.size; simp; omega) (fun g hg => HG.out.block g hg), by rw [HUP.out]; exact Grows.more (news := [(k : Int)]) rfl hown⟩
      clear hown hgrow
      go_wp2_with fail
      go_roundg (gk - 1)
      case measure => omega
      case rel => exact ⟨k + 1, by omega, by omega, by go_num, HN2.out.1, HN2.out.2⟩
    · obtain rfl : k = n := by omega
      have hkl : (List.range k).length = k := List.length_range
      obtain ⟨g, cap2, cur, rfl, hBg, hgl, -, hn, -, -, hA⟩ := Grows.at (Y := List.range k) HG.out (by rw [hkl]; omega)
      rw [hkl] at hn ⊢
      have R0 : Hid (RowAt w3 g (intsN (fcS Q k 0).1) wr) := Lib.hid ⟨HB.out, hgl, hBg, hA⟩
      clear hA hi hz0 hz1 hz2 hkl HG HML HUP hgk
      go_wp2_with fail
      go_loopg [9, 10] Q.length (fun gk c i wx => ∃ k2 : Nat, k2 ≤ Q.length ∧ gk + k2 = Q.length ∧ i = .int .i64 k2 ∧ c = .int .i64 ((fcS Q k k2).2 : Nat) ∧ RowAt w3 g (intsN (fcS Q k k2).1) wx)
      case atStart => exact ⟨0, Nat.zero_le _, by omega, rfl, rfl, R0.out⟩
      case round =>
        obtain ⟨k2, hk2, hgk2, rfl, rfl, hR⟩ := hrel
        clear R0 HB
        obtain ⟨wo, rfl⟩ : ∃ x : World, x = wr := ⟨_, rfl⟩
        obtain ⟨g2, rfl⟩ : ∃ x : Nat, x = gk := ⟨_, rfl⟩
        by_cases hlt2 : k2 < Q.length
        · obtain ⟨ok, okc⟩ := HOK.out k2 (by omega)
          have U : Hid (fcS Q k (k2 + 1) = (frontN (fcS Q k k2).1 (Q.getD k2 0), (fcS Q k k2).2 + (fcS Q k k2).1.idxOf (Q.getD k2 0) + 1)) := Lib.hid rfl
          have hxn : Q.getD k2 0 < k := HX.out _ (by rw [show Q.getD k2 0 = Q[k2] by simp [List.getD, hlt2]]; exact List.getElem_mem _)
          have okm : k * k2 ≤ 64 * 64 := Nat.mul_le_mul hn2 (by omega)
          have XQ : Hid (∀ W, Below w3.heap.size w3 W → W.cell? ⟨b, off + k2, none⟩ = some (.int .i64 ((Q.getD k2 0 : Nat) : Int))) := Lib.hid fun W h => HC.out W (HBW.out W h) k2 hlt2
          generalize fcS Q k k2 = P at *
          obtain ⟨Y, f⟩ := P
          dsimp only at *
          generalize Q.getD k2 0 = x at *
          have hYl := ok.len
          have hf : f ≤ 4096 := by omega
          obtain ⟨p1, p2⟩ := idx_in ((ok.all x).2 hxn)
          have FST := Lib.hid (fun j (h : j < Y.idxOf x) => idx_before h)
          have SE := Lib.hid (shF_end ok hxn)
          have P2 := Lib.hid p2
          have HR := Lib.hid hR
          generalize Y.idxOf x = p at *
          have UE : Hid (fcS Q k (k2 + 1) = (frontN Y x, f + p + 1)) := U
          clear hR ok okc okm p2 U
          go_wp2_with fail
          go_loopg [11] p (fun gk a wx => ∃ t : Nat, t ≤ p ∧ gk + t = p ∧ a = .int .i64 t ∧ RowAt w3 g (intsN Y) wx)
          case atStart => exact ⟨0, Nat.zero_le _, by omega, rfl, HR.out⟩
          case round =>
            obtain ⟨t, ht, hgt, rfl, hR1⟩ := hrel
            have HR1 := Lib.hid hR1
            have c1 := XQ.out _ hR1.below
            have cy := hR1.cell (i := t) (by rw [intsN_len]; omega)
            rw [intsN_at (by omega)] at cy
            clear hR1 HR
            by_cases htp : t < p
            · have e0 : ¬ Y.getD t 0 = x := FST.out t htp
              generalize Y.getD t 0 = y at *
              have e1 : ((y : Int) == (x : Int)) = false := by simp; omega
              have e2 : ((y : Int) != (x : Int)) = true := by simp; omega
              clear e0
              go_wp2_with fail
              go_quiet (fail)
              go_wp2_with fail
              go_roundg (gk - 1)
              case measure => omega
              case rel => exact ⟨t + 1, by omega, by omega, by go_num, HR1.out.drew _⟩
            · obtain rfl : t = p := by omega
              rw [P2.out] at cy
              have e1 : ((x : Int) == (x : Int)) = true := by simp
              have e2 : ((x : Int) != (x : Int)) = false := by simp
              have wf : IntKind.i64.wrap ((t : Int) + 1) = (t : Int) + 1 := by rw [IntKind.wrap_i64]; omega
              have wg : IntKind.i64.wrap ((f : Int) + ((t : Int) + 1)) = (f : Int) + ((t : Int) + 1) := by rw [IntKind.wrap_i64]; omega
              have HS0 := Lib.hid (shF_start (intsN Y) t)
              have HST := Lib.hid (fun j (h : j + 1 ≤ t) => shF_step (Y := intsN Y) h)
              go_wp2_with fail
              go_quiet (fail)
              go_wp2_with fail
              go_loopg [11] t (fun gk a wx => ∃ j : Nat, j ≤ t ∧ gk = j ∧ a = .int .i64 j ∧ RowAt w3 g (shF (intsN Y) t j) wx)
              case atStart => exact ⟨t, Nat.le_refl _, rfl, rfl, by rw [HS0.out]; exact HR1.out.drew _⟩
              case round =>
                obtain ⟨j, hj, rfl, rfl, hR2⟩ := hrel
                have HR2 := Lib.hid hR2
                have c1 := XQ.out _ hR2.below
                have fz := hR2.arr.free
                have hzl : (shF (intsN Y) t gk).length = Y.length := by rw [shF_len, intsN_len]
                have HZL := Lib.hid hzl
                have HYL := Lib.hid hYl
                cases gk with
                | zero =>
                  obtain ⟨u0, hu0⟩ : ∃ u, wr.cell? ⟨g, 0, none⟩ = some u := ⟨_, hR2.cell (i := 0) (by omega)⟩
                  have f0 := fz 0
                  clear hR2 hzl fz hYl
                  go_wp2_with fail
                  go_roundg (g2 - 1)
                  case measure => omega
                  case rel => exact ⟨k2 + 1, by omega, by omega, by go_num, by (rw [UE.out]; go_num), by rw [UE.out]; exact (HR2.out.set (i := 0) (by rw [HZL.out, HYL.out]; omega) (x : Int)).to SE.out⟩
                | succ j =>
                  have cl := hR2.cell (i := j) (by omega)
                  rw [shF_at (by rw [intsN_len]; omega) (by omega)] at cl
                  obtain ⟨u0, hu0⟩ : ∃ u, wr.cell? ⟨g, j + 1, none⟩ = some u := ⟨_, hR2.cell (i := j + 1) (by omega)⟩
                  have f0 := fz (j + 1)
                  obtain ⟨y, hy⟩ : ∃ y, y = (intsN Y).getD j 0 := ⟨_, rfl⟩
                  rw [← hy] at cl
                  have HY := Lib.hid hy
                  have wj : IntKind.i64.wrap (((j : Int) + 1) - 1) = (j : Int) := by rw [IntKind.wrap_i64]; omega
                  have hjn : j + 1 < k := by omega
                  clear hR2 hzl fz hYl hy
                  go_wp2_with fail
                  go_roundg j
                  case measure => omega
                  case rel => exact ⟨j, by omega, rfl, by go_num, (HR2.out.set (i := j + 1) (by rw [HZL.out, HYL.out]; omega) y).to (by rw [HY.out]; exact HST.out j hj)⟩
        · obtain rfl : k2 = Q.length := by omega
          have HR := Lib.hid hR
          clear hR
          go_wp2_with fail
          refine bodyPost_ret (v := .tuple #[.int .i64 ((fcS Q k Q.length).2 : Nat), .slice (some ⟨g, 0, none⟩) k cap2, .bool true]) (by simp [results, Try.results45, go_sem]) rfl ?_
          have hl := (HOK.out Q.length (Nat.le_refl _)).1.len
          refine ⟨_, rfl, ⟨Nat.le_refl _, Or.inr ⟨g, 0, cap2 - k, ?_, ?_, ?_, HR.out.lt, HR.out.arr.free, HR.out.arr.cells⟩⟩, HBW.out _ HR.out.below⟩
          · rw [intsN_len, hl, Nat.add_sub_cancel' hn]
          · rw [intsN_len, hl]; omega
          · have := HR.out.ge; omega
set_option maxHeartbeats 2000000 in
theorem specFrontCost_any (v : Value) (A : List Int) (n : Int) (w : World) (hv : IL w v A) (o : OKI A) (_ : -9223372036854775808 ≤ n ∧ n ≤ 9223372036854775807) :
    Calls Try.prog 45 #[v, .int .i64 n] w (SaysIJB (frC A n) (frL A n) (frB A n) w) := by
  cases h : frB A n with
  | true =>
    obtain ⟨N, Q, rfl, rfl, a, b, c, d, e, f, g⟩ := frB_ok h
    rw [f, g]
    exact specFront_yes v Q N w hv e a b c d
  | false =>
    have e1 : frC A n = 0 := by unfold frC; rw [h]; rfl
    have e2 : frL A n = [] := by unfold frL; rw [h]; rfl
    rw [e1, e2]
    have HV := Lib.hid hv
    obtain ⟨ao, cap, rfl⟩ := hv.long
    clear hv e1 e2
    cases h1 : inB n 1 64 with
    | false =>
      have H1 : Hid ((decide ((1 : Int) ≤ n) && decide (n ≤ 64)) = false) := Lib.hid h1
      clear h h1
      go_enter Try.func45, Try.ntmps45
      go_wp2_with fail
      go_at_call 78; refine (l00In_is false n 1 64 _ H1.out).mono ?_; rintro e w2 ⟨rfl, m2, rfl⟩
      go_wp2_with fail
      refine bodyPost_ret (v := .tuple #[.int .i64 0, .slice none 0 0, .bool false]) (by simp [results, Try.results45, go_sem]) rfl ?_
      exact ⟨_, rfl, SI.nil _ (Nat.le_refl _) _ _, below_drewN (Below.refl _ _) _⟩
    | true =>
      have H1 : Hid ((decide ((1 : Int) ≤ n) && decide (n ≤ 64)) = true) := Lib.hid h1
      have H2 : Hid (asksB A (n - 1) = false) := Lib.hid (by unfold frB at h; rw [h1, Bool.true_and] at h; exact h)
      have r := inB_ok h1
      clear h h1
      go_enter Try.func45, Try.ntmps45
      go_wp2_with fail
      go_at_call 78; refine (l00In_is true n 1 64 _ H1.out).mono ?_; rintro e w2 ⟨rfl, m2, rfl⟩
      go_wp2_with fail
      go_at_call 87; refine (l06Asks_is false _ A n _ (VL.drewN HV.out _) o.size r.1 r.2 H2.out).mono ?_; rintro e w1 ⟨rfl, m1, rfl⟩
      go_wp2_with fail
      refine bodyPost_ret (v := .tuple #[.int .i64 0, .slice none 0 0, .bool false]) (by simp [results, Try.results45, go_sem]) rfl ?_
      exact ⟨_, rfl, SI.nil _ (Nat.le_refl _) _ _, below_drewN (Below.refl _ _) _⟩
end Go.Proofs.Ytnakpfbeeekmiaa
