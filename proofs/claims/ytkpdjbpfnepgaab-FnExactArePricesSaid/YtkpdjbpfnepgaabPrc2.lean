/- Prices of rows: the program's side. -/
import Derived.Test.YtkpdjbpfnepgaabPrc
namespace Go.Proofs.Ytkpdjbpfnepgaab
open Go.RowKit Go.ChangeShapes Go.WideShapes
attribute [local go_sem] run_negF run_sub

theorem finiteDot_is (D : Option Nat) (t : Bool) (v u : Value) (Y Z : List Nat) (w : World) (hv : SL w v Y) (hu : SL w u Z) (h1 : Y.length ≤ 256) (h2 : Y.length = Z.length) (hD : dotC Y Z Y.length = D) (ht : finC D = t) :
    Calls Try.prog 69 #[v, u] w (SaysFB (bif t then D else some 0) t w) := by
  subst hD; subst ht; exact finiteDot_any v u Y Z w hv hu h1 h2
structure BxAt (R : Rw) (w : World) (s1 s2 s3 : Value) (wr : World) : Prop where
  below : Below w.heap.size w wr
  box : Box4 wr w.heap.size (.int .i64 R.vars) s1 s2 s3
theorem BxAt.next {R : Rw} {w wr w2 : World} {s1 s2 s3 : Value} (h : BxAt R w s1 s2 s3 wr) (b : Below wr.heap.size wr w2) : BxAt R w s1 s2 s3 w2 := ⟨h.below.trans (b.mono h.below.size), h.box.keep b h.box.lt⟩
set_option maxHeartbeats 8000000 in
theorem implArePrices_yes (v : Value) (R : Rw) (u : Value) (Y : List Nat) (a : Nat) (w : World) (hv : RV w v R) (hu : SL w u Y) (oR : OKR R) (oY : OKF Y) (h1 : okR R = true) (h2 : finN (R.B.length : Nat) Y = true) (h3 : leastB a = true) (h4 : noLess (negF a) Y = true) :
    Calls Try.prog 23 #[v, u, .float .f32 a] w (Says (arePrB R Y a) w) := by
  have hx := oY.size
  have hn := oR.size
  have HV := Lib.hid hv
  have HU := Lib.hid hu
  have HB := Lib.hid (below_alloc w)
  have H1 := Lib.hid h1
  have H2 := Lib.hid h2
  have H3 := Lib.hid h3
  have H4 := Lib.hid h4
  have hR := (okR_iff R).1 h1
  have HR := Lib.hid hR
  have b1 := hR.b1
  have b2 := hR.b2
  have v1 := hR.v1
  have v2 := hR.v2
  have hgl : R.G.length = R.vars.toNat := by have := hR.g; omega
  have HGL := Lib.hid hgl
  have hgs : R.G.length ≤ 8 := by omega
  have hyl : Y.length = R.B.length ∧ finAll Y = true := by unfold finN at h2; simp only [Bool.and_eq_true, decide_eq_true_eq] at h2; exact ⟨by omega, h2.2⟩
  have HYL := Lib.hid hyl.1
  have HPR : Hid (pricedB R Y = true) := Lib.hid (by unfold pricedB; rw [h1, decide_eq_true hyl.1, hyl.2]; rfl)
  have hfa : fin32 a = true := by unfold leastB at h3; rw [Bool.and_eq_true] at h3; exact h3.1
  have HFA := Lib.hid hfa
  have HFG : Hid (∀ c, c < R.G.length → fin32 (R.G.getD c 0) = true) := Lib.hid (fun c hc => by rw [getD_at hc]; exact List.all_eq_true.1 hR.fg _ (List.getElem_mem hc))
  obtain ⟨s1, s2, s3, rfl, g1, g2, g3⟩ := hv
  rcases g3 with ⟨hz, -⟩ | ⟨gb, goff, gcap, rfl, gpos, gbl, gcell⟩
  · exfalso; rw [hz] at hgl; simp at hgl; omega
  have X0 := Lib.hid (show BxAt R w s1 s2 (.slice (some ⟨gb, goff, none⟩) R.G.length (R.G.length + gcap)) _ from ⟨HB.out _, Box4.mk' w (.int .i64 R.vars) s1 s2 (.slice (some ⟨gb, goff, none⟩) R.G.length (R.G.length + gcap)) 28⟩)
  have HGC := Lib.hid gcell
  obtain ⟨ay, cy, rfl⟩ := hu.long
  clear g1 g2 hu h1 h2 h3 h4 hR hgl hyl hfa gcell
  go_enter Try.func23, Try.ntmps23
  go_wp2_with fail
  go_at_call 67; refine (implValid_is true _ R _ (HV.out.below (HB.out _) (Nat.le_refl _)) hn H1.out).mono ?_; rintro e w1 ⟨rfl, b⟩
  have X1 := Lib.hid (X0.out.next b)
  clear b X0
  have l1 := X1.out.box.lt
  obtain ⟨d0, d1, d2, d3⟩ := X1.out.box
  go_wp2_with fail
  clear d0 d1 d2 d3 l1
  go_at_call 68; refine (isPriceList_any _ R _ Y _ (HV.out.below X1.out.below (Nat.le_refl _)) (HU.out.below X1.out.below (Nat.le_refl _)) hx true H2.out).mono ?_; rintro e w2 ⟨rfl, b⟩
  have X2 := Lib.hid (X1.out.next b)
  clear b X1
  have l1 := X2.out.box.lt
  obtain ⟨d0, d1, d2, d3⟩ := X2.out.box
  go_wp2_with fail
  go_at_call 61; refine (isNear_t _ true _ H3.out).mono ?_; rintro e w3 ⟨rfl, n3, rfl⟩
  go_wp2_with fail
  go_at_call 62; refine (areAtLeast_is _ true _ Y _ (HU.out.below (below_drewN X2.out.below _) (Nat.le_refl _)) hx H4.out).mono ?_; rintro e w3 ⟨rfl, n4, rfl⟩
  go_wp2_with fail
  clear d0 d1 d2 d3 l1
  go_loopg [35] R.G.length (fun gk i wr => ∃ k : Nat, k ≤ R.G.length ∧ gk + k = R.G.length ∧ i = .int .i64 k ∧ (∀ j, j < k → colB R Y a j = true) ∧ BxAt R w s1 s2 (.slice (some ⟨gb, goff, none⟩) R.G.length (R.G.length + gcap)) wr)
  case atStart => exact ⟨0, Nat.zero_le _, by omega, rfl, fun j hj => by omega, X2.out.next (below_drewN (Below.refl _ _) _)⟩
  case round =>
    clear X2
    obtain ⟨k, hk, hgk, rfl, hall, hx2⟩ := hrel
    have HA := Lib.hid hall
    have HX := Lib.hid hx2
    clear hall
    by_cases hlt : k < R.G.length
    · have y1 : wr.cell? ⟨gb, goff + k, none⟩ = some (.float .f32 (R.G.getD k 0)) := keep_cell (HGC.out k hlt) hx2.below gbl
      have hkv : k < R.vars.toNat := by have := HGL.out; omega
      have l1 := hx2.box.lt
      obtain ⟨d0, d1, d2, d3⟩ := hx2.box
      have HSA := Lib.hid (sub_ares (HFG.out k hlt) HFA.out)
      have HSN := Lib.hid (sub_num (HFG.out k hlt) HFA.out)
      obtain ⟨g, hg⟩ : ∃ g, g = R.G.getD k 0 := ⟨_, rfl⟩
      rw [← hg] at y1
      have HG := Lib.hid hg
      rw [← hg] at HSA HSN
      clear hg hx2
      go_wp2_with fail
      clear d0 d1 d2 d3 l1 y1
      go_at_call 70; refine (columnOf_any _ R k _ (HV.out.below HX.out.below (Nat.le_refl _)) HR.out hkv).mono ?_; rintro e w4 ⟨q, rfl, hq, b⟩
      have X4 := Lib.hid (HX.out.next b)
      have HQ := Lib.hid (FI.sl hq)
      clear hq b
      go_wp2_with fail
      cases hf : finC (colC R Y k) with
      | false =>
        have HF := Lib.hid hf
        go_at_call 69; refine (finiteDot_is (colC R Y k) false _ _ (colL R k) Y _ HQ.out (HU.out.below X4.out.below (Nat.le_refl _)) (by rw [colL_len]; omega) (by rw [colL_len, HYL.out]) (by rw [colL_len]; rfl) HF.out).mono ?_; rintro e w5 ⟨r, rfl, hc, b⟩
        have X5 := Lib.hid (X4.out.next b)
        have HN : Hid (colB R Y a k = false) := Lib.hid (by
          unfold colB
          cases hc2 : colC R Y k with
          | none => rfl
          | some x => have h0 : fin32 x = false := by have h := HF.out; rw [hc2] at h; exact h
                      show (fin32 x && _) = false; rw [h0]; rfl)
        clear hc b hf
        go_wp2_with fail
        go_ret
        exact says (arePr_no4 hkv HN.out).symm X5.out.below
      | true =>
        have HF := Lib.hid hf
        go_at_call 69; refine (finiteDot_is (colC R Y k) true _ _ (colL R k) Y _ HQ.out (HU.out.below X4.out.below (Nat.le_refl _)) (by rw [colL_len]; omega) (by rw [colL_len, HYL.out]) (by rw [colL_len]; rfl) HF.out).mono ?_; rintro e w5 ⟨r, rfl, hc, b⟩
        have X5 := Lib.hid (X4.out.next b)
        have hc' : Fl.cls .f32 r = colC R Y k := hc
        have hfr := (cls_fin hc' HF.out).2
        have HCB := Lib.hid (show colB R Y a k = !ltB r (subV g a) by rw [colB_of hc', ← HG.out, hfr, lt_ge hfr HSN.out]; simp)
        have hsub := HSA.out
        clear hc b hf hc' hfr
        cases hq : ltB r (subV g a) with
        | true =>
          have HN : Hid (colB R Y a k = false) := Lib.hid (by rw [HCB.out, hq]; rfl)
          unfold ltB at hq
          generalize subV g a = d at hq hsub
          go_wp2_with fail
          go_ret
          exact says (arePr_no4 hkv HN.out).symm (below_drewN X5.out.below _)
        | false =>
          have HN : Hid (colB R Y a k = true) := Lib.hid (by rw [HCB.out, hq]; rfl)
          unfold ltB at hq
          generalize subV g a = d at hq hsub
          go_wp2_with fail
          go_roundg (gk - 1)
          case measure => omega
          case rel => exact ⟨k + 1, by omega, by omega, by go_num, fun j hj => by
            by_cases e : j = k
            · subst e; exact HN.out
            · exact HA.out j (by omega), X5.out.next (below_drewN (Below.refl _ _) _)⟩
    · obtain rfl : k = R.G.length := by omega
      clear hx2
      go_wp2_with fail
      go_ret
      exact says (arePr_yes HPR.out H3.out H4.out (by rw [← HGL.out]; exact HA.out)).symm HX.out.below
theorem implArePrices_any (v : Value) (R : Rw) (u : Value) (Y : List Nat) (a : Nat) (w : World) (hv : RV w v R) (hu : SL w u Y) (oR : OKR R) (oY : OKF Y) (_oa : a < 4294967296) :
    Calls Try.prog 23 #[v, u, .float .f32 a] w (Says (arePrB R Y a) w) := by
  have hx := oY.size
  have hn := oR.size
  have HV := Lib.hid hv
  have HU := Lib.hid hu
  have HB := Lib.hid (below_alloc w)
  cases h1 : okR R with
  | false =>
    have H1 := Lib.hid h1
    rw [arePr_no1 (by unfold pricedB; rw [h1]; rfl)]
    obtain ⟨s1, s2, s3, rfl, g1, g2, g3⟩ := hv
    clear g1 g2 g3 h1 hu
    go_enter Try.func23, Try.ntmps23
    go_wp2_with fail
    go_at_call 67; refine (implValid_is false _ R _ (HV.out.below (HB.out _) (Nat.le_refl _)) hn H1.out).mono ?_; rintro e w1 ⟨rfl, b⟩
    have B1 := Lib.hid ((HB.out _).trans (b.mono (by simp)))
    clear b
    go_wp2_with fail
    go_ret
    exact says rfl B1.out
  | true =>
    have H1 := Lib.hid h1
    cases h2 : finN (R.B.length : Nat) Y with
    | false =>
      have H2 := Lib.hid h2
      rw [arePr_no1 (by
        unfold pricedB; unfold finN at h2
        rw [h1, Bool.true_and]
        rw [← h2]; congr 1; exact decide_eq_decide.2 ⟨fun h => by omega, fun h => by omega⟩)]
      obtain ⟨s1, s2, s3, rfl, g1, g2, g3⟩ := hv
      have X0 := Lib.hid (show BxAt R w s1 s2 s3 _ from ⟨HB.out _, Box4.mk' w (.int .i64 R.vars) s1 s2 s3 28⟩)
      clear g1 g2 g3 hu
      go_enter Try.func23, Try.ntmps23
      go_wp2_with fail
      go_at_call 67; refine (implValid_is true _ R _ (HV.out.below (HB.out _) (Nat.le_refl _)) hn H1.out).mono ?_; rintro e w1 ⟨rfl, b⟩
      have X1 := Lib.hid (X0.out.next b)
      clear b X0
      have l1 := X1.out.box.lt
      obtain ⟨d0, d1, d2, d3⟩ := X1.out.box
      go_wp2_with fail
      clear d0 d1 d2 d3 l1
      go_at_call 68; refine (isPriceList_any _ R _ Y _ (HV.out.below X1.out.below (Nat.le_refl _)) (HU.out.below X1.out.below (Nat.le_refl _)) hx false H2.out).mono ?_; rintro e w2 ⟨rfl, b⟩
      have X2 := Lib.hid (X1.out.next b)
      clear b X1
      go_wp2_with fail
      go_ret
      exact says rfl X2.out.below
    | true =>
      have H2 := Lib.hid h2
      cases h3 : leastB a with
      | false =>
        have H3 := Lib.hid h3
        rw [arePr_no2 h3]
        obtain ⟨s1, s2, s3, rfl, g1, g2, g3⟩ := hv
        have X0 := Lib.hid (show BxAt R w s1 s2 s3 _ from ⟨HB.out _, Box4.mk' w (.int .i64 R.vars) s1 s2 s3 28⟩)
        clear g1 g2 g3 hu
        go_enter Try.func23, Try.ntmps23
        go_wp2_with fail
        go_at_call 67; refine (implValid_is true _ R _ (HV.out.below (HB.out _) (Nat.le_refl _)) hn H1.out).mono ?_; rintro e w1 ⟨rfl, b⟩
        have X1 := Lib.hid (X0.out.next b)
        clear b X0
        have l1 := X1.out.box.lt
        obtain ⟨d0, d1, d2, d3⟩ := X1.out.box
        go_wp2_with fail
        clear d0 d1 d2 d3 l1
        go_at_call 68; refine (isPriceList_any _ R _ Y _ (HV.out.below X1.out.below (Nat.le_refl _)) (HU.out.below X1.out.below (Nat.le_refl _)) hx true H2.out).mono ?_; rintro e w2 ⟨rfl, b⟩
        have X2 := Lib.hid (X1.out.next b)
        clear b X1
        go_wp2_with fail
        go_at_call 61; refine (isNear_t _ false _ H3.out).mono ?_; rintro e w3 ⟨rfl, n3, rfl⟩
        go_wp2_with fail
        go_ret
        exact says rfl (below_drewN X2.out.below _)
      | true =>
        have H3 := Lib.hid h3
        cases h4 : noLess (negF a) Y with
        | true => exact implArePrices_yes v R u Y a w hv hu oR oY h1 h2 h3 h4
        | false =>
          have H4 := Lib.hid h4
          rw [arePr_no3 h4]
          obtain ⟨s1, s2, s3, rfl, g1, g2, g3⟩ := hv
          have X0 := Lib.hid (show BxAt R w s1 s2 s3 _ from ⟨HB.out _, Box4.mk' w (.int .i64 R.vars) s1 s2 s3 28⟩)
          clear g1 g2 g3 hu
          go_enter Try.func23, Try.ntmps23
          go_wp2_with fail
          go_at_call 67; refine (implValid_is true _ R _ (HV.out.below (HB.out _) (Nat.le_refl _)) hn H1.out).mono ?_; rintro e w1 ⟨rfl, b⟩
          have X1 := Lib.hid (X0.out.next b)
          clear b X0
          have l1 := X1.out.box.lt
          obtain ⟨d0, d1, d2, d3⟩ := X1.out.box
          go_wp2_with fail
          clear d0 d1 d2 d3 l1
          go_at_call 68; refine (isPriceList_any _ R _ Y _ (HV.out.below X1.out.below (Nat.le_refl _)) (HU.out.below X1.out.below (Nat.le_refl _)) hx true H2.out).mono ?_; rintro e w2 ⟨rfl, b⟩
          have X2 := Lib.hid (X1.out.next b)
          clear b X1
          go_wp2_with fail
          go_at_call 61; refine (isNear_t _ true _ H3.out).mono ?_; rintro e w3 ⟨rfl, n3, rfl⟩
          go_wp2_with fail
          go_at_call 62; refine (areAtLeast_is _ false _ Y _ (HU.out.below (below_drewN X2.out.below _) (Nat.le_refl _)) hx H4.out).mono ?_; rintro e w3 ⟨rfl, n4, rfl⟩
          go_wp2_with fail
          go_ret
          exact says rfl (below_drewN X2.out.below _)
end Go.Proofs.Ytkpdjbpfnepgaab
