/- Amounts and costs of flows, and what a flow is: both sides. -/
import Derived.Test.YtkpdjbpfnepgaaaFlow2
namespace Go.Proofs.Ytkpdjbpfnepgaaa
open Go.RowKit Go.ChangeShapes Go.WideShapes

def nodeB (N : Nt) (x : Int) : Bool := decide (0 ≤ x) && decide (x ≤ N.nodes - 1)
def amountB (N : Nt) (F : List Int) (x : Int) : Bool := flowB N F && nodeB N x
def amountI (N : Nt) (F : List Int) (x : Int) : Int := bif amountB N F x then outF N F x else 0
def costI (N : Nt) (F : List Int) : Int := bif flowB N F then costT N F N.arcs.length else 0
theorem flowB_ok1 {N : Nt} {F : List Int} (h : flowB N F = true) : okN N = true := by unfold flowB at h; rw [Bool.and_eq_true] at h; exact h.1

set_option maxHeartbeats 2000000 in
theorem specFlowAmount_any (v : Value) (N : Nt) (u : Value) (F : List Int) (x : Int) (w : World) (hv : NV w v N) (hu : IL w u F) (oN : OKN N) (_oF : OKI F) (_ox : -9223372036854775808 ≤ x ∧ x ≤ 9223372036854775807) :
    Calls Try.prog 34 #[v, u, .int .i64 x] w (SaysIB (amountI N F x) (amountB N F x) w) := by
  have HB := Lib.hid (below_alloc w)
  have hn := oN.size
  obtain ⟨s1, rfl, r1⟩ := hv
  have HP := Lib.hid (NP.box w r1)
  have HU := Lib.hid (fun o => hu.below (HB.out o) (Nat.le_refl _))
  clear r1 hu
  unfold amountI amountB
  cases h1 : flowB N F with
  | false =>
    have H1 := Lib.hid h1
    clear h1
    go_enter Try.func34, Try.ntmps34
    go_wp2_with (go_at_call 60; refine (l03Flow_is false _ _ N _ F _ HP.out (HU.out _) hn H1.out).mono ?_; rintro e w' ⟨rfl, m, rfl⟩)
    refine bodyPost_ret (results_tmp2 rfl _ _ _) rfl ?_
    exact ⟨rfl, below_drewN (HB.out _) _⟩
  | true =>
    have H1 := Lib.hid h1
    have HF := Lib.hid (flowB_ok h1)
    have n1 := HF.out.n.n1
    have n2 := HF.out.n.n2
    have d0 := HP.out.c0
    clear h1
    cases h2 : nodeB N x with
    | false =>
      have H2 : Hid ((decide (0 ≤ x) && decide (x ≤ N.nodes - 1)) = false) := Lib.hid h2
      clear h2
      go_enter Try.func34, Try.ntmps34
      go_wp2_with fail
      go_at_call 60; refine (l03Flow_is true _ _ N _ F _ HP.out (HU.out _) hn H1.out).mono ?_; rintro e w' ⟨rfl, m, rfl⟩
      go_wp2_with fail
      go_at_call 61; refine (l00In_is false x 0 (N.nodes - 1) _ H2.out).mono ?_; rintro e w' ⟨rfl, m2, rfl⟩
      go_wp2_with fail
      refine bodyPost_ret (results_tmp2 rfl _ _ _) rfl ?_
      exact ⟨rfl, below_drewN (HB.out _) _⟩
    | true =>
      have H2 : Hid ((decide (0 ≤ x) && decide (x ≤ N.nodes - 1)) = true) := Lib.hid h2
      clear h2
      go_enter Try.func34, Try.ntmps34
      go_wp2_with fail
      go_at_call 60; refine (l03Flow_is true _ _ N _ F _ HP.out (HU.out _) hn H1.out).mono ?_; rintro e w' ⟨rfl, m, rfl⟩
      go_wp2_with fail
      go_at_call 61; refine (l00In_is true x 0 (N.nodes - 1) _ H2.out).mono ?_; rintro e w' ⟨rfl, m2, rfl⟩
      go_wp2_with fail
      go_at_call 62; refine (l03Out_any _ _ N _ F x _ (HP.out.dn _) (IL.dn (HU.out _) _) HF.out).mono ?_; rintro e w' ⟨rfl, rfl⟩
      go_wp2_with fail
      refine bodyPost_ret (results_tmp2 rfl _ _ _) rfl ?_
      exact ⟨rfl, below_drewN (HB.out _) _⟩
set_option maxHeartbeats 2000000 in
theorem implFlowAmount_any (v : Value) (N : Nt) (u : Value) (F : List Int) (x : Int) (w : World) (hv : NV w v N) (hu : IL w u F) (oN : OKN N) (_oF : OKI F) (_ox : -9223372036854775808 ≤ x ∧ x ≤ 9223372036854775807) :
    Calls Try.prog 35 #[v, u, .int .i64 x] w (SaysIB (amountI N F x) (amountB N F x) w) := by
  have HB := Lib.hid (below_alloc w)
  have HV := Lib.hid hv
  have HU := Lib.hid hu
  obtain ⟨s1, rfl, r1⟩ := hv
  have X0 := Lib.hid (show NBox w _ N s1 from ⟨Box2.mk' w (.int .i64 N.nodes) s1 29, HB.out _⟩)
  clear r1 hu
  unfold amountI amountB
  cases h1 : flowB N F with
  | false =>
    have H1 := Lib.hid h1
    clear h1
    go_enter Try.func35, Try.ntmps35
    go_wp2_with fail
    go_at_call 64; refine (fits_is false _ N _ F _ (HV.out.below (HB.out _) (Nat.le_refl _)) (HU.out.below (HB.out _) (Nat.le_refl _)) oN H1.out).mono ?_; rintro e w1 ⟨rfl, bb⟩
    have H1 := Lib.hid ((HB.out _).trans (bb.mono (by simp)))
    clear bb
    go_wp2_with fail
    refine bodyPost_ret (results_tmp2 rfl _ _ _) rfl ?_
    exact ⟨rfl, H1.out⟩
  | true =>
    have H1 := Lib.hid h1
    have HF := Lib.hid (flowB_ok h1)
    have n1 := HF.out.n.n1
    have n2 := HF.out.n.n2
    clear h1
    cases h2 : nodeB N x with
    | false =>
      have H2 : Hid ((decide (0 ≤ x) && decide (x ≤ N.nodes - 1)) = false) := Lib.hid h2
      clear h2
      go_enter Try.func35, Try.ntmps35
      go_wp2_with fail
      go_at_call 64; refine (fits_is true _ N _ F _ (HV.out.below (HB.out _) (Nat.le_refl _)) (HU.out.below (HB.out _) (Nat.le_refl _)) oN H1.out).mono ?_; rintro e w1 ⟨rfl, bb⟩
      have X1 := Lib.hid (X0.out.next bb)
      have l1 := X1.out.box.lt
      obtain ⟨d0, d1⟩ := X1.out.box
      clear bb
      go_wp2_with fail
      clear d0 d1 l1
      go_at_call 54; refine (isIndex_is false N.nodes x _ (by omega) (by omega) H2.out).mono ?_; rintro e w' ⟨rfl, m2, rfl⟩
      go_wp2_with fail
      refine bodyPost_ret (results_tmp2 rfl _ _ _) rfl ?_
      exact ⟨rfl, below_drewN X1.out.below _⟩
    | true =>
      have H2 : Hid ((decide (0 ≤ x) && decide (x ≤ N.nodes - 1)) = true) := Lib.hid h2
      clear h2
      go_enter Try.func35, Try.ntmps35
      go_wp2_with fail
      go_at_call 64; refine (fits_is true _ N _ F _ (HV.out.below (HB.out _) (Nat.le_refl _)) (HU.out.below (HB.out _) (Nat.le_refl _)) oN H1.out).mono ?_; rintro e w1 ⟨rfl, bb⟩
      have X1 := Lib.hid (X0.out.next bb)
      have l1 := X1.out.box.lt
      obtain ⟨d0, d1⟩ := X1.out.box
      clear bb
      go_wp2_with fail
      go_at_call 54; refine (isIndex_is true N.nodes x _ (by omega) (by omega) H2.out).mono ?_; rintro e w' ⟨rfl, m2, rfl⟩
      go_wp2_with fail
      clear d0 d1 l1
      go_at_call 65; refine (amountOut_any _ N _ F x _ (HV.out.below (below_drewN X1.out.below _) (Nat.le_refl _)) (HU.out.below (below_drewN X1.out.below _) (Nat.le_refl _)) HF.out).mono ?_; rintro e w2 ⟨rfl, bb⟩
      have H3 := Lib.hid (X1.out.below.trans ((Below.undrew bb).mono X1.out.below.size))
      clear bb
      go_wp2_with fail
      refine bodyPost_ret (results_tmp2 rfl _ _ _) rfl ?_
      exact ⟨rfl, H3.out⟩

theorem costT_succ {N : Nt} {F : List Int} (h : FlowOk N F) {k : Nat} (hk : k < N.arcs.length) : costT N F (k + 1) = costT N F k + F.getD k 0 * (N.arcs.getD k zA).c ∧ -1000000000 ≤ F.getD k 0 * (N.arcs.getD k zA).c ∧ F.getD k 0 * (N.arcs.getD k zA).c ≤ 1000000000 := by
  have hm := h.m hk
  have hc := h.n.a k hk
  exact ⟨rfl, prod_in hm.1 hm.2 hc.c0 hc.c1⟩
set_option maxHeartbeats 4000000 in
theorem l03Cost_any (g : Nat) (s1 : Value) (N : Nt) (u : Value) (F : List Int) (w : World) (h : NP w g s1 N) (hu : IL w u F) (hF : FlowOk N F) :
    Calls Try.prog 66 #[.pointer (some ⟨g, 0, none⟩), u] w fun e w' => e = .returned (.int .i64 (costT N F N.arcs.length)) ∧ ∃ m, w' = w.drewN m := by
  have HF := Lib.hid hF
  have HLL := Lib.hid hF.l
  have h48 := hF.n.l
  obtain ⟨c0, c1, r1⟩ := h
  rcases hu with ⟨hz, ao2, cap2, rfl⟩ | ⟨fb, fo, fc, rfl, fpos, fbl, fcell⟩
  · have h0 : N.arcs.length = 0 := by rw [← hF.l, hz]; rfl
    have H0 : Hid (costT N F N.arcs.length = 0) := Lib.hid (by rw [h0]; rfl)
    clear hF hz h0 r1 c0 h48
    go_enter Try.func66, Try.ntmps66
    go_wp2
    refine wp_loop_rounds 1 ?_
    rw [rounds_succ]
    go_wp2
    go_ret
    exact ⟨ret_int H0.out.symm, 0, rfl⟩
  · rcases r1 with ⟨hz, ao, cap, rfl⟩ | ⟨b, off, cap, rfl, hpos, hbl, hcell⟩
    · exfalso; have := hF.l; rw [hz] at this; simp at this; rw [this] at fpos; simp at fpos
    have HC := Lib.hid hcell
    have HFC := Lib.hid fcell
    have HD := Lib.hid c1
    have hle : F.length ≤ 48 := by have := hF.l; omega
    clear hF hcell fcell c0
    go_enter Try.func66, Try.ntmps66
    go_wp2
    clear c1
    go_loopw [5, 9] (fun s i wr => ∃ k : Nat, k ≤ F.length ∧ i = .int .i64 k ∧ s = .int .i64 (costT N F k) ∧ ∃ m, wr = w.drewN m) (fun _ i _ => F.length - (intOf i).toNat)
    case atStart => exact ⟨0, Nat.zero_le _, rfl, rfl, 0, rfl⟩
    case round =>
      obtain ⟨k, hk, rfl, rfl, hwr⟩ := hrel
      have HW := Lib.hid (drew_more hwr)
      by_cases hlt : k < F.length
      · have hlt2 : k < N.arcs.length := by have := HLL.out; omega
        have a3 : wr.cell? ⟨b, off + k * 4 + 3, none⟩ = some (.int .i64 (N.arcs.getD k zA).c) := by obtain ⟨n, rfl⟩ := hwr; exact (HC.out k hlt2).c3
        have f1 : wr.cell? ⟨fb, fo + k, none⟩ = some (.int .i64 (F.getD k 0)) := by obtain ⟨n, rfl⟩ := hwr; exact HFC.out k hlt
        have d1 : wr.cell? ⟨g, 1, none⟩ = some (.slice (some ⟨b, off, none⟩) N.arcs.length (N.arcs.length + cap)) := by obtain ⟨n, rfl⟩ := hwr; exact HD.out
        have hs := costT_in HF.out k (by omega)
        obtain ⟨hn, hp1, hp2⟩ := costT_succ HF.out hlt2
        have HN := Lib.hid hn
        clear hn hwr
        generalize costT N F k = s at HN hs
        generalize F.getD k 0 = y at HN f1 hp1 hp2
        generalize (N.arcs.getD k zA).c = c at HN a3 hp1 hp2
        have s1 : -48000000000 ≤ s := by omega
        have s2 : s ≤ 48000000000 := by omega
        have hw1 : IntKind.i64.wrap (y * c) = y * c := IntWalk.i64_in _ (by omega)
        have hw2 : IntKind.i64.wrap (s + y * c) = s + y * c := IntWalk.i64_in _ (by omega)
        clear hp1 hp2 hs
        go_wp2_with fail
        go_quiet (fail)
        clear hw1 hw2
        go_wp2_with fail
        go_roundw
        case rel => exact ⟨k + 1, by omega, by go_num, by rw [HN.out], HW.out _⟩
        case measure => simp [intOf]; omega
      · obtain rfl : k = F.length := by omega
        clear hwr
        go_wp2_with fail
        go_ret
        exact ⟨ret_int (by rw [HLL.out]), HW.out 0⟩
set_option maxHeartbeats 2000000 in
theorem specFlowCost_any (v : Value) (N : Nt) (u : Value) (F : List Int) (w : World) (hv : NV w v N) (hu : IL w u F) (oN : OKN N) (_oF : OKI F) :
    Calls Try.prog 36 #[v, u] w (SaysIB (costI N F) (flowB N F) w) := by
  have HB := Lib.hid (below_alloc w)
  have hn := oN.size
  obtain ⟨s1, rfl, r1⟩ := hv
  have HP := Lib.hid (NP.box w r1)
  have HU := Lib.hid (fun o => hu.below (HB.out o) (Nat.le_refl _))
  clear r1 hu
  unfold costI
  cases h1 : flowB N F with
  | false =>
    have H1 := Lib.hid h1
    clear h1
    go_enter Try.func36, Try.ntmps36
    go_wp2_with (go_at_call 60; refine (l03Flow_is false _ _ N _ F _ HP.out (HU.out _) hn H1.out).mono ?_; rintro e w' ⟨rfl, m, rfl⟩)
    refine bodyPost_ret (results_tmp2 rfl _ _ _) rfl ?_
    exact ⟨rfl, below_drewN (HB.out _) _⟩
  | true =>
    have H1 := Lib.hid h1
    have HF := Lib.hid (flowB_ok h1)
    clear h1
    go_enter Try.func36, Try.ntmps36
    go_wp2_with fail
    go_at_call 60; refine (l03Flow_is true _ _ N _ F _ HP.out (HU.out _) hn H1.out).mono ?_; rintro e w' ⟨rfl, m, rfl⟩
    go_wp2_with fail
    go_at_call 66; refine (l03Cost_any _ _ N _ F _ (HP.out.dn _) (IL.dn (HU.out _) _) HF.out).mono ?_; rintro e w' ⟨rfl, m2, rfl⟩
    go_wp2_with fail
    refine bodyPost_ret (results_tmp2 rfl _ _ _) rfl ?_
    exact ⟨rfl, below_drewN (HB.out _) _⟩
set_option maxHeartbeats 4000000 in
theorem implFlowCost_yes (v : Value) (N : Nt) (u : Value) (F : List Int) (w : World) (hv : NV w v N) (hu : IL w u F) (oN : OKN N) (h1 : flowB N F = true) :
    Calls Try.prog 37 #[v, u] w (SaysIB (costT N F N.arcs.length) true w) := by
  have HB := Lib.hid (below_alloc w)
  have HV := Lib.hid hv
  have HU := Lib.hid hu
  have H1 := Lib.hid h1
  have hF := flowB_ok h1
  have HF := Lib.hid hF
  have HLL := Lib.hid hF.l
  have h48 := hF.n.l
  clear h1
  obtain ⟨s1, rfl, r1⟩ := hv
  have X0 := Lib.hid (show NBox w _ N s1 from ⟨Box2.mk' w (.int .i64 N.nodes) s1 29, HB.out _⟩)
  rcases r1 with ⟨hz, ao, cap, rfl⟩ | ⟨b, off, cap, rfl, hpos, hbl, hcell⟩
  · have H0 : Hid (costT N F N.arcs.length = 0) := Lib.hid (by rw [hz]; rfl)
    clear hz hF hu h48
    go_enter Try.func37, Try.ntmps37
    go_wp2_with fail
    go_at_call 64; refine (fits_is true _ N _ F _ (HV.out.below (HB.out _) (Nat.le_refl _)) (HU.out.below (HB.out _) (Nat.le_refl _)) oN H1.out).mono ?_; rintro e w1 ⟨rfl, bb⟩
    have X1 := Lib.hid (X0.out.next bb)
    have l1 := X1.out.box.lt
    obtain ⟨d0, d1⟩ := X1.out.box
    clear bb
    go_wp2_with fail
    refine wp_loop_rounds 1 ?_
    rw [rounds_succ]
    go_wp2
    refine bodyPost_ret (results_tmp2 rfl _ _ _) rfl ?_
    exact ⟨ret_ib H0.out.symm, X1.out.below⟩
  · rcases hu with ⟨hz, ao2, cap2, rfl⟩ | ⟨fb, fo, fc, rfl, fpos, fbl, fcell⟩
    · exfalso; have := hF.l; rw [hz] at this; simp at this; omega
    have HC := Lib.hid hcell
    have HFC := Lib.hid fcell
    clear hF hcell fcell
    go_enter Try.func37, Try.ntmps37
    go_wp2_with fail
    go_at_call 64; refine (fits_is true _ N _ F _ (HV.out.below (HB.out _) (Nat.le_refl _)) (HU.out.below (HB.out _) (Nat.le_refl _)) oN H1.out).mono ?_; rintro e w1 ⟨rfl, bb⟩
    have X1 := Lib.hid (X0.out.next bb)
    have l1 := X1.out.box.lt
    obtain ⟨d0, d1⟩ := X1.out.box
    clear bb
    go_wp2_with fail
    clear d0 d1 l1
    go_loopg [6, 16] N.arcs.length (fun gk s i wr => ∃ k : Nat, k ≤ N.arcs.length ∧ gk + k = N.arcs.length ∧ i = .int .i64 k ∧ s = .int .i64 (costT N F k) ∧ NBox w wr N (.slice (some ⟨b, off, none⟩) N.arcs.length (N.arcs.length + cap)))
    case atStart => exact ⟨0, Nat.zero_le _, by omega, rfl, rfl, X1.out⟩
    case round =>
      clear X0 X1
      obtain ⟨k, hk, hgk, rfl, rfl, hx⟩ := hrel
      have HX := Lib.hid hx
      have l1 := hx.box.lt
      obtain ⟨d0, d1⟩ := hx.box
      by_cases hlt : k < N.arcs.length
      · have hlt2 : k < F.length := by have := HLL.out; omega
        have ha : ArcAt wr b (off + k * 4) (N.arcs.getD k zA) := (HC.out k hlt).keep hx.below hbl
        have hbw : b < wr.heap.size := Nat.lt_of_lt_of_le hbl hx.below.size
        have f1 : wr.cell? ⟨fb, fo + k, none⟩ = some (.int .i64 (F.getD k 0)) := keep_cell (HFC.out k hlt2) hx.below fbl
        have hfw : fb < wr.heap.size := Nat.lt_of_lt_of_le fbl hx.below.size
        have hs := costT_in HF.out k (by omega)
        obtain ⟨hn, hp1, hp2⟩ := costT_succ HF.out hlt
        have HN := Lib.hid hn
        clear hn hx
        generalize costT N F k = s at HN hs
        generalize F.getD k 0 = y at HN f1 hp1 hp2
        generalize N.arcs.getD k zA = a at HN ha hp1 hp2
        obtain ⟨a0, a1, a2, a3⟩ := ha
        have s1 : -48000000000 ≤ s := by omega
        have s2 : s ≤ 48000000000 := by omega
        have hw1 : IntKind.i64.wrap (y * a.c) = y * a.c := IntWalk.i64_in _ (by omega)
        have hw2 : IntKind.i64.wrap (s + y * a.c) = s + y * a.c := IntWalk.i64_in _ (by omega)
        clear hp1 hp2 hs
        go_wp2_with fail
        go_quiet (fail)
        clear hw1 hw2
        go_wp2_with fail
        go_roundg (gk - 1)
        case measure => omega
        case rel => exact ⟨k + 1, by omega, by omega, by go_num, by rw [HN.out], HX.out.more _ _⟩
      · obtain rfl : k = N.arcs.length := by omega
        clear hx
        go_wp2_with fail
        refine bodyPost_ret (results_tmp2 rfl _ _ _) rfl ?_
        exact ⟨rfl, HX.out.below⟩
theorem implFlowCost_any (v : Value) (N : Nt) (u : Value) (F : List Int) (w : World) (hv : NV w v N) (hu : IL w u F) (oN : OKN N) (_oF : OKI F) :
    Calls Try.prog 37 #[v, u] w (SaysIB (costI N F) (flowB N F) w) := by
  unfold costI
  cases h1 : flowB N F with
  | true => exact implFlowCost_yes v N u F w hv hu oN h1
  | false =>
    have HB := Lib.hid (below_alloc w)
    have HV := Lib.hid hv
    have HU := Lib.hid hu
    have H1 := Lib.hid h1
    obtain ⟨s1, rfl, r1⟩ := hv
    clear h1 r1 hu
    go_enter Try.func37, Try.ntmps37
    go_wp2_with fail
    go_at_call 64; refine (fits_is false _ N _ F _ (HV.out.below (HB.out _) (Nat.le_refl _)) (HU.out.below (HB.out _) (Nat.le_refl _)) oN H1.out).mono ?_; rintro e w1 ⟨rfl, bb⟩
    have H1 := Lib.hid ((HB.out _).trans (bb.mono (by simp)))
    clear bb
    go_wp2_with fail
    refine bodyPost_ret (results_tmp2 rfl _ _ _) rfl ?_
    exact ⟨rfl, H1.out⟩
end Go.Proofs.Ytkpdjbpfnepgaaa
