/- The form of at most some letters: the model, for all arguments. -/
import Derived.Test.YtnakpfbeeekmiaaAmS
import Derived.Test.YtnakpfbeeekmiaaFmM
namespace Go.Proofs.Ytnakpfbeeekmiaa
open Go.RowKit Go.ChangeShapes Go.WideShapes

attribute [local irreducible] cmb
def GaveF (v : Value) (b : Bool) (w : World) (e : Ending) (w' : World) : Prop := e = .returned (.tuple #[bif b then v else .agg #[.int .i64 0, .slice none 0 0], .bool b]) ∧ Below w.heap.size w w'
set_option maxHeartbeats 2000000 in
theorem l05Give_any (v : Value) (F : Fm) (w : World) (hv : FmV w v F) (o : OKFm F) : Calls Try.prog 80 #[v] w (GaveF v (formB F) w) := by
  obtain ⟨s1, rfl, hl⟩ := hv
  have HB2 : Hid (∀ A B, Below w.heap.size w ((w.alloc A).alloc B)) := Lib.hid fun A B => (below_alloc w A).alloc (by simp) B
  have HBX : Hid (∀ B, Box2 ((w.alloc (.cells #[.int .i64 F.letters, s1] 29)).alloc B) w.heap.size (.int .i64 F.letters) s1) := Lib.hid fun B => ⟨by go_simp, by go_simp⟩
  have HRS : Hid (∀ A, Res2 ((w.alloc A).alloc (.cells #[.int .i64 0, .slice none 0 0] 29)) (w.heap.size + 1)) := Lib.hid fun A => ⟨⟨.int .i64 0, by go_simp⟩, ⟨.slice none 0 0, by go_simp⟩, fun i => by go_simp⟩
  have HAT : Hid (∀ B, FmAt ((w.alloc (.cells #[.int .i64 F.letters, s1] 29)).alloc B) w.heap.size F) := Lib.hid fun B => ⟨s1, HBX.out B, hl.below (HB2.out _ _) (Nat.le_refl _)⟩
  obtain ⟨fa, fc, rfl⟩ := hl.long
  clear hl
  go_enter Try.func80, Try.ntmps80
  go_wp2_with fail
  go_at_call 47; refine (l05Is_any w.heap.size F _ (HAT.out _) o).mono ?_; rintro e w4 ⟨rfl, b4⟩
  have B4 := Lib.hid ((HB2.out _ _).trans (b4.mono (by simp; omega)))
  have X4 := Lib.hid ((HBX.out _).keep b4 (by simp; omega))
  have R4 := Lib.hid ((HRS.out _).keep b4 (by simp))
  clear b4 HBX HRS HAT
  obtain ⟨x0, x1⟩ := X4.out
  have hr4 := R4.out.lt
  obtain ⟨⟨u0, r0⟩, ⟨u1, r1⟩, rf⟩ := R4.out
  have rf0 := rf 0
  have rf1 := rf 1
  clear rf
  cases hb : formB F with
  | false =>
    go_wp2_with fail
    refine bodyPost_ret (v := .tuple #[.agg #[.int .i64 0, .slice none 0 0], .bool false]) (by simp [results, Try.results80, r0, r1, go_sem]) rfl ?_
    generalize hX : World.setCell _ _ _ = X
    have hT : Turned (w.heap.size + 1) (w.heap.size + 1 + 1) w4 X := by
      rw [← hX]
      repeat (refine Turned.setCell ?_ (by simp) (by simp) _)
      exact Turned.refl _ _ _
    clear hX
    exact ⟨by rw [hb]; rfl, B4.out.trans ((hT.below (by omega)).mono (by omega))⟩
  | true =>
    go_wp2_with fail
    refine bodyPost_ret (v := .tuple #[.agg #[.int .i64 F.letters, .slice fa F.cs.length fc], .bool true]) (by simp [results, Try.results80, r0, r1, go_sem]) rfl ?_
    generalize hX : World.setCell _ _ _ = X
    have hT : Turned (w.heap.size + 1) (w.heap.size + 1 + 1) w4 X := by
      rw [← hX]
      repeat (refine Turned.setCell ?_ (by simp) (by simp) _)
      exact Turned.refl _ _ _
    clear hX
    exact ⟨by rw [hb]; rfl, B4.out.trans ((hT.below (by omega)).mono (by omega))⟩
theorem cmb_ok {L c : Nat} (h1 : 1 ≤ L) (hL : L ≤ 10) : OKFm ⟨(L : Int), (cmb L L c).take 49⟩ := by
  have hle : ((cmb L L c).take 49).length ≤ 49 := by rw [List.length_take]; omega
  have each : ∀ i, i < ((cmb L L c).take 49).length → ClOk (L : Int) (((cmb L L c).take 49).getD i []) := fun i hi => by
    rw [getDL hi]
    exact cmb_cl (c := c) h1 hL (List.mem_of_mem_take (List.getElem_mem hi))
  have ht : ∀ k, k ≤ ((cmb L L c).take 49).length → totAt ((cmb L L c).take 49) k ≤ 10 * k := by
    intro k
    induction k with
    | zero => intro _; exact Nat.le_refl _
    | succ k ih =>
      intro hk
      have := ih (by omega)
      have := (each k (by omega)).len
      show totAt _ k + (((cmb L L c).take 49).getD k []).length ≤ _
      omega
  refine ⟨?_, ?_, fun i hi => ?_⟩
  · have := ht _ (Nat.le_refl _)
    show szL ((cmb L L c).take 49) ≤ _
    unfold szL
    omega
  · show ((cmb L L c).take 49).length ≤ maxLen
    unfold maxLen; omega
  · have hi : i < ((cmb L L c).take 49).length := hi
    have hc := each i hi
    show FitI (((cmb L L c).take 49).getD i [])
    generalize ((cmb L L c).take 49).getD i [] = E at hc
    refine ⟨by have := hc.len; unfold maxLen; omega, fun x hx => ?_⟩
    obtain ⟨q, hq, rfl⟩ := List.getElem_of_mem hx
    have h1 := hc.a q hq
    have h2 := hc.n2
    unfold ltr at h1
    rw [show E.getD q 0 = E[q] by simp [List.getD, hq]] at h1
    split at h1 <;> omega
set_option maxHeartbeats 2000000 in
theorem specAm_no (n m : Int) (w : World) (h : (inB n 1 10 && inB m 0 n) = false) :
    Calls Try.prog 39 #[.int .i64 n, .int .i64 m] w (SaysFB ⟨0, []⟩ false w) := by
  have HRS : Hid (Res2 (w.alloc (.cells #[.int .i64 0, .slice none 0 0] 29)) w.heap.size) := Lib.hid ⟨⟨.int .i64 0, by go_simp⟩, ⟨.slice none 0 0, by go_simp⟩, fun i => by go_simp⟩
  have HB1 : Hid (∀ A, Below w.heap.size w (w.alloc A)) := Lib.hid fun A => below_alloc w A
  cases h1 : inB n 1 10 with
  | false =>
    have H1 := Lib.hid h1
    clear h h1
    go_enter Try.func39, Try.ntmps39
    go_wp2_with fail
    go_at_call 77; refine (l05Letters_is n false _ H1.out).mono ?_; rintro e w4 ⟨rfl, m1, rfl⟩
    have R4 := Lib.hid (HRS.out.keep (below_drewN (Below.refl _ _) m1) HRS.out.lt)
    have B4 := Lib.hid (below_drewN (HB1.out (.cells #[.int .i64 0, .slice none 0 0] 29)) m1)
    generalize World.drewN _ m1 = w4 at R4 B4 ⊢
    have hr4 := R4.out.lt
    obtain ⟨⟨u0, r0⟩, ⟨u1, r1⟩, rf⟩ := R4.out
    have rf0 := rf 0
    have rf1 := rf 1
    clear rf
    go_wp2_with fail
    refine bodyPost_ret (v := .tuple #[.agg #[.int .i64 0, .slice none 0 0], .bool false]) (by simp [results, Try.results39, r0, r1, go_sem]) rfl ?_
    generalize hX : World.setCell _ _ _ = X
    have hT : Turned w.heap.size (w.heap.size + 1) w4 X := by
      rw [← hX]
      repeat (refine Turned.setCell ?_ (by simp) (by simp) _)
      exact Turned.refl _ _ _
    clear hX
    exact saysFB_no (B4.out.trans (hT.below (by omega)))
  | true =>
    rw [h1, Bool.true_and] at h
    have H1 := Lib.hid h1
    have H2 := Lib.hid h
    clear h h1
    go_enter Try.func39, Try.ntmps39
    go_wp2_with fail
    go_at_call 77; refine (l05Letters_is n true _ H1.out).mono ?_; rintro e w4 ⟨rfl, m1, rfl⟩
    go_wp2_with fail
    go_at_call 78; refine (l00In_is false m 0 n _ H2.out).mono ?_; rintro e w5 ⟨rfl, m2, rfl⟩
    rw [World.drewN_drewN]
    have R4 := Lib.hid (HRS.out.keep (below_drewN (Below.refl _ _) (m1 + m2)) HRS.out.lt)
    have B4 := Lib.hid (below_drewN (HB1.out (.cells #[.int .i64 0, .slice none 0 0] 29)) (m1 + m2))
    generalize World.drewN _ (m1 + m2) = w4 at R4 B4 ⊢
    have hr4 := R4.out.lt
    obtain ⟨⟨u0, r0⟩, ⟨u1, r1⟩, rf⟩ := R4.out
    have rf0 := rf 0
    have rf1 := rf 1
    clear rf
    go_wp2_with fail
    refine bodyPost_ret (v := .tuple #[.agg #[.int .i64 0, .slice none 0 0], .bool false]) (by simp [results, Try.results39, r0, r1, go_sem]) rfl ?_
    generalize hX : World.setCell _ _ _ = X
    have hT : Turned w.heap.size (w.heap.size + 1) w4 X := by
      rw [← hX]
      repeat (refine Turned.setCell ?_ (by simp) (by simp) _)
      exact Turned.refl _ _ _
    clear hX
    exact saysFB_no (B4.out.trans (hT.below (by omega)))
theorem OutUp.fmd {L : Int} {C : List (List Int)} {lo : Nat} {s : Value} {w wr : World} {U : Nat → Value} (h : OutUp lo C s w wr U) : FmD lo wr.heap.size wr (.agg #[.int .i64 L, s]) ⟨L, C⟩ := by
  refine ⟨s, rfl, ?_⟩
  show LD _ _ wr s C
  by_cases h0 : C.length = 0
  · have hC : C = [] := List.eq_nil_of_length_eq_zero h0
    obtain ⟨ao, cap, rfl⟩ := h.slice
    rw [h0, hC]; exact LD.nil _ (Nat.le_refl _) _ _
  · exact h.ld (by omega)
set_option maxRecDepth 100000 in
set_option maxHeartbeats 4000000 in
theorem specAm_run (L m : Nat) (t : Bool) (w : World) (h1 : 1 ≤ L) (h2 : L ≤ 10) (hm : m ≤ L) (C : List (List Int)) (hC : (cmb L L (m + 1)).take 49 = C) (ht : formB ⟨(L : Int), C⟩ = t) :
    Calls Try.prog 39 #[.int .i64 (L : Int), .int .i64 (m : Int)] w (SaysFB (bif t then ⟨(L : Int), C⟩ else ⟨0, []⟩) t w) := by
  have H1 : Hid (inB (L : Int) 1 10 = true) := Lib.hid (by unfold inB; rw [decide_eq_true (by omega), decide_eq_true (by omega)]; rfl)
  have H2 : Hid (inB (m : Int) 0 (L : Int) = true) := Lib.hid (by unfold inB; rw [decide_eq_true (by omega), decide_eq_true (by omega)]; rfl)
  have HOK : Hid (OKFm ⟨(L : Int), C⟩) := Lib.hid (hC ▸ cmb_ok h1 h2)
  have HCH : Hid (chL L L (m + 1) [] [] = C) := Lib.hid (by rw [← hC]; unfold chL; simp)
  have HT := Lib.hid ht
  have HRS : Hid (Res2 (w.alloc (.cells #[.int .i64 0, .slice none 0 0] 29)) w.heap.size) := Lib.hid ⟨⟨.int .i64 0, by go_simp⟩, ⟨.slice none 0 0, by go_simp⟩, fun i => by go_simp⟩
  have HB1 : Hid (∀ A, Below w.heap.size w (w.alloc A)) := Lib.hid fun A => below_alloc w A
  have wm : IntKind.i64.wrap ((m : Int) + 1) = ((m + 1 : Nat) : Int) := by rw [IntKind.wrap_i64]; omega
  clear hC ht
  go_enter Try.func39, Try.ntmps39
  go_wp2_with fail
  go_at_call 77; refine (l05Letters_is (L : Int) true _ H1.out).mono ?_; rintro e w4 ⟨rfl, m1, rfl⟩
  go_wp2_with fail
  go_at_call 78; refine (l00In_is true (m : Int) 0 (L : Int) _ H2.out).mono ?_; rintro e w5 ⟨rfl, m2, rfl⟩
  rw [World.drewN_drewN]
  have R5 := Lib.hid (HRS.out.keep (below_drewN (Below.refl _ _) (m1 + m2)) HRS.out.lt)
  have B5 := Lib.hid (below_drewN (HB1.out (.cells #[.int .i64 0, .slice none 0 0] 29)) (m1 + m2))
  generalize World.drewN _ (m1 + m2) = w5 at R5 B5 ⊢
  have hr5 := R5.out.lt
  have hw5 : w.heap.size ≤ w5.heap.size := by omega
  have HCA : Hid (Calls Try.prog 79 #[.int .i64 (L : Int), .int .i64 1, .int .i64 ((m + 1 : Nat) : Int), .slice (some ⟨w5.heap.size, 0, none⟩) 0 0, .slice (some ⟨w5.heap.size + 1, 0, none⟩) 0 0] ((w5.alloc (.cells #[] 2)).alloc (.cells #[] 25)) (ChSays w5.heap.size C (.slice (some ⟨w5.heap.size + 1, 0, none⟩) 0 0) w5 ((w5.alloc (.cells #[] 2)).alloc (.cells #[] 25)))) := Lib.hid (by
    rw [← HCH.out]
    have hb : Below w5.heap.size w5 ((w5.alloc (.cells #[] 2)).alloc (.cells #[] 25)) := (below_alloc w5 _).alloc (by simp) _
    have g0 : Grows (Value.int .i64) 2 w5.heap.size (.slice (some ⟨w5.heap.size, 0, none⟩) 0 0) [] (w5.alloc (.cells #[] 2)) := Grows.empty _ _ _ w5 (Nat.le_refl _)
    have g1 : ((w5.alloc (.cells #[] 2)).alloc (.cells #[] 25)).ownsRow w5.heap.size 25 1 (.slice (some ⟨(w5.alloc (.cells #[] 2)).heap.size, 0, none⟩) 0 0) 0 [] := World.ownsRow_made (w5.alloc (.cells #[] 2)) #[] 0 (by simp) (by decide) rfl
    rw [World.size_alloc] at g1
    exact choose_any L w5.heap.size h2 w5 (Nat.le_refl _) (m + 1) (by omega) 1 L [] ⟨w5.heap.size, 0, none⟩ 0 [] _ _ (fun _ => vnil) (by omega) (by simp; omega) ⟨g1, fun j h => by simp at h, fun j h => by simp at h, fun i j h => by simp at h, hb⟩ hb.size (by simp) (g0.below (below_alloc _ _) (Nat.le_refl _)) (fun b e e2 => by
      injection e with e; injection e2 with e2
      have e : w5.heap.size = b := e
      have e2 : w5.heap.size + 1 = b := e2
      omega))
  go_wp2_with fail
  go_at_call 79; refine HCA.out.mono ?_; rintro e w6 ⟨s6, U6, rfl, hO, -, -⟩
  have B6 := Lib.hid hO.below
  have D6 := Lib.hid (OutUp.fmd (L := (L : Int)) hO)
  have R6 := Lib.hid (R5.out.keep hO.below hr5)
  have HBW := Lib.hid (B5.out.trans (hO.below.mono hw5))
  obtain ⟨sa, sc, rfl⟩ := hO.slice
  have hw6 : w5.heap.size ≤ w6.heap.size := hO.below.size
  clear hO HCA
  have HG : Hid (∀ o, FmV (w6.alloc o) (.agg #[.int .i64 (L : Int), .slice sa C.length sc]) ⟨(L : Int), C⟩) := Lib.hid fun o => (D6.out.fv).below (below_alloc w6 o) (Nat.le_refl _)
  go_wp2_with fail
  go_at_call 80; refine (l05Give_any _ ⟨(L : Int), C⟩ _ (HG.out _) HOK.out).mono ?_; rintro e w7 ⟨rfl, b7⟩
  rw [HT.out]
  have B7 := Lib.hid ((below_alloc w6 _).trans (b7.mono (by simp)))
  have D7 := Lib.hid (D6.out.below B7.out (Nat.le_refl _))
  have R7 := Lib.hid (R6.out.keep B7.out (by omega))
  have hz7 : w6.heap.size ≤ w7.heap.size := B7.out.size
  have BW7 := Lib.hid (HBW.out.trans (B7.out.mono HBW.out.size))
  clear b7
  have hr7 := R7.out.lt
  obtain ⟨⟨u0, r0⟩, ⟨u1, r1⟩, rf⟩ := R7.out
  have rf0 := rf 0
  have rf1 := rf 1
  clear rf
  cases t with
  | true =>
    simp only [cond_true]
    go_wp2_with fail
    refine bodyPost_ret (v := .tuple #[.agg #[.int .i64 (L : Int), .slice sa C.length sc], .bool true]) (by simp [results, Try.results39, r0, r1, go_sem]) rfl ?_
    generalize hX : World.setCell _ _ _ = X
    have hT : Turned w.heap.size (w.heap.size + 1) w7 X := by
      rw [← hX]
      repeat (refine Turned.setCell ?_ (by simp) (by simp) _)
      exact Turned.refl _ _ _
    clear hX
    obtain ⟨s', e', hl⟩ := D7.out
    have h3 := LD.wide (hl.kept' hT (Or.inr (by omega))) hw5 (Nat.le_trans hz7 hT.size) (Nat.le_refl _)
    exact ⟨_, rfl, ⟨s', e', h3⟩, BW7.out.trans (hT.below (by omega))⟩
  | false =>
    simp only [cond_false]
    go_wp2_with fail
    refine bodyPost_ret (v := .tuple #[.agg #[.int .i64 0, .slice none 0 0], .bool false]) (by simp [results, Try.results39, r0, r1, go_sem]) rfl ?_
    generalize hX : World.setCell _ _ _ = X
    have hT : Turned w.heap.size (w.heap.size + 1) w7 X := by
      rw [← hX]
      repeat (refine Turned.setCell ?_ (by simp) (by simp) _)
      exact Turned.refl _ _ _
    clear hX
    exact saysFB_no (BW7.out.trans (hT.below (by omega)))
theorem specAtMostForm_any (n m : Int) (w : World) (_ : -9223372036854775808 ≤ n ∧ n ≤ 9223372036854775807) (_ : -9223372036854775808 ≤ m ∧ m ≤ 9223372036854775807) : Calls Try.prog 39 #[.int .i64 n, .int .i64 m] w (SaysFB (amF n m) (amB n m) w) := by
  cases h : (inB n 1 10 && inB m 0 n) with
  | false =>
    have hb : amB n m = false := by unfold amB; rw [← Bool.and_assoc, h]; rfl
    rw [amF_no hb, hb]
    exact specAm_no n m w h
  | true =>
    rw [Bool.and_eq_true] at h
    have n1 := inB_ok h.1
    have n2 := inB_ok h.2
    obtain ⟨L, rfl⟩ : ∃ L : Nat, n = (L : Int) := ⟨n.toNat, by omega⟩
    obtain ⟨k, rfl⟩ : ∃ k : Nat, m = (k : Int) := ⟨m.toNat, by omega⟩
    have hf := cmb_form (L := L) (c := k + 1) (n := 49) (by omega) (by omega)
    have hb : amB (L : Int) (k : Int) = decide (((cmb L L (k + 1)).take 49).length ≤ 48) := by
      unfold amB
      rw [h.1, h.2, Bool.true_and, Bool.true_and, Int.toNat_natCast, Int.toNat_natCast, Bool.eq_iff_iff, decide_eq_true_iff, decide_eq_true_iff, List.length_take]
      omega
    have hr := specAm_run L k _ w (by omega) (by omega) (by omega) _ rfl hf
    rw [← hb] at hr
    unfold amF
    rw [Int.toNat_natCast, Int.toNat_natCast]
    cases hc : amB (L : Int) (k : Int) with
    | false => rw [hc] at hr; exact hr
    | true =>
      rw [hc] at hr
      have hl : (cmb L L (k + 1)).take 49 = cmb L L (k + 1) := by
        rw [hc] at hb
        have hb := of_decide_eq_true hb.symm
        rw [List.length_take] at hb
        exact List.take_of_length_le (by omega)
      rw [hl] at hr
      exact hr
end Go.Proofs.Ytnakpfbeeekmiaa
