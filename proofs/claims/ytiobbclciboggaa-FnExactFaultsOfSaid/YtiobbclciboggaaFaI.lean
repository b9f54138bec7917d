/- Faults in a room: the program. -/
import Derived.Test.YtiobbclciboggaaGoC
import Derived.Test.YtiobbclciboggaaWth
import Derived.Test.YtiobbclciboggaaAsk
import Derived.Laws.MakeOwn
import Derived.OwnWalk
namespace Go.Proofs.Ytiobbclciboggaa
open Go.RowKit Go.ChangeShapes Go.WideShapes

theorem Try.infoFi : (Try.prog.info? 2).map (fun i => (i.zero, i.size, i.bytes)) = some (some (.int .i64 0), 1, 8) := by kernel_rfl
theorem inS_ints (Y : List Nat) (x : Nat) : inS (intsN Y) (x : Int) = decide (x ∈ Y) := by
  unfold inS
  rw [Bool.eq_iff_iff, List.any_eq_true, decide_eq_true_eq]
  constructor
  · rintro ⟨i, hi, h⟩
    rw [List.mem_range, intsN_len] at hi
    rw [intsN_at hi] at h
    have h3 := eq_of_beq h
    have e : Y.getD i 0 = x := by omega
    rw [← e, show Y.getD i 0 = Y[i] by simp [List.getD, hi]]
    exact List.getElem_mem _
  · intro h
    obtain ⟨i, hi, rfl⟩ := List.getElem_of_mem h
    exact ⟨i, by rw [List.mem_range, intsN_len]; exact hi, by rw [intsN_at hi]; simp [List.getD, hi]⟩
theorem intsN_more (K : List Nat) (x : Nat) : intsN (K ++ [x]) = intsN K ++ [(x : Int)] := by unfold intsN; rw [List.map_append]; rfl
/-- What is behind place k, as the slice reads. -/
theorem il_drop {b off cap k : Nat} {Q : List Nat} {w : World} (hk : k ≤ Q.length) (hb : b < w.heap.size) (h : ∀ i, i < Q.length → w.cell? ⟨b, off + i, none⟩ = some (.int .i64 ((Q.getD i 0 : Nat) : Int))) :
    IL w (.slice (some ⟨b, off + k, none⟩) (Q.length - k) (Q.length + cap - k)) (intsN (Q.drop k)) := by
  have hl : (intsN (Q.drop k)).length = Q.length - k := by rw [intsN_len, List.length_drop]
  by_cases h0 : Q.length - k = 0
  · left
    refine ⟨List.eq_nil_of_length_eq_zero (by rw [hl, h0]), _, _, by rw [h0]⟩
  · refine Or.inr ⟨b, off + k, cap, by rw [hl]; congr 1; omega, by omega, hb, fun i hi => ?_⟩
    rw [hl] at hi
    have h2 := h (k + i) (by omega)
    rw [intsN_at (by rw [List.length_drop]; exact hi)]
    rw [Nat.add_assoc, h2]
    congr 3
    simp [List.getD]
theorem il_drop0 {ao : Option Addr} {c k : Nat} {Q : List Nat} {w : World} (h : Q.length ≤ k) : IL w (.slice ao (Q.length - k) c) (intsN (Q.drop k)) := by
  rw [List.drop_eq_nil_of_le h]
  exact Or.inl ⟨rfl, ao, c, by rw [show Q.length - k = 0 by omega]⟩
set_option maxRecDepth 100000 in
set_option maxHeartbeats 8000000 in
theorem implFaults_yes (v : Value) (Q : List Nat) (r : Nat) (rule : Int) (w : World) (hv : IL w v (intsN Q)) (h1 : asksB (intsN Q) 63 = true) (hr1 : 1 ≤ r) (hr2 : r ≤ 16) (hu1 : 0 ≤ rule) (hu2 : rule ≤ 2) (hq : Q.length ≤ 64) (hx : ∀ x ∈ Q, x < 64) :
    Calls Try.prog 44 #[v, .int .i64 (r : Int), .int .i64 rule] w (SaysIB ((fsS Q r rule Q.length).2 : Nat) true w) := by
  obtain ⟨i0, hi, hz0, hz1, hz2⟩ := info_parts Try.infoFi
  have HV := Lib.hid hv
  have H1 := Lib.hid h1
  have hql := intsN_len Q
  have HOK := Lib.hid (fun i hi => fsS_ok (Q := Q) (rule := rule) hr1 i hi)
  have HX := Lib.hid hx
  rcases hv with ⟨hz, ao, cap, rfl⟩ | ⟨b, off, cap, rfl, hpos, hbl, hcell⟩
  · exfalso
    have : few64 (intsN Q).length = true := by unfold asksB at h1; simp only [Bool.and_eq_true] at h1; exact h1.2
    rw [hz] at this
    revert this; decide
  rw [hql] at hcell HV ⊢
  have HC : Hid (∀ W, Below w.heap.size w W → ∀ i, i < Q.length → W.cell? ⟨b, off + i, none⟩ = some (.int .i64 ((Q.getD i 0 : Nat) : Int))) := Lib.hid fun W h i hi => by
    rw [h.cell (p := ⟨b, off + i, none⟩) hbl, hcell i hi, intsN_at hi]
  have HR1 : Hid ((decide ((1 : Int) ≤ (r : Int)) && decide ((r : Int) ≤ 16)) = true) := Lib.hid (by rw [decide_eq_true (by omega), decide_eq_true (by omega)]; rfl)
  have HR2 : Hid ((decide ((0 : Int) ≤ rule) && decide (rule ≤ 2)) = true) := Lib.hid (by rw [decide_eq_true hu1, decide_eq_true hu2]; rfl)
  clear hcell h1 hql hx
  go_enter Try.func44, Try.ntmps44
  go_wp2_with fail
  go_at_call 81; refine (areAsks_is true _ (intsN Q) 63 _ HV.out (by rw [intsN_len]; omega) H1.out).mono ?_; rintro e w1 ⟨rfl, m1, rfl⟩
  go_wp2_with fail
  go_at_call 66; refine (isFrom_is true _ 1 16 _ HR1.out).mono ?_; rintro e w2 ⟨rfl, m2, rfl⟩
  go_wp2_with fail
  go_at_call 66; refine (isFrom_is true _ 0 2 _ HR2.out).mono ?_; rintro e w3 ⟨rfl, m3, rfl⟩
  have B3 := Lib.hid (below_drewN (Below.refl w.heap.size w) (m1 + m2 + m3))
  go_wp2_with fail
  go_loopg [8, 9, 27] Q.length (fun gk s f i wr => ∃ k : Nat, k ≤ Q.length ∧ gk + k = Q.length ∧ i = .int .i64 k ∧ f = .int .i64 ((fsS Q r rule k).2 : Nat) ∧ Grows (Value.int .i64) 2 w.heap.size s (intsN (fsS Q r rule k).1) wr ∧ Below w.heap.size w wr)
  case atStart => exact ⟨0, Nat.zero_le _, by omega, rfl, rfl, Grows.nil _ _ _ _, B3.out⟩
  case round =>
    obtain ⟨k, hk, hgk, rfl, rfl, hG, hB⟩ := hrel
    have HB := Lib.hid hB
    by_cases hlt : k < Q.length
    · have c1 := HC.out _ hB k hlt
      have ok := HOK.out k (by omega)
      have ND := Lib.hid ok.nd
      have SUB := Lib.hid ok.sub
      have fl := ok.len
      have ff := ok.few
      have U : Hid (fsS Q r rule (k + 1) = fsStep r rule (Q.drop (k + 1)) (Q.getD k 0) (fsS Q r rule k)) := Lib.hid rfl
      have hxm : Q.getD k 0 ∈ Q := by rw [show Q.getD k 0 = Q[k] by simp [List.getD, hlt]]; exact List.getElem_mem _
      have D : Hid (∀ W, Below w.heap.size w W → IL W (.slice (some ⟨b, off + (k + 1), none⟩) (Q.length - (k + 1)) (Q.length + cap - (k + 1))) (intsN (Q.drop (k + 1)))) := Lib.hid fun W h => il_drop (by omega) (Nat.lt_of_lt_of_le hbl h.size) (HC.out W h)
      have hx64 : Q.getD k 0 < 64 := HX.out _ hxm
      generalize fsS Q r rule k = P at *
      obtain ⟨Y, f⟩ := P
      dsimp only at *
      generalize Q.getD k 0 = x at *
      have HG := Lib.hid hG
      obtain ⟨sa, sc, rfl⟩ := SI.len (d := (0 : Int)) hG.si
      rw [intsN_len] at HG ⊢
      have YL : Hid (∀ y ∈ Y, y < 64) := Lib.hid fun y hy => HX.out _ (SUB.out y hy)
      obtain ⟨t, ht⟩ : ∃ t, decide (x ∈ Y) = t := ⟨_, rfl⟩
      have HT : Hid (inS (intsN Y) (x : Int) = t) := Lib.hid (by rw [inS_ints]; exact ht)
      have HIL : Hid (IL wr (.slice sa Y.length sc) (intsN Y)) := Lib.hid (by have h := HG.out.si (d := (0 : Int)); exact h.vl)
      clear hG hB ok hxm
      cases t with
      | true =>
        have hm : x ∈ Y := of_decide_eq_true ht
        have hY0 : 0 < Y.length := List.length_pos_of_mem hm
        by_cases hr : rule = 1
        · have UE : Hid (fsS Q r rule (k + 1) = ((Y.filter fun z => !(z == x)) ++ [x], f)) := Lib.hid (by rw [U.out]; unfold fsStep; dsimp only; rw [if_pos hm, if_pos hr])
          have hfl : (Y.filter fun z => !(z == x)).length ≤ 16 := Nat.le_trans (List.length_filter_le _ _) (by omega)
          subst hr
          clear ht hm
          go_wp2_with fail
          go_at_call 82; refine (contains_any _ (intsN Y) (x : Int) _ HIL.out (by rw [intsN_len]; omega)).mono ?_; rintro e w4 ⟨rfl, rfl⟩
          rw [HT.out]
          go_wp2_with fail
          go_at_call 83; refine (without_any 64 (by omega) w.heap.size _ Y x _ YL.out hY0 (by omega) HG.out).mono ?_; rintro e w5 ⟨y, rfl, hy, -, g, hg, tt⟩
          have hgl := (World.ownsRow.lt HG.out g hg).1
          have B5 := Lib.hid (HB.out.trans ((tt.below (by have := (World.ownsRow.lt HG.out g hg).2; omega)).mono hgl))
          have G5 := Lib.hid hy
          obtain ⟨ya, yc, rfl⟩ := SI.len (d := (0 : Int)) hy.si
          rw [intsN_len] at G5 ⊢
          clear hy tt hg
          go_wp2_with (at_builtin; (refine wpList_append_own _ rfl _ _ 24 rfl w.heap.size 2 i0 (.int .i64 0) 1 8 Try.underlying24 hi hz0 hz1 hz2 rfl (by decide) _ _ _ rfl (Grows.alloc G5.out _) ⟨w5.heap.size, 0, none⟩ 1 1 [.int .i64 (x : Int)] rfl rfl one_new (by intro u hu; simp at hu; subst hu; rfl) (by rw [intsN_len]; unfold maxLen; omega) (by rw [intsN_len]; omega) (by have := B5.out.size; simp; omega) ?_); intro v' w8 hown hgrow _; have G8 : Hid (Grows (Value.int .i64) 2 w.heap.size v' (intsN ((Y.filter fun z => !(z == x)) ++ [x])) w8) := Lib.hid (by (rw [intsN_more]; exact Grows.more rfl hown)); have B8 : Hid (Below w.heap.size w w8) := Lib.hid ((B5.out.alloc B5.out.size _).grown hgrow (by have := B5.out.size; simp; omega) (fun q hq => (World.ownsRow.lt G5.out q hq).1)); clear hown hgrow; obtain ⟨va, vc, rfl⟩ := SI.len (d := (0 : Int)) G8.out.si)
          go_roundg (gk - 1)
          case measure => omega
          case rel => exact ⟨k + 1, by omega, by omega, by go_num, by rw [UE.out], by rw [UE.out]; exact G8.out, B8.out⟩
        · have UE : Hid (fsS Q r rule (k + 1) = (Y, f)) := Lib.hid (by rw [U.out]; unfold fsStep; dsimp only; rw [if_pos hm, if_neg hr])
          have hr1' : (rule == 1) = false := by simpa using hr
          clear ht hm
          go_wp2_with fail
          go_at_call 82; refine (contains_any _ (intsN Y) (x : Int) _ HIL.out (by rw [intsN_len]; omega)).mono ?_; rintro e w4 ⟨rfl, rfl⟩
          rw [HT.out]
          go_wp2_with fail
          go_roundg (gk - 1)
          case measure => omega
          case rel => exact ⟨k + 1, by omega, by omega, by go_num, by rw [UE.out], by rw [UE.out]; exact HG.out, HB.out⟩
      | false =>
        have hm : ¬ x ∈ Y := of_decide_eq_false ht
        have wf : IntKind.i64.wrap ((f : Int) + 1) = ((f + 1 : Nat) : Int) := by rw [IntKind.wrap_i64]; omega
        by_cases hr : Y.length = r
        · have hY0 : 0 < Y.length := by omega
          obtain ⟨o, ho⟩ : ∃ o, o = Y.getD (outI rule (Q.drop (k + 1)) Y) 0 := ⟨_, rfl⟩
          have HO := Lib.hid ho
          have UE : Hid (fsS Q r rule (k + 1) = ((Y.filter fun z => !(z == o)) ++ [x], f + 1)) := Lib.hid (by rw [U.out]; unfold fsStep; dsimp only; rw [if_neg hm, if_pos hr, ← HO.out])
          have hfl : (Y.filter fun z => !(z == o)).length ≤ 16 := Nat.le_trans (List.length_filter_le _ _) (by omega)
          have hri : ((Y.length : Int) == (r : Int)) = true := by simp; omega
          have hdl : (Q.drop (k + 1)).length ≤ 64 := by simp; omega
          subst hr
          clear ht hm ho
          by_cases hcap : Q.length + cap = k + 1
          · have D0 : Hid (∀ (W : World) (ao : Option Addr) (c : Nat), IL W (.slice ao (Q.length - (k + 1)) c) (intsN (Q.drop (k + 1)))) := Lib.hid fun W _ _ => il_drop0 (by omega)
            have D1 : Hid (∀ (W : World) (ao : Option Addr) (c : Nat), IL W (.slice ao 0 c) (intsN (Q.drop (k + 1)))) := Lib.hid fun W ao c => by have h := il_drop0 (ao := ao) (c := c) (w := W) (Q := Q) (k := k + 1) (by omega); rwa [show Q.length - (k + 1) = 0 by omega] at h
            obtain rfl : cap = 0 := by omega
            have hk1 : k + 1 = Q.length := by omega
            clear hcap
            go_wp2_with fail
            go_at_call 82; refine (contains_any _ (intsN Y) (x : Int) _ HIL.out (by rw [intsN_len]; omega)).mono ?_; rintro e w4 ⟨rfl, rfl⟩
            rw [HT.out]
            go_wp2_with fail
            go_at_call 84; refine (goesOut_any rule _ _ (Q.drop (k + 1)) Y _ (by first | exact D0.out _ _ _ | exact D1.out _ _ _) (by omega) HIL.out (by omega) hY0).mono ?_; rintro e w4 ⟨rfl, b4⟩
            rw [← HO.out]
            have G4 := Lib.hid (HG.out.below b4 (Nat.le_refl _))
            have B4 := Lib.hid (HB.out.trans (b4.mono HB.out.size))
            clear b4
            go_wp2_with fail
            go_at_call 83; refine (without_any 64 (by omega) w.heap.size _ Y o _ YL.out hY0 (by omega) G4.out).mono ?_; rintro e w5 ⟨y, rfl, hy, -, g, hg, tt⟩
            have hgl := (World.ownsRow.lt G4.out g hg).1
            have B5 := Lib.hid (B4.out.trans ((tt.below (by have := (World.ownsRow.lt G4.out g hg).2; omega)).mono hgl))
            have G5 := Lib.hid hy
            obtain ⟨ya, yc, rfl⟩ := SI.len (d := (0 : Int)) hy.si
            rw [intsN_len] at G5 ⊢
            clear hy tt hg
            go_wp2_with (at_builtin; (refine wpList_append_own _ rfl _ _ 24 rfl w.heap.size 2 i0 (.int .i64 0) 1 8 Try.underlying24 hi hz0 hz1 hz2 rfl (by decide) _ _ _ rfl (Grows.alloc G5.out _) ⟨w5.heap.size, 0, none⟩ 1 1 [.int .i64 (x : Int)] rfl rfl one_new (by intro u hu; simp at hu; subst hu; rfl) (by rw [intsN_len]; unfold maxLen; omega) (by rw [intsN_len]; omega) (by have := B5.out.size; simp; omega) ?_); intro v' w8 hown hgrow _; have G8 : Hid (Grows (Value.int .i64) 2 w.heap.size v' (intsN ((Y.filter fun z => !(z == o)) ++ [x])) w8) := Lib.hid (by (rw [intsN_more]; exact Grows.more rfl hown)); have B8 : Hid (Below w.heap.size w w8) := Lib.hid ((B5.out.alloc B5.out.size _).grown hgrow (by have := B5.out.size; simp; omega) (fun q hq => (World.ownsRow.lt G5.out q hq).1)); clear hown hgrow; obtain ⟨va, vc, rfl⟩ := SI.len (d := (0 : Int)) G8.out.si)
            go_roundg (gk - 1)
            case measure => omega
            case rel => exact ⟨k + 1, by omega, by omega, by go_num, by (rw [UE.out]; go_num), by rw [UE.out]; exact G8.out, B8.out⟩
          · skip
            go_wp2_with fail
            go_at_call 82; refine (contains_any _ (intsN Y) (x : Int) _ HIL.out (by rw [intsN_len]; omega)).mono ?_; rintro e w4 ⟨rfl, rfl⟩
            rw [HT.out]
            go_wp2_with fail
            go_at_call 84; refine (goesOut_any rule _ _ (Q.drop (k + 1)) Y _ (D.out _ HB.out) (by omega) HIL.out (by omega) hY0).mono ?_; rintro e w4 ⟨rfl, b4⟩
            rw [← HO.out]
            have G4 := Lib.hid (HG.out.below b4 (Nat.le_refl _))
            have B4 := Lib.hid (HB.out.trans (b4.mono HB.out.size))
            clear b4
            go_wp2_with fail
            go_at_call 83; refine (without_any 64 (by omega) w.heap.size _ Y o _ YL.out hY0 (by omega) G4.out).mono ?_; rintro e w5 ⟨y, rfl, hy, -, g, hg, tt⟩
            have hgl := (World.ownsRow.lt G4.out g hg).1
            have B5 := Lib.hid (B4.out.trans ((tt.below (by have := (World.ownsRow.lt G4.out g hg).2; omega)).mono hgl))
            have G5 := Lib.hid hy
            obtain ⟨ya, yc, rfl⟩ := SI.len (d := (0 : Int)) hy.si
            rw [intsN_len] at G5 ⊢
            clear hy tt hg
            go_wp2_with (at_builtin; (refine wpList_append_own _ rfl _ _ 24 rfl w.heap.size 2 i0 (.int .i64 0) 1 8 Try.underlying24 hi hz0 hz1 hz2 rfl (by decide) _ _ _ rfl (Grows.alloc G5.out _) ⟨w5.heap.size, 0, none⟩ 1 1 [.int .i64 (x : Int)] rfl rfl one_new (by intro u hu; simp at hu; subst hu; rfl) (by rw [intsN_len]; unfold maxLen; omega) (by rw [intsN_len]; omega) (by have := B5.out.size; simp; omega) ?_); intro v' w8 hown hgrow _; have G8 : Hid (Grows (Value.int .i64) 2 w.heap.size v' (intsN ((Y.filter fun z => !(z == o)) ++ [x])) w8) := Lib.hid (by (rw [intsN_more]; exact Grows.more rfl hown)); have B8 : Hid (Below w.heap.size w w8) := Lib.hid ((B5.out.alloc B5.out.size _).grown hgrow (by have := B5.out.size; simp; omega) (fun q hq => (World.ownsRow.lt G5.out q hq).1)); clear hown hgrow; obtain ⟨va, vc, rfl⟩ := SI.len (d := (0 : Int)) G8.out.si)
            go_roundg (gk - 1)
            case measure => omega
            case rel => exact ⟨k + 1, by omega, by omega, by go_num, by (rw [UE.out]; go_num), by rw [UE.out]; exact G8.out, B8.out⟩
        · have UE : Hid (fsS Q r rule (k + 1) = (Y ++ [x], f + 1)) := Lib.hid (by rw [U.out]; unfold fsStep; dsimp only; rw [if_neg hm, if_neg hr])
          have hri : ((Y.length : Int) == (r : Int)) = false := by simp; omega
          have hri2 : ¬ (Y.length : Int) = (r : Int) := by omega
          clear ht hm
          go_wp2_with fail
          go_at_call 82; refine (contains_any _ (intsN Y) (x : Int) _ HIL.out (by rw [intsN_len]; omega)).mono ?_; rintro e w4 ⟨rfl, rfl⟩
          rw [HT.out]
          go_wp2_with (at_builtin; (refine wpList_append_own _ rfl _ _ 24 rfl w.heap.size 2 i0 (.int .i64 0) 1 8 Try.underlying24 hi hz0 hz1 hz2 rfl (by decide) _ _ _ rfl (Grows.alloc HG.out _) ⟨wr.heap.size, 0, none⟩ 1 1 [.int .i64 (x : Int)] rfl rfl one_new (by intro u hu; simp at hu; subst hu; rfl) (by rw [intsN_len]; unfold maxLen; omega) (by rw [intsN_len]; omega) (by have := HB.out.size; simp; omega) ?_); intro v' w8 hown hgrow _; have G8 : Hid (Grows (Value.int .i64) 2 w.heap.size v' (intsN (Y ++ [x])) w8) := Lib.hid (by (rw [intsN_more]; exact Grows.more rfl hown)); have B8 : Hid (Below w.heap.size w w8) := Lib.hid ((HB.out.alloc HB.out.size _).grown hgrow (by have := HB.out.size; simp; omega) (fun q hq => (World.ownsRow.lt HG.out q hq).1)); clear hown hgrow; obtain ⟨va, vc, rfl⟩ := SI.len (d := (0 : Int)) G8.out.si)
          go_roundg (gk - 1)
          case measure => omega
          case rel => exact ⟨k + 1, by omega, by omega, by go_num, by (rw [UE.out]; go_num), by rw [UE.out]; exact G8.out, B8.out⟩
    · obtain rfl : k = Q.length := by omega
      clear hG hB
      go_wp2_with fail
      go_ret2
      exact ⟨rfl, HB.out⟩
end Go.Proofs.Ytiobbclciboggaa
