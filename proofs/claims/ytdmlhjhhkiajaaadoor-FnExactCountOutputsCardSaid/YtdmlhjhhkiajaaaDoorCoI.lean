/- Outputs that are counted: the program. -/
import Derived.Test.YtdmlhjhhkiajaaaDoorCo0
import Derived.Test.YtdmlhjhhkiajaaaDoorSplI
import Derived.Test.YtdmlhjhhkiajaaaDoorHsfI
import Derived.Deep.LoopGhost
namespace Go.Proofs.YtdmlhjhhkiajaaaDoor
open Go.RowKit Go.ChangeShapes Go.WideShapes Go.Shelf

/-- The library's variable holds some number. -/
def MaxV (w : World) : Prop := ∃ m : Int, w.cell? ⟨3, 0, none⟩ = some (.int .i64 m)
theorem MaxV.below' {w w' : World} (h : MaxV w) (hb : Below w.heap.size w w') : MaxV w' := by
  obtain ⟨m, hm⟩ := h
  exact ⟨m, keep_cell hm hb (cell_block hm)⟩
theorem maxV_of {w : World} (h : w.ShapedOpen Tryd.prog) : MaxV w := Tryd.lays146.s1_3 w h
def Parted (s : ByteArray) (w : World) (e : Ending) (w' : World) : Prop := ∃ g, e = .returned (.slice (some ⟨g, 0, none⟩) (lnY s).length (lnY s).length) ∧ (∀ i, i < (lnY s).length → w'.cell? ⟨g, i, none⟩ = some (.string ((lnY s).getD i (bsOf [])))) ∧ Below w.heap.size w w'
theorem split_any (s : ByteArray) (w : World) (hs : s.size ≤ 1048576) (hm : MaxV w) :
    Calls Tryd.prog 111 #[.string s, .string ⟨#[10]⟩] w (Parted s w) := by
  obtain ⟨m, hm⟩ := hm
  have hz : (⟨#[10]⟩ : ByteArray).size = 1 := rfl
  have hl := Lib.splitB_all ⟨#[10]⟩ (by rw [hz]; exact Nat.le_refl _) 0 (Lib.countB s ⟨#[10]⟩) s rfl
  have hY : Lib.splitB ⟨#[10]⟩ 0 (Lib.countB s ⟨#[10]⟩) s = lnY s := split_cut s
  rw [hY] at hl
  refine (Any.strings_Split { Tryd.lays146 with } Tryd.lays146.i9 s ⟨#[10]⟩ m w (by omega) hm (by rw [hz]; exact Nat.le_refl _)).mono fun e w' ⟨he, hw⟩ => ?_
  subst hw
  rw [← hl] at he
  rw [hY]
  refine ⟨w.heap.size, he, fun i hi => ?_, below_alloc _ _⟩
  rw [World.cell?_alloc_new]
  simp [List.getD, hi]
theorem suffix_any (s : ByteArray) (w : World) (hs : s.size ≤ 1048576) :
    Calls Tryd.prog 110 #[.string s, .string ⟨#[10]⟩] w fun e w' => e = .returned (.bool (Lib.hasSuffix s.data.toList [10])) ∧ w = w' :=
  (Any.strings_HasSuffix Tryd.lays100 s ⟨#[10]⟩ w (by omega)).mono fun _ _ ⟨he, hw⟩ => ⟨he, hw.symm⟩
def SaysLn (s : ByteArray) (w : World) (e : Ending) (w' : World) : Prop := ∃ g M, M + 1 = (lnY s).length ∧ e = .returned (.tuple #[.slice (some ⟨g, 0, none⟩) M (M + 1), .bool true]) ∧ (∀ i, i < M → w'.cell? ⟨g, i, none⟩ = some (.string ((lnY s).getD i (bsOf [])))) ∧ Below w.heap.size w w'
set_option maxRecDepth 100000 in
set_option maxHeartbeats 2000000 in
theorem linesOf_yes (s : ByteArray) (w : World) (hs : s.size ≤ 16000) (h : s.size = 0 ∨ Lib.hasSuffix s.data.toList [10] = true) (hm : MaxV w) :
    Calls Tryd.prog 71 #[.string s] w (SaysLn s w) := by
  have SP := Lib.hid (split_any s w (by omega) hm)
  have SX := Lib.hid (fun w => suffix_any s w (by omega))
  have hN := lnY_pos s
  obtain ⟨M, hM⟩ : ∃ M, M + 1 = (lnY s).length := ⟨(lnY s).length - 1, by omega⟩
  have hMl := lnY_len s
  have HM := Lib.hid hM
  have hMb : M ≤ 20000 := by omega
  have d0 : decide ((s.size : Int) > 16000) = false := by simp; omega
  unfold Parted at SP
  rw [← hM] at SP
  have wM : IntKind.i64.wrap (((M + 1 : Nat) : Int) - 1) = (M : Int) := by rw [IntKind.wrap_i64]; omega
  have wM2 : IntKind.i64.wrap ((M : Int) + 1 - 1) = (M : Int) := by rw [IntKind.wrap_i64]; omega
  by_cases hz : s.size = 0
  · have e : s = ⟨#[]⟩ := ByteArray.ext (Array.eq_empty_of_size_eq_zero hz)
    subst e
    clear hm h hN hM hMl hz hs d0
    go_enter Tryd.func71, Tryd.ntmps71
    go_wp2_with fail
    go_at_call 111; refine SP.out.mono ?_; rintro e w2 ⟨g, rfl, hc, b2⟩
    have HC := Lib.hid hc
    have B2 := Lib.hid b2
    clear hc b2
    go_wp2_with fail
    go_ret2
    exact ⟨g, M, HM.out, rfl, fun i hi => HC.out i (by omega), B2.out⟩
  · have hx := h.resolve_left hz
    have hs1 : ¬ s.toList = [] := fun q => hz (by rw [ByteArray.toList_eq] at q; rw [show s.size = s.data.toList.length from Array.length_toList.symm, q]; rfl)
    have SX := Lib.hid (fun w => hx ▸ SX.out w)
    clear hm h hN hM hMl hx hz
    go_enter Tryd.func71, Tryd.ntmps71
    go_wp2_with fail
    go_at_call 110; refine (SX.out _).mono ?_; rintro e w1 ⟨rfl, rfl⟩
    go_wp2_with fail
    go_at_call 111; refine SP.out.mono ?_; rintro e w2 ⟨g, rfl, hc, b2⟩
    have HC := Lib.hid hc
    have B2 := Lib.hid b2
    clear hc b2
    go_wp2_with fail
    go_ret2
    exact ⟨g, M, HM.out, rfl, fun i hi => HC.out i (by omega), B2.out⟩
def SaysLnNo (w : World) (e : Ending) (w' : World) : Prop := e = .returned (.tuple #[.slice none 0 0, .bool false]) ∧ Below w.heap.size w w'
theorem linesOf_no (s : ByteArray) (w : World) (hs : s.size ≤ 1048576) (h : 16000 < s.size ∨ (s.size ≠ 0 ∧ Lib.hasSuffix s.data.toList [10] = false)) :
    Calls Tryd.prog 71 #[.string s] w (SaysLnNo w) := by
  have SX := Lib.hid (fun w => suffix_any s w hs)
  by_cases hl : 16000 < s.size
  · have d0 : decide ((s.size : Int) > 16000) = true := by simp; omega
    clear h
    go_enter Tryd.func71, Tryd.ntmps71
    go_wp2_with fail
    go_ret2
    exact ⟨rfl, Below.refl _ _⟩
  · obtain ⟨hz, hx⟩ := h.resolve_left hl
    have d0 : decide ((s.size : Int) > 16000) = false := by simp; omega
    have hs1 : ¬ s.toList = [] := fun q => hz (by rw [ByteArray.toList_eq] at q; rw [show s.size = s.data.toList.length from Array.length_toList.symm, q]; rfl)
    have hs2 : (!s.toList.isEmpty) = true := by
      cases hq : s.toList with
      | nil => exact absurd hq hs1
      | cons a b => rfl
    have SX := Lib.hid (fun w => hx ▸ SX.out w)
    clear h hx hz
    go_enter Tryd.func71, Tryd.ntmps71
    go_wp2_with fail
    go_at_call 110; refine (SX.out _).mono ?_; rintro e w1 ⟨rfl, rfl⟩
    go_wp2_with fail
    go_ret2
    exact ⟨rfl, Below.refl _ _⟩
def SaysCo (s : ByteArray) (w : World) (e : Ending) (w' : World) : Prop := e = .returned (.tuple #[.int .i64 (coN s), .int .i64 (coG s), .bool (coB s)]) ∧ Below w.heap.size w w'
theorem coB_no {s : ByteArray} (h : coB s = false) : coN s = 0 ∧ coG s = 0 := by unfold coN coG; rw [h]; exact ⟨rfl, rfl⟩
theorem coB_yes {s : ByteArray} (h : coB s = true) {M : Nat} (hM : M + 1 = (lnY s).length) : coN s = (badK (lnY s) M : Nat) ∧ coG s = (M : Int) - (badK (lnY s) M : Nat) := by
  unfold coN coG
  rw [if_pos h, if_pos h, show (lnY s).length - 1 = M by omega]
  exact ⟨rfl, rfl⟩
set_option maxRecDepth 100000 in
set_option maxHeartbeats 4000000 in
theorem implCountOutputs_any (s : ByteArray) (w : World) (hs : s.size ≤ 1048576) (hm : MaxV w) :
    Calls Tryd.prog 28 #[.string s] w (SaysCo s w) := by
  have HE := lst_empty s
  by_cases h : s.size ≤ 16000 ∧ (s.size = 0 ∨ Lib.hasSuffix s.data.toList [10] = true)
  · have LN := Lib.hid (linesOf_yes s w h.1 h.2 hm)
    have hb : coB s = true := by unfold coB; rw [decide_eq_true h.1, decide_eq_true (HE.2 h.2)]; rfl
    have CY := Lib.hid (fun M (hM : M + 1 = (lnY s).length) => coB_yes hb hM)
    have HB := Lib.hid hb
    have hl := lnY_len s
    have h1 := h.1
    clear h HE hm hb
    go_enter Tryd.func28, Tryd.ntmps28
    go_wp2_with fail
    go_at_call 71; refine LN.out.mono ?_; rintro e w2 ⟨g, M, hM, rfl, hc, b2⟩
    have HC := Lib.hid hc
    have B2 := Lib.hid b2
    have HM := Lib.hid hM
    have hMl : M ≤ 16000 := by omega
    have U0 : Hid (badK (lnY s) 0 = 0) := Lib.hid rfl
    clear hc b2 hM LN
    go_wp2_with fail
    go_loopg [7, 19] M (fun gk t i wr => ∃ k : Nat, k ≤ M ∧ gk + k = M ∧ i = .int .i64 k ∧ t = .int .i64 ((badK (lnY s) k : Nat) : Int) ∧ w2 = wr)
    case atStart => exact ⟨0, Nat.zero_le _, by omega, rfl, by rw [U0.out]; rfl, rfl⟩
    case round =>
      obtain ⟨k, hk, hgk, rfl, rfl, rfl⟩ := hrel
      have HGK := Lib.hid hgk
      have hbk := badK_le (lnY s) k
      clear hgk U0
      by_cases hlt : k < M
      · have c1 := HC.out k hlt
        have UE : Hid (badK (lnY s) (k + 1) = badK (lnY s) k + (if badB ((lnY s).getD k (bsOf [])) then 1 else 0)) := Lib.hid rfl
        generalize (lnY s).getD k (bsOf []) = x at *
        generalize badK (lnY s) k = t at *
        have wt : IntKind.i64.wrap ((t : Int) + 1) = (t : Int) + 1 := by rw [IntKind.wrap_i64]; omega
        by_cases q1 : x.toList = [110, 111]
        · have hx : x = ⟨#[110, 111]⟩ := ByteArray.ext (Array.toList_inj.1 (by rw [ByteArray.toList_eq] at q1; exact q1))
          have UY := Lib.hid (UE.out.trans (by rw [show badB x = true by unfold badB; rw [decide_eq_true hx]; rfl]))
          have qb : (x.toList == [110, 111]) = true := by rw [beq_iff_eq]; exact q1
          have QB := Lib.hid q1
          clear hx q1
          go_wp2_with fail
          go_roundg (gk - 1)
          case measure => have := HGK.out; omega
          case rel => exact ⟨k + 1, by omega, by have := HGK.out; omega, by go_num, by (rw [UY.out]; go_num), rfl⟩
        · by_cases q2 : x.toList = [119, 104, 97, 116]
          · have hx : x = ⟨#[119, 104, 97, 116]⟩ := ByteArray.ext (Array.toList_inj.1 (by rw [ByteArray.toList_eq] at q2; exact q2))
            have UY := Lib.hid (UE.out.trans (by rw [show badB x = true by unfold badB; rw [decide_eq_true hx, Bool.or_true]]))
            have qa : (x.toList == [110, 111]) = false := by rw [beq_eq_false_iff_ne]; exact q1
            have qb : (x.toList == [119, 104, 97, 116]) = true := by rw [beq_iff_eq]; exact q2
            clear hx q1 q2
            go_wp2_with fail
            go_roundg (gk - 1)
            case measure => have := HGK.out; omega
            case rel => exact ⟨k + 1, by omega, by have := HGK.out; omega, by go_num, by (rw [UY.out]; go_num), rfl⟩
          · have n1 : ¬ x = ⟨#[110, 111]⟩ := fun e => q1 (by rw [e, ByteArray.toList_eq])
            have n2 : ¬ x = ⟨#[119, 104, 97, 116]⟩ := fun e => q2 (by rw [e, ByteArray.toList_eq])
            have UN := Lib.hid (UE.out.trans (by rw [show badB x = false by unfold badB; rw [decide_eq_false n1, decide_eq_false n2]; rfl]))
            have qa : (x.toList == [110, 111]) = false := by rw [beq_eq_false_iff_ne]; exact q1
            have qb : (x.toList == [119, 104, 97, 116]) = false := by rw [beq_eq_false_iff_ne]; exact q2
            clear n1 n2 q1 q2
            go_wp2_with fail
            go_roundg (gk - 1)
            case measure => have := HGK.out; omega
            case rel => exact ⟨k + 1, by omega, by have := HGK.out; omega, by go_num, by (rw [UN.out]; go_num), rfl⟩
      · obtain rfl : k = M := by omega
        have E := Lib.hid (CY.out k HM.out)
        generalize hb2 : badK (lnY s) k = t at *
        have wt : IntKind.i64.wrap ((k : Int) - (t : Int)) = (k : Int) - (t : Int) := by rw [IntKind.wrap_i64]; omega
        have HT := Lib.hid hb2
        clear hb2
        go_wp2_with fail
        refine bodyPost_ret (v := .tuple #[.int .i64 (t : Int), .int .i64 ((k : Int) - (t : Int)), .bool true]) (by simp [results, Tryd.results28, go_sem]) rfl ?_
        exact ⟨by rw [E.out.1, E.out.2, HB.out], B2.out⟩
  · have hn : coB s = false := by
      rw [Bool.eq_false_iff]
      intro hc
      unfold coB at hc
      rw [Bool.and_eq_true, decide_eq_true_eq, decide_eq_true_eq] at hc
      exact h ⟨hc.1, HE.1 hc.2⟩
    have LN := Lib.hid (linesOf_no s w hs (by
      by_cases hl : 16000 < s.size
      · exact Or.inl hl
      · refine Or.inr ⟨fun q => h ⟨by omega, Or.inl q⟩, ?_⟩
        rw [Bool.eq_false_iff]
        exact fun q => h ⟨by omega, Or.inr q⟩))
    have E := Lib.hid (coB_no hn)
    have HN := Lib.hid hn
    clear h HE hm hn
    go_enter Tryd.func28, Tryd.ntmps28
    go_wp2_with fail
    go_at_call 71; refine LN.out.mono ?_; rintro e w2 ⟨rfl, b2⟩
    have B2 := Lib.hid b2
    clear b2
    go_wp2_with fail
    refine bodyPost_ret (v := .tuple #[.int .i64 0, .int .i64 0, .bool false]) (by simp [results, Tryd.results28, go_sem]) rfl ?_
    exact ⟨by rw [E.out.1, E.out.2, HN.out], B2.out⟩
end Go.Proofs.YtdmlhjhhkiajaaaDoor
