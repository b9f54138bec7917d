/- Literals whose opposites are nowhere: the program. -/
import Derived.Test.YtnakpfbeeekmiaaPu0
import Derived.Test.YtnakpfbeeekmiaaLo
import Derived.Deep.AppendLies
namespace Go.Proofs.Ytnakpfbeeekmiaa
open Go.RowKit Go.ChangeShapes Go.WideShapes Go.Maps
set_option maxRecDepth 100000

theorem jbI_no {w X : World} (hb : Below w.heap.size w X) : SaysJB [] false w (.returned (.tuple #[.slice none 0 0, .bool false])) X := ⟨_, rfl, SI.nil _ (Nat.le_refl _) _ _, hb⟩
set_option maxHeartbeats 8000000 in
theorem implPureIn_any (v : Value) (F : Fm) (w : World) (hv : FmV w v F) (o : OKFm F) : Calls Try.prog 44 #[v] w (SaysJB (puF F) (formB F) w) := by
  have hmm := @run_makeMap Try.prog
  obtain ⟨s1, rfl, hl⟩ := hv
  have HL : Hid (∀ W, Below w.heap.size w W → LV W s1 F.cs) := Lib.hid fun W b => hl.below b (Nat.le_refl _)
  have HB1 : Hid (∀ A, Below w.heap.size w (w.alloc A)) := Lib.hid fun A => below_alloc w A
  have HBX := Lib.hid (Box2.mk' w (.int .i64 F.letters) s1 29)
  obtain ⟨fa, fc, rfl⟩ := hl.long
  clear hl
  cases h1 : formB F with
  | false =>
    have HF : Hid (puF F = []) := Lib.hid (by unfold puF; rw [h1]; rfl)
    rw [HF.out]
    have H1 := Lib.hid h1
    clear h1 hmm
    go_enter Try.func44, Try.ntmps44
    go_wp2_with fail
    go_at_call 50; refine (implForm_any _ F _ ⟨_, rfl, HL.out _ (HB1.out _)⟩ o).mono ?_; rintro e w4 ⟨rfl, b4⟩
    rw [H1.out]
    have B4 := Lib.hid ((HB1.out _).trans (b4.mono (HB1.out _).size))
    clear b4
    go_wp2_with fail
    go_ret2
    exact jbI_no B4.out
  | true =>
    have HOK := Lib.hid (formB_ok h1)
    have n1 := HOK.out.n1
    have n2 := HOK.out.n2
    obtain ⟨L, hL⟩ : ∃ L : Nat, F.letters = (L : Int) := ⟨F.letters.toNat, by omega⟩
    have HF : Hid (puF F = puK F.cs L) := Lib.hid (by unfold puF; rw [h1, hL]; rfl)
    rw [HF.out]
    have H1 := Lib.hid h1
    have HLL := Lib.hid hL
    have hL1 : 1 ≤ L := by omega
    have hL2 : L ≤ 10 := by omega
    have hfew := HOK.out.few
    have hten : ∀ i, i < F.cs.length → (F.cs.getD i []).length ≤ 10 := fun i hi => by have := (HOK.out.cl i hi).len; omega
    have htot : ∀ k, k ≤ F.cs.length → totAt F.cs k ≤ 10 * k := by
      intro k
      induction k with
      | zero => intro _; exact Nat.le_refl _
      | succ k ih =>
        intro hk
        have := ih (by omega)
        have := hten k (by omega)
        show totAt F.cs k + (F.cs.getD k []).length ≤ _
        omega
    have HTT := Lib.hid htot
    have HTN := Lib.hid hten
    clear h1 n1 n2 hL htot hten
    go_enter Try.func44, Try.ntmps44
    go_wp2_with fail
    go_at_call 50; refine (implForm_any _ F _ ⟨_, rfl, HL.out _ (HB1.out _)⟩ o).mono ?_; rintro e w4 ⟨rfl, b4⟩
    rw [H1.out]
    have B4 := Lib.hid ((HB1.out _).trans (b4.mono (HB1.out _).size))
    have X4 : Hid (Box2 w4 w.heap.size (.int .i64 (L : Int)) (.slice fa F.cs.length fc)) := Lib.hid (by have h := HBX.out.keep b4 HBX.out.lt; rw [HLL.out] at h; exact h)
    clear b4 HBX
    have hs4 : w.heap.size < w4.heap.size := X4.out.lt
    have hw4 : w.heap.size ≤ w4.heap.size := B4.out.size
    have HXW : Hid (∀ W, Below w4.heap.size w4 W → Box2 W w.heap.size (.int .i64 (L : Int)) (.slice fa F.cs.length fc)) := Lib.hid fun W b => X4.out.keep b hs4
    have HLW : Hid (∀ W, Below w4.heap.size w4 W → LV W (.slice fa F.cs.length fc) F.cs) := Lib.hid fun W b => HL.out W (B4.out.trans (b.mono hw4))
    have HGB : Hid (∀ W, (w4.alloc (.map #[] 0)).grownBy W (some w4.heap.size) → Below w4.heap.size w4 W) := Lib.hid fun W g => (below_alloc w4 (.map #[] 0)).grown g (by simp) (fun k hk => Nat.le_of_eq (Option.some.inj hk))
    have S0 := Lib.hid (SetM.made w4)
    obtain ⟨x0, x1⟩ := HXW.out _ (below_alloc w4 (.map #[] 0))
    go_wp2_with fail
    clear hmm
    go_loopg [15] F.cs.length (fun gk i wr => ∃ k : Nat, k ≤ F.cs.length ∧ gk + k = F.cs.length ∧ i = .int .i64 k ∧ SetM (occK F.cs k) (totAt F.cs k) w4.heap.size wr ∧ (w4.alloc (.map #[] 0)).grownBy wr (some w4.heap.size))
    case atStart => exact ⟨0, Nat.zero_le _, by omega, rfl, S0.out.is fun x => rfl, World.grownBy.refl _ _⟩
    case round =>
      clear S0 x0 x1
      obtain ⟨k, hk, hgk, rfl, hS, hG⟩ := hrel
      have HS := Lib.hid hS
      have HG := Lib.hid hG
      clear hS hG
      have HBW := Lib.hid (HGB.out _ HG.out)
      by_cases hlt : k < F.cs.length
      · rcases HLW.out _ HBW.out with ⟨hz, -⟩ | ⟨b, off, cap, D, e, hpos, hbl, hcell⟩
        · rw [hz] at hlt; simp at hlt
        injection e with e1 _ e3
        subst e1
        have cD := (hcell k hlt).1
        have ID := Lib.hid (hcell k hlt).2
        have hE := HTN.out k hlt
        have hT := HTT.out k hk
        have HCL := Lib.hid (HOK.out.cl k hlt)
        have hn2 := HOK.out.n2
        have HU := Lib.hid fun x => occK_up F.cs k x
        have HN : Hid (totAt F.cs (k + 1) = totAt F.cs k + (F.cs.getD k []).length) := Lib.hid rfl
        have HR : Hid (∀ i, i < (F.cs.getD k []).length → InR ((F.cs.getD k []).getD i 0)) := Lib.hid fun i hi => by
          have h := HCL.out.a i hi
          unfold ltr at h
          unfold InR
          split at h <;> omega
        generalize D k = u at cD ID
        generalize F.cs.getD k [] = E at ID hE HU HN HR
        generalize totAt F.cs k = t at HS HN hT
        clear e3 hcell hbl hpos HCL hn2
        go_wp2_with fail
        go_at_call 66; refine (putAll_any (occK F.cs k) t w4.heap.size _ E _ HS.out ID.out (by omega) (by omega) HR.out).mono ?_; rintro e w7 ⟨rfl, s7, g7⟩
        have S7 := Lib.hid (s7.is fun x => (addK_all (occK F.cs k) E x).trans (HU.out x).symm)
        have G7 := Lib.hid (HG.out.trans g7)
        clear s7 g7
        go_wp2_with fail
        go_roundg (gk - 1)
        case measure => omega
        case rel => exact ⟨k + 1, by omega, by omega, by go_num, by rw [HN.out]; exact S7.out, G7.out⟩
      · obtain rfl : k = F.cs.length := by omega
        have hT := HTT.out F.cs.length (Nat.le_refl _)
        have HS0 := Lib.hid (HS.out.is fun x => prK_zero F.cs x)
        have HG0 := HG
        generalize totAt F.cs F.cs.length = t at HS0 hT
        clear HS
        go_wp2_with fail
        go_loopg [7] L (fun gk i wr => ∃ a : Nat, a ≤ L ∧ gk + a = L ∧ i = .int .i64 ((a + 1 : Nat) : Int) ∧ SetM (prK F.cs a) t w4.heap.size wr ∧ (w4.alloc (.map #[] 0)).grownBy wr (some w4.heap.size))
        case atStart => exact ⟨0, Nat.zero_le _, by omega, rfl, HS0.out, HG0.out⟩
        case round =>
          clear HS0 HG0 HG HBW
          obtain ⟨a, ha, hga, rfl, hS, hG⟩ := hrel
          have HS := Lib.hid hS
          have HG := Lib.hid hG
          have HBW := Lib.hid (HGB.out _ hG)
          clear hG hS
          obtain ⟨x0, x1⟩ := HXW.out _ HBW.out
          by_cases hal : a < L
          · have HT2 := Lib.hid (@prK_two F.cs a)
            have HT1 := Lib.hid (@prK_one F.cs a)
            have hn1 : prK F.cs a ((a + 1 : Nat) : Int) = occK F.cs F.cs.length ((a + 1 : Nat) : Int) := prK_new ((ltr_is (by omega)).2 (Or.inl rfl))
            have hn2 : prK F.cs a (-((a + 1 : Nat) : Int)) = occK F.cs F.cs.length (-((a + 1 : Nat) : Int)) := prK_new ((ltr_is (by omega)).2 (Or.inr rfl))
            obtain ⟨A, hA⟩ : ∃ A : Int, A = ((a + 1 : Nat) : Int) := ⟨_, rfl⟩
            have hA1 : A ≤ (L : Int) := by omega
            have hA0 : 1 ≤ A := by omega
            have hA2 : A ≤ 10 := by omega
            have wn : IntKind.i64.wrap (-A) = -A := IntWalk.i64_in _ (by omega)
            have wa : IntKind.i64.wrap (A + 1) = ((a + 1 + 1 : Nat) : Int) := by rw [IntKind.wrap_i64]; omega
            rw [← hA] at HT1 HT2 hn1 hn2 ⊢
            have r1 := HS.out.look (x := A) (by unfold InR; omega)
            have r2 := HS.out.look (x := -A) (by unfold InR; omega)
            rw [hn1] at r1
            rw [hn2] at r2
            have KA : Hid (InR A ∧ InR (-A)) := Lib.hid (by unfold InR; omega)
            clear hn1 hn2 hA
            cases p : occK F.cs F.cs.length A with
            | false =>
              rw [p] at r1
              have HN : Hid (∀ y, prK F.cs a y = prK F.cs (a + 1) y) := Lib.hid (HT1.out (by rw [p]; rfl))
              clear p HT1 HT2
              go_wp2_with fail
              go_roundg (gk - 1)
              case measure => omega
              case rel => exact ⟨a + 1, by omega, by omega, rfl, HS.out.is HN.out, HG.out⟩
            | true =>
              rw [p] at r1
              cases q : occK F.cs F.cs.length (-A) with
              | false =>
                rw [q] at r2
                have HN : Hid (∀ y, prK F.cs a y = prK F.cs (a + 1) y) := Lib.hid (HT1.out (by rw [p, q]; rfl))
                clear p q HT1 HT2
                go_wp2_with fail
                go_roundg (gk - 1)
                case measure => omega
                case rel => exact ⟨a + 1, by omega, by omega, rfl, HS.out.is HN.out, HG.out⟩
              | true =>
                rw [q] at r2
                have HN : Hid (∀ y, (y != -A && (y != A && prK F.cs a y)) = prK F.cs (a + 1) y) := Lib.hid (HT2.out p q)
                clear p q HT1 HT2
                obtain ⟨D1, hd1, hh1, ha1⟩ := HS.out.own
                have HD1 := Lib.hid hd1
                have HH1 := Lib.hid (And.intro hh1 ha1)
                clear hd1 hh1 ha1
                go_wp2_with (first
                  | (at_delete; refine wpList_delete_own _ rfl _ _ 79 2 rfl 4 keyI Try.underlying79 _ w4.heap.size t D1 rfl HD1.out _ _ rfl (keyOf_int_mk Try.underlying2 (wfR KA.out.1)) ?_; intro w6 hown6 hturn6; obtain ⟨D2, hd2, hh2, ha2⟩ := (setM_del HH1.out.1 HH1.out.2 hown6).own; have HD2 := Lib.hid hd2; have HH2 := Lib.hid (And.intro hh2 ha2); have HG6 := Lib.hid (HG.out.trans hturn6.grown); clear hown6 hturn6 hd2 hh2 ha2)
                  | (at_delete; refine wpList_delete_own _ rfl _ _ 79 2 rfl 4 keyI Try.underlying79 _ w4.heap.size t D2 rfl HD2.out _ _ rfl (keyOf_int_mk Try.underlying2 (wfR KA.out.2)) ?_; intro w7 hown7 hturn7; have S7 := Lib.hid ((setM_del HH2.out.1 HH2.out.2 hown7).is HN.out); have HG7 := Lib.hid (HG6.out.trans hturn7.grown); clear hown7 hturn7))
                go_roundg (gk - 1)
                case measure => omega
                case rel => exact ⟨a + 1, by omega, by omega, rfl, S7.out, HG7.out⟩
          · obtain rfl : a = L := by omega
            have hle : ¬ ((a + 1 : Nat) : Int) ≤ (a : Int) := by omega
            go_wp2_with fail
            go_at_call 68; refine (listOf_any (prK F.cs a) w4.heap.size t _ HS.out (by omega)).mono ?_; rintro e w7 ⟨Y, u, hY, rfl, hi7, hb7⟩
            have HY := Lib.hid (pure_list hL2 (fun y hy => by have h := occ_in HOK.out.cl y hy; rw [HLL.out] at h; exact h) hY.nodup hY.mem hY.up)
            have HI := Lib.hid hi7
            have HB7 := Lib.hid hb7
            clear hY hi7 hb7
            go_wp2_with fail
            go_ret2
            have hbs := HBW.out.size
            exact ⟨_, rfl, by rw [← HY.out]; exact SI.wide HI.out (by omega) (Nat.le_refl _) (Nat.le_refl _), B4.out.trans ((HBW.out.trans (HB7.out.mono hbs)).mono hw4)⟩
end Go.Proofs.Ytnakpfbeeekmiaa
