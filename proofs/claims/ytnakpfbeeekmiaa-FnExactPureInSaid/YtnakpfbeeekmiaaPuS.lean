/- Literals whose opposites are nowhere: the model. -/
import Derived.Test.YtnakpfbeeekmiaaPu0
import Derived.Test.YtnakpfbeeekmiaaHasI
import Derived.Test.YtnakpfbeeekmiaaGrw
namespace Go.Proofs.Ytnakpfbeeekmiaa
open Go.RowKit Go.ChangeShapes Go.WideShapes
set_option maxRecDepth 100000

theorem pu1_yn {C : List (List Int)} {a : Int} (h1 : occK C C.length a = true) (h2 : occK C C.length (-a) = false) : pu1 C a = [a] := by unfold pu1; rw [h1, h2]; rfl
theorem pu1_ny {C : List (List Int)} {a : Int} (h1 : occK C C.length a = false) (h2 : occK C C.length (-a) = true) : pu1 C a = [-a] := by unfold pu1; rw [h1, h2]; rfl
theorem pu1_same {C : List (List Int)} {a : Int} (h : occK C C.length a = occK C C.length (-a)) : pu1 C a = [] := by unfold pu1; rw [h]; cases occK C C.length (-a) <;> rfl
theorem jb_no {w X : World} (hb : Below w.heap.size w X) : SaysJB [] false w (.returned (.tuple #[.slice none 0 0, .bool false])) X := ⟨_, rfl, SI.nil _ (Nat.le_refl _) _ _, hb⟩
set_option maxHeartbeats 8000000 in
theorem specPureIn_any (v : Value) (F : Fm) (w : World) (hv : FmV w v F) (o : OKFm F) : Calls Try.prog 43 #[v] w (SaysJB (puF F) (formB F) w) := by
  obtain ⟨i0, hi, hz0, hz1, hz2⟩ := info_parts Try.infoI
  obtain ⟨s1, rfl, hl⟩ := hv
  have HL : Hid (∀ W, Below w.heap.size w W → LV W s1 F.cs) := Lib.hid fun W b => hl.below b (Nat.le_refl _)
  have HB1 : Hid (∀ A, Below w.heap.size w (w.alloc A)) := Lib.hid fun A => below_alloc w A
  have HBX := Lib.hid (Box2.mk' w (.int .i64 F.letters) s1 29)
  have HAT : Hid (FmAt (w.alloc (.cells #[.int .i64 F.letters, s1] 29)) w.heap.size F) := Lib.hid ⟨s1, HBX.out, hl.below (HB1.out _) (Nat.le_refl _)⟩
  obtain ⟨fa, fc, rfl⟩ := hl.long
  clear hl
  cases h1 : formB F with
  | false =>
    have HF : Hid (puF F = []) := Lib.hid (by unfold puF; rw [h1]; rfl)
    rw [HF.out]
    have H1 := Lib.hid h1
    clear h1
    go_enter Try.func43, Try.ntmps43
    go_wp2_with fail
    go_at_call 47; refine (l05Is_any w.heap.size F _ HAT.out o).mono ?_; rintro e w4 ⟨rfl, b4⟩
    rw [H1.out]
    have B4 := Lib.hid ((HB1.out _).trans (b4.mono (HB1.out _).size))
    clear b4
    go_wp2_with fail
    go_ret2
    exact jb_no B4.out
  | true =>
    have HOK := Lib.hid (formB_ok h1)
    have n1 := HOK.out.n1
    have n2 := HOK.out.n2
    obtain ⟨L, hL⟩ : ∃ L : Nat, F.letters = (L : Int) := ⟨F.letters.toNat, by omega⟩
    have HF : Hid (puF F = puK F.cs L) := Lib.hid (by unfold puF; rw [h1, hL]; rfl)
    rw [HF.out]
    have H1 := Lib.hid h1
    have HLL := Lib.hid hL
    have hL1 : 1 ≤ L := by omega
    have hL2 : L ≤ 10 := by omega
    have hfew := HOK.out.few
    clear h1 n1 n2 hL
    go_enter Try.func43, Try.ntmps43
    go_wp2_with fail
    go_at_call 47; refine (l05Is_any w.heap.size F _ HAT.out o).mono ?_; rintro e w4 ⟨rfl, b4⟩
    rw [H1.out]
    have B4 := Lib.hid ((HB1.out _).trans (b4.mono (HB1.out _).size))
    have X4 : Hid (Box2 w4 w.heap.size (.int .i64 (L : Int)) (.slice fa F.cs.length fc)) := Lib.hid (by have h := HBX.out.keep b4 HBX.out.lt; rw [HLL.out] at h; exact h)
    clear b4 HBX HAT
    have hs4 : w.heap.size < w4.heap.size := X4.out.lt
    have hw4 : w.heap.size ≤ w4.heap.size := B4.out.size
    have HXW : Hid (∀ W, Below w4.heap.size w4 W → Box2 W w.heap.size (.int .i64 (L : Int)) (.slice fa F.cs.length fc)) := Lib.hid fun W b => X4.out.keep b hs4
    have HLW : Hid (∀ W, Below w4.heap.size w4 W → LV W (.slice fa F.cs.length fc) F.cs) := Lib.hid fun W b => HL.out W (B4.out.trans (b.mono hw4))
    have G0 := Lib.hid (Grows.empty (Value.int .i64) 2 w4.heap.size w4 (Nat.le_refl _))
    go_wp2_with fail
    go_loopg [4, 5] L (fun gk s i wr => ∃ a : Nat, a ≤ L ∧ gk + a = L ∧ i = .int .i64 ((a + 1 : Nat) : Int) ∧ Grows (Value.int .i64) 2 w4.heap.size s (puK F.cs a) wr ∧ Below w4.heap.size w4 wr)
    case atStart => exact ⟨0, Nat.zero_le _, by omega, rfl, G0.out, below_alloc _ _⟩
    case round =>
      clear G0
      obtain ⟨a, ha, hga, rfl, hG, hB⟩ := hrel
      have HG := Lib.hid hG
      have HB := Lib.hid hB
      have hww : w4.heap.size ≤ wr.heap.size := hB.size
      clear hG hB
      obtain ⟨x0, x1⟩ := (HXW.out _ HB.out)
      by_cases hal : a < L
      · obtain ⟨A, hA⟩ : ∃ A : Int, A = ((a + 1 : Nat) : Int) := ⟨_, rfl⟩
        have HA := Lib.hid hA
        have hA1 : A ≤ (L : Int) := by omega
        have hA0 : 1 ≤ A := by omega
        have hA2 : A ≤ 10 := by omega
        have wn : IntKind.i64.wrap (-A) = -A := IntWalk.i64_in _ (by omega)
        have wa : IntKind.i64.wrap (A + 1) = ((a + 1 + 1 : Nat) : Int) := by rw [IntKind.wrap_i64]; omega
        have HUP : Hid (puK F.cs (a + 1) = puK F.cs a ++ pu1 F.cs A) := Lib.hid (by rw [hA]; rfl)
        have htl := puK_len F.cs a
        generalize puK F.cs a = T at HG HUP htl
        rw [← hA]
        clear hA
        obtain ⟨wA, rfl⟩ : ∃ x : World, x = wr := ⟨_, rfl⟩
        obtain ⟨g2, rfl⟩ : ∃ x : Nat, x = gk := ⟨_, rfl⟩
        go_wp2_with fail
        go_loopg [6, 7, 21] F.cs.length (fun gk up dn i wr => ∃ k : Nat, k ≤ F.cs.length ∧ gk + k = F.cs.length ∧ i = .int .i64 k ∧ up = .bool (occK F.cs k A) ∧ dn = .bool (occK F.cs k (-A)) ∧ wr = wA)
        case atStart => exact ⟨0, Nat.zero_le _, by omega, rfl, rfl, rfl, rfl⟩
        case round =>
          obtain ⟨k, hk, hgk, rfl, rfl, rfl, rfl⟩ := hrel
          have HU1 := Lib.hid (occK_up F.cs k A)
          have HU2 := Lib.hid (occK_up F.cs k (-A))
          by_cases hlt : k < F.cs.length
          · rcases HLW.out _ HB.out with ⟨hz, -⟩ | ⟨b, off, cap, D, e, hpos, hbl, hcell⟩
            · rw [hz] at hlt; simp at hlt
            injection e with e1 _ e3
            subst e1
            have cD := (hcell k hlt).1
            have ID := Lib.hid (hcell k hlt).2
            have hE : (F.cs.getD k []).length ≤ 1048576 := by have := (HOK.out.cl k hlt).len; have := HOK.out.n2; omega
            generalize D k = u at cD ID
            generalize F.cs.getD k [] = E at ID hE HU1 HU2
            clear e3 hcell hbl hpos
            cases p : occK F.cs k A with
            | true =>
              have HP := Lib.hid p
              cases q : occK F.cs k (-A) with
              | true =>
                have HQ := Lib.hid q
                clear p q
                go_wp2_with fail
                go_roundg (gk - 1)
                case measure => omega
                case rel => exact ⟨k + 1, by omega, by omega, by go_num, by rw [HU1.out, HP.out]; rfl, by rw [HU2.out, HQ.out]; rfl, rfl⟩
              | false =>
                have HQ := Lib.hid q
                clear p q
                go_wp2_with fail
                go_at_call 69; refine (l00Has_any _ E (-A) _ ID.out hE).mono ?_; rintro e w7 ⟨rfl, rfl⟩
                go_wp2_with fail
                go_roundg (gk - 1)
                case measure => omega
                case rel => exact ⟨k + 1, by omega, by omega, by go_num, by rw [HU1.out, HP.out]; rfl, by rw [HU2.out, HQ.out]; rfl, rfl⟩
            | false =>
              have HP := Lib.hid p
              cases q : occK F.cs k (-A) with
              | true =>
                have HQ := Lib.hid q
                clear p q
                go_wp2_with fail
                go_at_call 69; refine (l00Has_any _ E A _ ID.out hE).mono ?_; rintro e w7 ⟨rfl, rfl⟩
                go_wp2_with fail
                go_roundg (gk - 1)
                case measure => omega
                case rel => exact ⟨k + 1, by omega, by omega, by go_num, by rw [HU1.out, HP.out]; rfl, by rw [HU2.out, HQ.out]; rfl, rfl⟩
              | false =>
                have HQ := Lib.hid q
                clear p q
                go_wp2_with fail
                go_at_call 69; refine (l00Has_any _ E A _ ID.out hE).mono ?_; rintro e w7 ⟨rfl, rfl⟩
                go_wp2_with fail
                go_at_call 69; refine (l00Has_any _ E (-A) _ ID.out hE).mono ?_; rintro e w7 ⟨rfl, rfl⟩
                go_wp2_with fail
                go_roundg (gk - 1)
                case measure => omega
                case rel => exact ⟨k + 1, by omega, by omega, by go_num, by rw [HU1.out, HP.out]; rfl, by rw [HU2.out, HQ.out]; rfl, rfl⟩
          · obtain rfl : k = F.cs.length := by omega
            clear HU1 HU2
            cases p : occK F.cs F.cs.length A with
            | true =>
              have HP := Lib.hid p
              cases q : occK F.cs F.cs.length (-A) with
              | true =>
                have HN : Hid (puK F.cs (a + 1) = T) := Lib.hid (by rw [HUP.out, pu1_same (by rw [p, q]), List.append_nil])
                clear p q
                go_wp2_with fail
                go_roundg (g2 - 1)
                case measure => omega
                case rel => exact ⟨a + 1, by omega, by omega, rfl, by rw [HN.out]; exact HG.out, HB.out⟩
              | false =>
                have HN : Hid (puK F.cs (a + 1) = T ++ [A]) := Lib.hid (by rw [HUP.out, pu1_yn p q])
                clear p q
                go_wp2_with (at_builtin; (refine wpList_append_own _ rfl _ _ 25 rfl w4.heap.size 2 i0 (.int .i64 0) 1 8 Try.underlying25 hi hz0 hz1 hz2 rfl (by decide) _ _ _ rfl (Grows.alloc HG.out _) ⟨wr.heap.size, 0, none⟩ 1 1 [.int .i64 A] rfl rfl one_new (by intro u hu; simp at hu; subst hu; rfl) (by unfold maxLen; omega) (by omega) (by have := HB.out.size; simp; omega) ?_); intro v' w8 hown hgrow _; (have G8 : Hid (Grows (Value.int .i64) 2 w4.heap.size v' (T ++ [A]) w8) := Lib.hid (Grows.more rfl hown)); (have B8 : Hid (Below w4.heap.size w4 w8) := Lib.hid ((HB.out.alloc HB.out.size _).grown hgrow (by have := HB.out.size; simp; omega) (fun q hq => (World.ownsRow.lt HG.out q hq).1))); clear hown hgrow)
                go_roundg (g2 - 1)
                case measure => omega
                case rel => exact ⟨a + 1, by omega, by omega, rfl, by rw [HN.out]; exact G8.out, B8.out⟩
            | false =>
              have HP := Lib.hid p
              cases q : occK F.cs F.cs.length (-A) with
              | true =>
                have HN : Hid (puK F.cs (a + 1) = T ++ [-A]) := Lib.hid (by rw [HUP.out, pu1_ny p q])
                clear p q
                go_wp2_with (at_builtin; (refine wpList_append_own _ rfl _ _ 25 rfl w4.heap.size 2 i0 (.int .i64 0) 1 8 Try.underlying25 hi hz0 hz1 hz2 rfl (by decide) _ _ _ rfl (Grows.alloc HG.out _) ⟨wr.heap.size, 0, none⟩ 1 1 [.int .i64 (-A)] rfl rfl one_new (by intro u hu; simp at hu; subst hu; rfl) (by unfold maxLen; omega) (by omega) (by have := HB.out.size; simp; omega) ?_); intro v' w8 hown hgrow _; (have G8 : Hid (Grows (Value.int .i64) 2 w4.heap.size v' (T ++ [-A]) w8) := Lib.hid (Grows.more rfl hown)); (have B8 : Hid (Below w4.heap.size w4 w8) := Lib.hid ((HB.out.alloc HB.out.size _).grown hgrow (by have := HB.out.size; simp; omega) (fun q hq => (World.ownsRow.lt HG.out q hq).1))); clear hown hgrow)
                go_roundg (g2 - 1)
                case measure => omega
                case rel => exact ⟨a + 1, by omega, by omega, rfl, by rw [HN.out]; exact G8.out, B8.out⟩
              | false =>
                have HN : Hid (puK F.cs (a + 1) = T) := Lib.hid (by rw [HUP.out, pu1_same (by rw [p, q]), List.append_nil])
                clear p q
                go_wp2_with fail
                go_roundg (g2 - 1)
                case measure => omega
                case rel => exact ⟨a + 1, by omega, by omega, rfl, by rw [HN.out]; exact HG.out, HB.out⟩
      · obtain rfl : a = L := by omega
        have hle : ¬ ((a + 1 : Nat) : Int) ≤ (a : Int) := by omega
        go_wp2_with fail
        go_ret2
        exact ⟨_, rfl, SI.wide HG.out.si hw4 (Nat.le_refl _) (Nat.le_refl _), B4.out.trans (HB.out.mono hw4)⟩
end Go.Proofs.Ytnakpfbeeekmiaa
