/- The texts of lists of numbers: the model, and both sides for all lists. -/
import Derived.Test.YtdmlhjhhkiajaaaDoorTxI
import Derived.Test.YtdmlhjhhkiajaaaDoorSz
import Derived.Laws.Concat
namespace Go.Proofs.YtdmlhjhhkiajaaaDoor
open Go.RowKit Go.ChangeShapes Go.WideShapes

theorem run_bs_add (a b : List UInt8) (h : a.length + b.length ≤ 1000000) (W : World) : (Op.stringOp .add (bsOf a) (bsOf b)).run Tryd.prog W = .ok (.string (bsOf (a ++ b))) W := by
  rw [run_string_add_sum W _ _ (by rw [bs_size, bs_size]; omega), bs_append]
set_option maxRecDepth 100000 in
set_option maxHeartbeats 4000000 in
theorem l01Text_any (v : Value) (L : List Int) (w : World) (hv : IL w v L) (hn : L.length ≤ 64) (hF : Few64 L) :
    Calls Tryd.prog 66 #[v] w (SaysS (txtL L) w) := by
  have HF := Lib.hid hF
  rcases hv with ⟨rfl, ao, cap, rfl⟩ | ⟨b, off, cap, rfl, hpos, hbl, hcell⟩
  · go_enter Tryd.func66, Tryd.ntmps66
    go_wp2_with fail
    go_ret
    exact ⟨rfl, Below.refl _ _⟩
  · have HC : Hid (∀ W, Below w.heap.size w W → ∀ i, i < L.length → W.cell? ⟨b, off + i, none⟩ = some (.int .i64 (L.getD i 0))) := Lib.hid fun W h i hi => by
      rw [h.cell (p := ⟨b, off + i, none⟩) hbl, hcell i hi]
    have HT := Lib.hid (txtK_end hpos)
    have HK := Lib.hid (txtK_len hF)
    have d0 : ((L.length : Int) == 0) = false := by rw [beq_eq_false_iff_ne]; omega
    have c1 := hcell 0 hpos
    rw [Nat.add_zero] at c1
    have hb := hF 0 hpos
    have e0 : Hid (Lib.itoa (L.getD 0 0) = txtK L 0) := Lib.hid rfl
    obtain ⟨y, hy⟩ : ∃ y, y = L.getD 0 0 := ⟨_, rfl⟩
    rw [← hy] at c1 hb e0
    have DEC := Lib.hid (fun W => l01Dec_any y W hb.1 hb.2)
    rw [e0.out] at DEC
    clear hcell hF hbl hy hb e0
    go_enter Tryd.func66, Tryd.ntmps66
    go_wp2_with fail
    go_at_call 60; refine (DEC.out _).mono ?_; rintro e w2 ⟨rfl, b2⟩
    have B2 := Lib.hid b2
    clear b2 c1 DEC
    go_wp2_with fail
    go_loopg [3, 4] L.length (fun gk s i wr => ∃ k : Nat, k < L.length ∧ gk + k = L.length ∧ i = .int .i64 ((k : Int) + 1) ∧ s = .string ⟨(txtK L k).toArray⟩ ∧ Below w.heap.size w wr)
    case atStart => exact ⟨0, hpos, by omega, by go_num, rfl, B2.out⟩
    case round =>
      obtain ⟨k, hk, hgk, rfl, rfl, hB⟩ := hrel
      have HB := Lib.hid hB
      have HGK := Lib.hid hgk
      by_cases hlt : k + 1 < L.length
      · have c1 := HC.out _ hB (k + 1) hlt
        have hb := HF.out (k + 1) hlt
        have hl := HK.out k hk
        obtain ⟨y, hy⟩ : ∃ y, y = L.getD (k + 1) 0 := ⟨_, rfl⟩
        have HS : Hid (txtK L k ++ ([44] ++ Lib.itoa y) = txtK L (k + 1)) := Lib.hid (by rw [hy]; rfl)
        rw [← hy] at c1 hb
        have hi := itoa_len hb
        have DEC := Lib.hid (fun W => l01Dec_any y W hb.1 hb.2)
        generalize Lib.itoa y = D at *
        generalize txtK L k = T at *
        have A1 := run_bs_add [44] D (by show 1 + D.length ≤ _; omega)
        have A2 := run_bs_add T ([44] ++ D) (by rw [List.length_append]; show T.length + (1 + D.length) ≤ _; omega)
        rw [HS.out] at A2
        generalize [44] ++ D = E at *
        unfold bsOf at A1 A2
        have hsc : (.int .i64 ((k : Int) + 1) : Value) = .int .i64 ((k + 1 : Nat) : Int) := by go_num
        clear hB hgk hy hb hl hi
        rw [show off + (k + 1) = off + (k + 1) from rfl] at c1
        go_wp2_with fail
        go_at_call 60; refine (DEC.out _).mono ?_; rintro e w3 ⟨rfl, b3⟩
        have B3 : Hid (Below w.heap.size w w3) := Lib.hid (HB.out.trans (b3.mono HB.out.size))
        clear b3
        go_wp2_with fail
        go_roundg (gk - 1)
        case measure => have := HGK.out; omega
        case rel => exact ⟨k + 1, by omega, by have := HGK.out; omega, by go_num, rfl, B3.out⟩
      · have hkl : k = L.length - 1 := by omega
        subst hkl
        rw [HT.out]
        have w1 : (((L.length - 1 : Nat) : Int) + 1) = (L.length : Int) := by omega
        clear hB hgk
        go_wp2_with fail
        go_ret
        exact ⟨rfl, HB.out⟩
end Go.Proofs.YtdmlhjhhkiajaaaDoor
