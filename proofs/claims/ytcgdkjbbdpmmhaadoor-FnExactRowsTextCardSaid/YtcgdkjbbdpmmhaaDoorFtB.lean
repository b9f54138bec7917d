/- A number in base 16, by the library. -/
import Derived.Test.YtcgdkjbbdpmmhaaDoorHt0
import Derived.Test.YtcgdkjbbdpmmhaaDoorBox
import Derived.Test.YtcgdkjbbdpmmhaaDoorFrameP
import Derived.Deep.LoopGhost
import Derived.Lib.Hide
import Derived.WalkSpells
namespace Go.Proofs.YtcgdkjbbdpmmhaaDoor
open Go.RowKit Go.ChangeShapes Go.WideShapes

def TabZ (w : World) : Prop := w.cell? ⟨8, 15, none⟩ = some (.int .u8 4)
theorem TabZ.below {w w' : World} (h : TabZ w) (hb : Below w.heap.size w w') : TabZ w' := keep_cell h hb (cell_block h)
theorem tz16_any (w : World) (ht : TabZ w) :
    Calls Tryd.prog 147 #[.int .u64 16] w (fun e w' => e = .returned (.int .i64 4) ∧ w = w') := by
  have H : Calls Tryd.prog 157 #[.int .u64 16] w (fun e w' => e = .returned (.int .i64 4) ∧ w = w') := by
    unfold TabZ at ht
    have f1 : IntKind.u64.wrap (-16) = 18446744073709551600 := by decide
    have f2 : bits .and .u64 16 18446744073709551600 = 16 := by decide
    have f3 : IntKind.u64.wrap (16 * 285870213051353865) = 4573923408821661840 := by decide
    have f4 : (4573923408821661840 : Int) / 288230376151711744 = 15 := by decide
    have f5 : IntKind.u64.wrap 4573923408821661840 = 4573923408821661840 := by decide
    go_enter Tryd.func157, Tryd.ntmps157
    go_wp2_with fail
    go_ret
    exact ⟨rfl, rfl⟩
  have HH := Lib.hid H
  clear H ht
  go_enter Tryd.func147, Tryd.ntmps147
  go_wp2_with fail
  go_at_call 157; refine HH.out.mono ?_; rintro e w2 ⟨rfl, rfl⟩
  go_wp2_with fail
  go_ret
  exact ⟨rfl, rfl⟩
theorem pow16_any (w : World) : Calls Tryd.prog 146 #[.int .i64 16] w (fun e w' => e = .returned (.bool true) ∧ w = w') := by
  have f1 : bits .and .i64 16 15 = 0 := by decide
  go_enter Tryd.func146, Tryd.ntmps146
  go_wp2_with fail
  go_ret
  exact ⟨rfl, rfl⟩
/-- The array behind j digits. -/
structure FbS (w : World) (n j : Nat) (wr : World) : Prop where
  done : ∀ k, k < j → wr.cell? ⟨w.heap.size, 64 - k, none⟩ = some (.int .u8 ((hxC (n / 16 ^ k % 16)).toNat : Int))
  rest : ∀ i, i < 65 → ∃ u, wr.cell? ⟨w.heap.size, i, none⟩ = some u
  free : ∀ i, wr.frozen? ⟨w.heap.size, i, none⟩ = false
  below : Below w.heap.size w wr
theorem FbS.start (w : World) (n : Nat) : FbS w n 0 (w.alloc (.cells Tryd.zeroCells167 167)) := by
  have hz : Tryd.zeroCells167.size = 65 := by kernel_rfl
  refine ⟨fun k hk => absurd hk (Nat.not_lt_zero _), fun i hi => ?_, fun i => World.frozen?_alloc_new _ _ _ _, below_alloc _ _⟩
  rw [World.cell?_alloc_new]
  exact ⟨_, Array.getElem?_eq_getElem (by omega)⟩
theorem FbS.step {w : World} {n j : Nat} {wr : World} (h : FbS w n j wr) {q : Nat} (hq : q + j = 64) {u : Int} (hu : u = ((hxC (n / 16 ^ j % 16)).toNat : Int)) : FbS w n (j + 1) (wr.setCell ⟨w.heap.size, q, none⟩ (.int .u8 u)) := by
  obtain ⟨u0, hu0⟩ := h.rest q (by omega)
  refine ⟨fun k hk => ?_, fun i hi => ?_, fun i => by rw [World.frozen?_setCell]; exact h.free i, h.below.setCell (p := ⟨w.heap.size, q, none⟩) (Nat.le_refl _) _⟩
  · by_cases e : k = j
    · subst e
      rw [show 64 - k = q by omega, hu]
      exact World.cell?_setCell_same _ _ _ hu0
    · rw [World.cell?_setCell_other _ _ _ _ (by intro e2; injection e2 with _ e3 _; omega)]
      exact h.done k (by omega)
  · by_cases e : i = q
    · subst e; exact ⟨_, World.cell?_setCell_same _ _ _ hu0⟩
    · rw [World.cell?_setCell_other _ _ _ _ (by intro e2; injection e2 with _ e3 _; omega)]
      exact h.rest i hi
theorem and15 (u : Nat) (h : u < 18446744073709551616) : bits .and .u64 (u : Int) 15 = ((u % 16 : Nat) : Int) := by
  have e : (15 : Int) = ((15 : Nat) : Int) := rfl
  rw [e, u64_and_nat u 15 h (by omega)]
  rw [show (15 : Nat) = 2 ^ 4 - 1 from rfl, Nat.and_two_pow_sub_one_eq_mod]
def SaysFb (D : List UInt8) (w : World) (e : Ending) (w' : World) : Prop := e = .returned (.tuple #[.slice none 0 0, .string (bsOf D)]) ∧ Below w.heap.size w w'
set_option maxRecDepth 100000 in
set_option maxHeartbeats 4000000 in
theorem formatBits_any (n : Nat) (w : World) (hn : n < 4294967296) (ht : TabZ w) :
    Calls Tryd.prog 128 #[.slice none 0 0, .int .u64 (n : Int), .int .i64 16, .bool false, .bool false] w (fun e w' => ∃ j, j < 8 ∧ n / 16 ^ j < 16 ∧ SaysFb (hxD n (j + 1)) w e w') := by
  have T16 := Lib.hid (fun W ht => tz16_any W ht)
  have P16 := Lib.hid (fun W => pow16_any W)
  have HT := Lib.hid (ht.below (below_alloc w (.cells Tryd.zeroCells167 167)))
  have S0 := Lib.hid (FbS.start w n)
  have HSM := Lib.hid (fun j (h : 16 ≤ n / 16 ^ j) => hx_small hn h)
  have HNB := Lib.hid (fun j => Nat.lt_of_le_of_lt (Nat.div_le_self n (16 ^ j)) hn)
  have HST := Lib.hid (fun j => hx_step n j)
  have U0 : Hid (n / 16 ^ 0 = n) := Lib.hid (by simp)
  clear ht
  go_enter Tryd.func128, Tryd.ntmps128
  go_wp2_with fail
  go_at_call 146; refine (P16.out _).mono ?_; rintro e w2 ⟨rfl, rfl⟩
  go_wp2_with fail
  go_at_call 147; refine (T16.out _ HT.out).mono ?_; rintro e w2 ⟨rfl, rfl⟩
  go_wp2_with fail
  go_loopg [1, 13] 8 (fun gk uv iv wr => ∃ j q : Nat, j < 8 ∧ gk + j = 8 ∧ q + 1 + j = 65 ∧ uv = .int .u64 ((n / 16 ^ j : Nat) : Int) ∧ iv = .int .i64 ((q + 1 : Nat) : Int) ∧ FbS w n j wr)
  case atStart => exact ⟨0, 64, by omega, by omega, by omega, by rw [U0.out], rfl, S0.out⟩
  case round =>
    obtain ⟨j, q, hj, hgj, hq, rfl, rfl, hS⟩ := hrel
    have HS := Lib.hid hS
    have HGJ := Lib.hid hgj
    have hub := HNB.out j
    have HSTj := Lib.hid (HST.out j)
    have hq64 : q ≤ 64 := by omega
    have hq56 : 56 < q := by omega
    have HQ : Hid (q + j = 64) := Lib.hid (by omega)
    obtain ⟨u0, c0⟩ := hS.rest q (by omega)
    have f0 := hS.free q
    clear hS hgj hq S0 U0 HT
    have SMJ := Lib.hid (HSM.out j)
    have HUJ : Hid (n / 16 ^ j = n / 16 ^ j) := Lib.hid rfl
    generalize hu : n / 16 ^ j = u at *
    have HU := Lib.hid hu
    clear hu
    have wq : IntKind.i64.wrap ((q : Int) + 1 - 1) = (q : Int) := by rw [IntKind.wrap_i64]; omega
    have wq2 : IntKind.i64.wrap (q : Int) = (q : Int) := by rw [IntKind.wrap_i64]; omega
    by_cases h16 : 16 ≤ u
    · have hj7 := SMJ.out h16
      have a15 := and15 u (by omega)
      obtain ⟨v, hv⟩ : ∃ v, v = u % 16 := ⟨_, rfl⟩
      have hv16 : v < 16 := by omega
      rw [← hv] at a15
      have hvb : v < (⟨#[48, 49, 50, 51, 52, 53, 54, 55, 56, 57, 97, 98, 99, 100, 101, 102, 103, 104, 105, 106, 107, 108, 109, 110, 111, 112, 113, 114, 115, 116, 117, 118, 119, 120, 121, 122]⟩ : ByteArray).size := Nat.lt_of_lt_of_le hv16 (by decide)
      have hd := hx_dig hv16 hvb
      have f4 : (u : Int) / 16 = ((u / 16 : Nat) : Int) := by omega
      have d1 : decide ((u : Int) ≥ 16) = true := by simp; omega
      have hsh : Op.shift .shr .u64 (u : Int) .u64 4 = pure (.int .u64 ((u : Int) / 16)) := by
        have h := shift_shr IntKind.u64 IntKind.u64 (u : Int) 4 (by decide) (by decide)
        exact h
      clear f4
      have HV := Lib.hid hv
      clear hv
      go_wp2_with fail
      go_roundg (gk - 1)
      case measure => have := HGJ.out; omega
      case rel => exact ⟨j + 1, q - 1, by omega, by have := HGJ.out; omega, by have := HQ.out; omega, by (rw [← HSTj.out]; go_num), by (rw [show q - 1 + 1 = q by omega]), HS.out.step HQ.out (by rw [HU.out, ← HV.out])⟩
    · have hu16 : u < 16 := by omega
      have hvb : u < (⟨#[48, 49, 50, 51, 52, 53, 54, 55, 56, 57, 97, 98, 99, 100, 101, 102, 103, 104, 105, 106, 107, 108, 109, 110, 111, 112, 113, 114, 115, 116, 117, 118, 119, 120, 121, 122]⟩ : ByteArray).size := Nat.lt_of_lt_of_le hu16 (by decide)
      have hd := hx_dig hu16 hvb
      have d1 : decide ((u : Int) ≥ 16) = false := by simp; omega
      have SF := Lib.hid (HS.out.step (u := ((hxC u).toNat : Int)) HQ.out (by rw [HU.out, Nat.mod_eq_of_lt hu16]))
      obtain ⟨W2, hW2⟩ : ∃ W2, W2 = wr.setCell ⟨w.heap.size, q, none⟩ (.int .u8 ((hxC u).toNat : Int)) := ⟨_, rfl⟩
      rw [← hW2] at SF
      have HW2 := Lib.hid hW2
      have hback := run_convert_bytes_back (P := Tryd.prog) W2 95 9 5 ⟨w.heap.size, q, none⟩ (65 - q) (hxD n (j + 1)) Tryd.underlying95 Tryd.underlying5 Tryd.underlying9 (fun i hi => by
        rw [hxD_len n (by omega)] at hi
        rw [Addr.add_lit]
        have h1 := SF.out.done (j - i) (by omega)
        have e1 : 64 - (j - i) = q + i := by have := HQ.out; omega
        rw [e1] at h1
        rw [h1]
        have e2 : (hxD n (j + 1))[i]? = some (hxC (n / 16 ^ (j - i) % 16)) := by
          unfold hxD
          rw [List.getElem?_drop, List.getElem?_eq_getElem (by rw [hx8_len]; omega), hx8_at]
          rw [show 7 - (8 - (j + 1) + i) = j - i by omega]
        simp [List.getElem?_eq_getElem (show i < (hxD n (j + 1)).length by rw [hxD_len n (by omega)]; exact hi)] at e2 ⊢
        rw [e2])
      have hal : Tryd.prog.arrayLen 167 = 65 := by kernel_rfl
      have hsl : ∀ W, (Instr.sliceAt 167 (.pointer (some ⟨w.heap.size, 0, none⟩)) (some (.int .i64 (q : Int))) none none).run Tryd.prog W = .ok (.slice (some ⟨w.heap.size, q, none⟩) (hxD n (j + 1)).length (65 - q)) W := fun W => by
        rw [run_sliceAt_array_l W 167 ⟨w.heap.size, 0, none⟩ (by kernel_rfl) .i64 (q : Int) (by omega) (by rw [hal]; omega), hxD_len n (by omega), show 65 - q = j + 1 by have := HQ.out; omega]
        go_simp
        exact ⟨by omega, by have := HQ.out; omega⟩
      rw [hW2] at hback
      clear hW2 hal
      go_wp2_with fail
      rw [← HW2.out]
      go_ret2
      exact ⟨j, by omega, by rw [HU.out]; exact hu16, rfl, SF.out.below⟩
def Says16 (n : Nat) (w : World) (e : Ending) (w' : World) : Prop := ∃ j, j < 8 ∧ n / 16 ^ j < 16 ∧ e = .returned (.string (bsOf (hxD n (j + 1)))) ∧ Below w.heap.size w w'
theorem formatInt16_any (n : Nat) (w : World) (hn : n < 4294967296) (ht : TabZ w) :
    Calls Tryd.prog 73 #[.int .i64 (n : Int), .int .i64 16] w (Says16 n w) := by
  have FB := Lib.hid (fun W ht => formatBits_any n W hn ht)
  have H : ∀ W, TabZ W → Calls Tryd.prog 103 #[.int .i64 (n : Int), .int .i64 16] W (Says16 n W) := fun W ht => by
    have HT := Lib.hid ht
    have w1 : IntKind.u64.wrap (n : Int) = (n : Int) := by rw [IntKind.wrap_u64]; omega
    have d1 : decide ((n : Int) < 0) = false := by simp
    clear ht
    go_enter Tryd.func103, Tryd.ntmps103
    go_wp2_with fail
    go_at_call 128; refine (FB.out _ HT.out).mono ?_; rintro e w2 ⟨j, h1, h2, rfl, b2⟩
    have HH := Lib.hid (And.intro h1 (And.intro h2 b2))
    clear h1 h2 b2
    go_wp2_with fail
    go_ret
    exact ⟨j, HH.out.1, HH.out.2.1, rfl, HH.out.2.2⟩
  have HF := Lib.hid (H w ht)
  clear H ht
  go_enter Tryd.func73, Tryd.ntmps73
  go_wp2_with fail
  go_at_call 103; refine HF.out.mono ?_; rintro e w2 ⟨j, h1, h2, rfl, b2⟩
  have HH := Lib.hid (And.intro h1 (And.intro h2 b2))
  clear h1 h2 b2
  go_wp2_with fail
  go_ret
  exact ⟨j, HH.out.1, HH.out.2.1, rfl, HH.out.2.2⟩
end Go.Proofs.YtcgdkjbbdpmmhaaDoor
