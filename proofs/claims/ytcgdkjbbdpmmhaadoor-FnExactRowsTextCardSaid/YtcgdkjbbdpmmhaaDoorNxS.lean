/- The texts of lists of numbers with digits of bits: the model. -/
import Derived.Test.YtcgdkjbbdpmmhaaDoorNxI
import Derived.Test.YtcgdkjbbdpmmhaaDoorSz
import Derived.Test.YtcgdkjbbdpmmhaaDoorOwn
import Derived.Test.YtcgdkjbbdpmmhaaDoorGrw
import Derived.Laws.Concat
namespace Go.Proofs.YtcgdkjbbdpmmhaaDoor
open Go.RowKit Go.ChangeShapes Go.WideShapes

theorem Tryd.infoByN : (Tryd.prog.info? 5).map (fun i => (i.zero, i.size, i.bytes)) = some (some (.int .u8 0), 1, 1) := by kernel_rfl
abbrev mkB (b : UInt8) : Value := .int .u8 (b.toNat : Int)
theorem Grows.bytesN {E B : Nat} {v : Value} {D : List UInt8} {w : World} (h : Grows mkB E B v D w) (hp : 0 < D.length) :
    ∃ g cap, v = .slice (some ⟨g, 0, none⟩) D.length cap ∧ ∀ j (hj : j < D.length), w.cell? ⟨g, j, none⟩ = some (.int .u8 (D[j].toNat : Int)) := by
  have hc := fun g hg => World.ownsRow.cells (g := g) h hg
  obtain ⟨-, ⟨-, h0⟩ | ⟨g, cap, cur, rfl, hB, hg, hn, hm, -, -⟩⟩ := h
  · omega
  · refine ⟨g, cap, rfl, fun i hi => ?_⟩
    have h1 := hc g rfl i (mkB D[i]) (by simp [hi])
    rw [Addr.add_lit, Nat.zero_add] at h1
    exact h1
theorem hx16_dig {u : Nat} (h : u < 16) (hb : u < (⟨#[48, 49, 50, 51, 52, 53, 54, 55, 56, 57, 97, 98, 99, 100, 101, 102]⟩ : ByteArray).size) :
    (⟨#[48, 49, 50, 51, 52, 53, 54, 55, 56, 57, 97, 98, 99, 100, 101, 102]⟩ : ByteArray)[u] = hxC u := by
  have : ∀ v : Fin 16, (⟨#[48, 49, 50, 51, 52, 53, 54, 55, 56, 57, 97, 98, 99, 100, 101, 102]⟩ : ByteArray).data.toList[v.val]? = some (hxC v.val) := by decide
  have h2 := this ⟨u, h⟩
  have h3 : (⟨#[48, 49, 50, 51, 52, 53, 54, 55, 56, 57, 97, 98, 99, 100, 101, 102]⟩ : ByteArray).data.toList[u]? = some (hxC u) := h2
  rw [List.getElem?_eq_getElem (by rw [Array.length_toList]; exact hb)] at h3
  injection h3
theorem hx8_take (n : Nat) {j : Nat} (h : j < 8) : (hx8 n).take (j + 1) = (hx8 n).take j ++ [hxC (n / 16 ^ (7 - j) % 16)] := by
  rw [List.take_succ_eq_append_getElem (by rw [hx8_len]; exact h), hx8_at]
theorem i64_and62N (a b : Nat) (ha : a < 4611686018427387904) (hb : b < 4611686018427387904) : bits .and .i64 (a : Int) (b : Int) = ((a &&& b : Nat) : Int) := by
  have hx : a &&& b ≤ a := Nat.and_le_left
  show IntKind.i64.wrap ((BitVec.ofInt 64 (a : Int) &&& BitVec.ofInt 64 (b : Int)).toNat : Int) = _
  rw [BitVec.toNat_and, ofInt_u64 a (by omega), ofInt_u64 b (by omega)]
  exact IntWalk.i64_in _ (by omega)
theorem and15i (u : Nat) (h : u < 4294967296) : bits .and .i64 (u : Int) 15 = ((u % 16 : Nat) : Int) := by
  have e : (15 : Int) = ((15 : Nat) : Int) := rfl
  rw [e, i64_and62N u 15 (by omega) (by omega)]
  rw [show (15 : Nat) = 2 ^ 4 - 1 from rfl, Nat.and_two_pow_sub_one_eq_mod]
theorem pow_shift {n j : Nat} {z : Int} (hz : z + 4 * (j : Int) = 28) (hj : j < 8) : Op.shift .shr .i64 (n : Int) .u64 z = pure (.int .i64 ((n / 16 ^ (7 - j) : Nat) : Int)) := by
  have h := shift_shr IntKind.i64 IntKind.u64 (n : Int) z (by omega) (by show z ≤ 64; omega)
  rw [h]
  obtain ⟨d, hd⟩ : ∃ d, 7 - j = d := ⟨_, rfl⟩
  have ez : z.toNat = 4 * d := by omega
  rw [ez, hd]
  have key : ∀ k : Fin 8, (2 : Int) ^ (4 * k.val) = ((16 ^ k.val : Nat) : Int) := by decide
  have k2 : (2 : Int) ^ (4 * d) = ((16 ^ d : Nat) : Int) := key ⟨d, by omega⟩
  rw [k2]
  first | rfl | (rw [Int.natCast_ediv]) | (rw [Int.ofNat_ediv]) | simp
theorem pow_div {n j : Nat} {z : Int} (hz : z + 4 * (j : Int) = 28) (hj : j < 8) : (n : Int) / 2 ^ z.toNat = ((n / 16 ^ (7 - j) : Nat) : Int) := by
  obtain ⟨d, hd⟩ : ∃ d, 7 - j = d := ⟨_, rfl⟩
  have ez : z.toNat = 4 * d := by omega
  rw [ez, hd]
  have key : ∀ k : Fin 8, (2 : Int) ^ (4 * k.val) = ((16 ^ k.val : Nat) : Int) := by decide
  have k2 : (2 : Int) ^ (4 * d) = ((16 ^ d : Nat) : Int) := key ⟨d, by omega⟩
  rw [k2]
  first | rfl | (rw [Int.natCast_ediv]) | (rw [Int.ofNat_ediv]) | simp
set_option maxRecDepth 100000 in
set_option maxHeartbeats 2000000 in
theorem l01Hex_any (x : Nat) (w : World) (hx : x < 4294967296) :
    Calls Tryd.prog 71 #[.float .f32 x] w (SaysS (hxT x) w) := by
  obtain ⟨i0, hi, hz0, hz1, hz2⟩ := info_parts Tryd.infoByN
  have BO := Lib.hid (fun W => specBits_any x hx W)
  have htl := told_lt hx
  have HE : Hid (hxT x = hx8 (Fl.told x)) := Lib.hid rfl
  generalize Fl.told x = n at *
  have G0 : Hid (Grows mkB 5 w.heap.size (.slice (some ⟨w.heap.size, 0, none⟩) 0 0) ((hx8 n).take 0) (w.alloc (.cells #[] 5))) := Lib.hid (Grows.empty mkB 5 w.heap.size w (Nat.le_refl _))
  have B0 := Lib.hid (below_alloc w (.cells #[] 5))
  have HTK := Lib.hid (fun j hj => hx8_take n (j := j) hj)
  have HSH := Lib.hid (fun j z hz hj => pow_div (n := n) (j := j) (z := z) hz hj)
  have HAN := Lib.hid (fun j => and15i (n / 16 ^ (7 - j)) (Nat.lt_of_le_of_lt (Nat.div_le_self n (16 ^ (7 - j))) htl))
  go_enter Tryd.func71, Tryd.ntmps71
  go_wp2_with fail
  go_at_call 83; refine (BO.out _).mono ?_; rintro e w2 ⟨rfl, rfl⟩
  go_wp2_with fail
  go_loopg [4, 5] 8 (fun gk o kv wr => ∃ (j : Nat) (z : Int), j ≤ 8 ∧ gk + j = 8 ∧ z + 4 * (j : Int) = 28 ∧ kv = .int .i64 z ∧ Grows mkB 5 w.heap.size o ((hx8 n).take j) wr ∧ Below w.heap.size w wr)
  case atStart => exact ⟨0, 28, by omega, by omega, by omega, rfl, G0.out, B0.out⟩
  case round =>
    obtain ⟨j, z, hj, hgj, hz, rfl, hG, hB⟩ := hrel
    have HG := Lib.hid hG
    have HB := Lib.hid hB
    have HGJ := Lib.hid hgj
    have HZ := Lib.hid hz
    by_cases hj8 : j < 8
    · have zz1 : 0 ≤ z := by omega
      have zz2 : z ≤ 28 := by omega
      have wz : IntKind.u64.wrap z = z := by rw [IntKind.wrap_u64]; omega
      have wz4 : IntKind.i64.wrap (z - 4) = z - 4 := by rw [IntKind.wrap_i64]; omega
      have hsh := HSH.out j z hz hj8
      have han := HAN.out j
      have HT2 := Lib.hid (HTK.out j hj8)
      have htl8 : ((hx8 n).take j).length = j := by rw [List.length_take, hx8_len]; omega
      have HM1 : Hid (((hx8 n).take j).length + 1 ≤ maxLen) := Lib.hid (by unfold maxLen; omega)
      have HM2 : Hid ((((hx8 n).take j).length + 1) * 1 ≤ 140737488355328) := Lib.hid (by omega)
      generalize n / 16 ^ (7 - j) = u at *
      obtain ⟨v, hv⟩ : ∃ v, v = u % 16 := ⟨_, rfl⟩
      have hv16 : v < 16 := by omega
      rw [← hv] at han HT2
      have hvb : v < (⟨#[48, 49, 50, 51, 52, 53, 54, 55, 56, 57, 97, 98, 99, 100, 101, 102]⟩ : ByteArray).size := Nat.lt_of_lt_of_le hv16 (by decide)
      have hd := hx16_dig hv16 hvb
      have d1 : decide (z ≥ 0) = true := by simp; omega
      clear hv hG hB hgj hz G0 B0 htl8
      go_wp2_with (at_builtin; refine wpList_append_own _ rfl _ _ 95 rfl w.heap.size 5 i0 (.int .u8 0) 1 1 Tryd.underlying95 hi hz0 hz1 hz2 rfl (by decide) _ _ _ rfl (Grows.alloc HG.out _) ⟨wr.heap.size, 0, none⟩ 1 1 [mkB (hxC v)] rfl rfl ?c1 ?c2 ?c3 ?c4 ?c5 ?_)
      case c1 => exact one_new
      case c2 => intro u hu; simp at hu; subst hu; rfl
      case c3 => exact HM1.out
      case c4 => exact HM2.out
      case c5 => have := HB.out.size; simp; omega
      intro v' w' hown hgrow _
      have GN : Hid (Grows mkB 5 w.heap.size v' ((hx8 n).take (j + 1)) w') := Lib.hid (by rw [HT2.out]; have h := hown; show World.ownsRow _ _ _ _ _ _ _; simpa using h)
      have BN : Hid (Below w.heap.size w w') := Lib.hid ((HB.out.alloc HB.out.size _).grown hgrow (by have := HB.out.size; simp; omega) (fun g hg => HG.out.block g hg))
      clear hown hgrow
      go_wp2_with fail
      go_roundg (gk - 1)
      case measure => have := HGJ.out; omega
      case rel => exact ⟨j + 1, z - 4, by omega, by have := HGJ.out; omega, by have := HZ.out; push_cast; omega, rfl, GN.out, BN.out⟩
    · obtain rfl : j = 8 := by omega
      have hzz : z = -4 := by omega
      subst hzz
      have ht8 : (hx8 n).take 8 = hx8 n := List.take_of_length_le (by rw [hx8_len]; omega)
      rw [ht8] at hG
      have hl8 := hx8_len n
      obtain ⟨g, c, rfl, hc⟩ := Grows.bytesN hG (by omega)
      have hback := run_convert_bytes_back (P := Tryd.prog) wr 95 9 5 ⟨g, 0, none⟩ c (hx8 n) Tryd.underlying95 Tryd.underlying5 Tryd.underlying9 (fun j hj => by rw [Addr.add_lit, Nat.zero_add]; exact hc j hj)
      rw [hl8] at hback
      rw [hl8]
      clear hG hB hgj hc G0 B0 HG
      have d1 : decide ((-4 : Int) ≥ 0) = false := by decide
      go_wp2_with fail
      go_ret
      exact ⟨by rw [HE.out]; rfl, HB.out⟩
set_option maxRecDepth 100000 in
set_option maxHeartbeats 4000000 in
theorem l01NText_any (v : Value) (L : List Nat) (w : World) (hv : SL w v L) (hn : L.length ≤ 256) (hF : Few32 L) :
    Calls Tryd.prog 44 #[v] w (SaysS (nxtL L) w) := by
  have HF := Lib.hid hF
  rcases hv with ⟨rfl, ao, cap, rfl⟩ | ⟨b, off, cap, rfl, hpos, hbl, hcell⟩
  · go_enter Tryd.func44, Tryd.ntmps44
    go_wp2_with fail
    go_ret
    exact ⟨rfl, Below.refl _ _⟩
  · have HC : Hid (∀ W, Below w.heap.size w W → ∀ i, i < L.length → W.cell? ⟨b, off + i, none⟩ = some (.float .f32 (L.getD i 0))) := Lib.hid fun W h i hi => by
      rw [h.cell (p := ⟨b, off + i, none⟩) hbl, hcell i hi]
    have HT := Lib.hid (nxtK_end hpos)
    have HK := Lib.hid (nxtK_len (L := L))
    have d0 : ((L.length : Int) == 0) = false := by rw [beq_eq_false_iff_ne]; omega
    have c1 := hcell 0 hpos
    rw [Nat.add_zero] at c1
    have hb := hF 0 hpos
    have e0 : Hid (hxT (L.getD 0 0) = nxtK L 0) := Lib.hid rfl
    obtain ⟨y, hy⟩ : ∃ y, y = L.getD 0 0 := ⟨_, rfl⟩
    rw [← hy] at c1 hb e0
    have DEC := Lib.hid (fun W => l01Hex_any y W hb)
    rw [e0.out] at DEC
    clear hcell hF hbl hy hb e0
    go_enter Tryd.func44, Tryd.ntmps44
    go_wp2_with fail
    go_at_call 71; refine (DEC.out _).mono ?_; rintro e w2 ⟨rfl, b2⟩
    have B2 := Lib.hid b2
    clear b2 c1 DEC
    go_wp2_with fail
    go_loopg [3, 4] L.length (fun gk s i wr => ∃ k : Nat, k < L.length ∧ gk + k = L.length ∧ i = .int .i64 ((k : Int) + 1) ∧ s = .string ⟨(nxtK L k).toArray⟩ ∧ Below w.heap.size w wr)
    case atStart => exact ⟨0, hpos, by omega, by go_num, rfl, B2.out⟩
    case round =>
      obtain ⟨k, hk, hgk, rfl, rfl, hB⟩ := hrel
      have HB := Lib.hid hB
      have HGK := Lib.hid hgk
      by_cases hlt : k + 1 < L.length
      · have c1 := HC.out _ hB (k + 1) hlt
        have hb := HF.out (k + 1) hlt
        have hl := HK.out k hk
        obtain ⟨y, hy⟩ : ∃ y, y = L.getD (k + 1) 0 := ⟨_, rfl⟩
        have HS : Hid (nxtK L k ++ ([44] ++ hxT y) = nxtK L (k + 1)) := Lib.hid (by rw [hy]; rfl)
        rw [← hy] at c1 hb
        have hi := hxT_len y
        have DEC := Lib.hid (fun W => l01Hex_any y W hb)
        generalize hxT y = D at *
        generalize nxtK L k = T at *
        have A1 := run_bs_addN [44] D (by show 1 + D.length ≤ _; omega)
        have A2 := run_bs_addN T ([44] ++ D) (by rw [List.length_append]; show T.length + (1 + D.length) ≤ _; omega)
        rw [HS.out] at A2
        generalize [44] ++ D = E at *
        unfold bsOf at A1 A2
        have hsc : (.int .i64 ((k : Int) + 1) : Value) = .int .i64 ((k + 1 : Nat) : Int) := by go_num
        clear hB hgk hy hb hl hi
        rw [show off + (k + 1) = off + (k + 1) from rfl] at c1
        go_wp2_with fail
        go_at_call 71; refine (DEC.out _).mono ?_; rintro e w3 ⟨rfl, b3⟩
        have B3 : Hid (Below w.heap.size w w3) := Lib.hid (HB.out.trans (b3.mono HB.out.size))
        clear b3
        go_wp2_with fail
        go_roundg (gk - 1)
        case measure => have := HGK.out; omega
        case rel => exact ⟨k + 1, by omega, by have := HGK.out; omega, by go_num, rfl, B3.out⟩
      · have hkl : k = L.length - 1 := by omega
        subst hkl
        rw [HT.out]
        have w1 : (((L.length - 1 : Nat) : Int) + 1) = (L.length : Int) := by omega
        clear hB hgk
        go_wp2_with fail
        go_ret
        exact ⟨rfl, HB.out⟩
end Go.Proofs.YtcgdkjbbdpmmhaaDoor
