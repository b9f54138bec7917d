/- The texts of lists of numbers with digits of bits: the program. -/
import Derived.Test.YtcgdkjbbdpmmhaaDoorNx0
import Derived.Test.YtcgdkjbbdpmmhaaDoorFtB
import Derived.Test.YtcgdkjbbdpmmhaaDoorBits
import Derived.Test.YtcgdkjbbdpmmhaaDoorRepL
import Derived.Test.YtcgdkjbbdpmmhaaDoorTxI
import Derived.Test.YtcgdkjbbdpmmhaaDoorF32s
import Derived.Laws.Concat
namespace Go.Proofs.YtcgdkjbbdpmmhaaDoor
open Go.RowKit Go.ChangeShapes Go.WideShapes Go.Shelf

theorem Tryd.extra105 : Builder.Extra Tryd.prog Tryd.lays105_ren where
  sizeBuilder := by kernel_rfl
  liesBuilder := by kernel_rfl
  t5 := Tryd.underlying5
  a5 := Tryd.isAgg5
  z5 := Tryd.sizeOf5
  v5 := Tryd.zeroValue5
  infoByte := by kernel_rfl
  cellsByte := by kernel_rfl
  sizeByte := by kernel_rfl
  neB5 := by decide
theorem Tryd.infoStrN : (Tryd.prog.info? 9).map (fun i => (i.zero, i.size, i.bytes)) = some (some (.string (bsOf [])), 1, 16) := by kernel_rfl
theorem TabZ.kept {w w' : World} (h : TabZ w) (hb : Below w.heap.size w w') : TabZ w' := h.below hb
theorem repeat_any (c : Nat) (w : World) (hc : c ≤ 7) : Calls Tryd.prog 75 #[.string ⟨#[48]⟩, .int .i64 (c : Int)] w (SaysS (List.replicate c 48) w) := by
  rcases Nat.lt_or_ge c 2 with h | h
  · by_cases h0 : c = 0
    · subst h0
      exact (Any.strings_Repeat_zero Tryd.lays105 ⟨#[48]⟩ w).mono fun _ _ ⟨he, hw⟩ => ⟨he, by rw [hw]; exact Below.refl _ _⟩
    · obtain rfl : c = 1 := by omega
      exact (Any.strings_Repeat_one Tryd.lays105 ⟨#[48]⟩ w).mono fun _ _ ⟨he, hw⟩ => ⟨he, by rw [hw]; exact Below.refl _ _⟩
  · have hz : (⟨#[48]⟩ : ByteArray).size = 1 := rfl
    have hl : Lib.repeatL (⟨#[48]⟩ : ByteArray).data.toList c = List.replicate c 48 := by
      have : ∀ k : Fin 8, Lib.repeatL (⟨#[48]⟩ : ByteArray).data.toList k.val = List.replicate k.val 48 := by decide
      exact this ⟨c, by omega⟩
    have hh := Any.strings_Repeat_main Tryd.lays105 Tryd.extra105 ⟨#[48]⟩ c w h (by omega) (by rw [hz]; omega) (by rw [hz]; omega)
    rw [hl] at hh
    exact hh
theorem run_bs_addN (a b : List UInt8) (h : a.length + b.length ≤ 1000000) (W : World) : (Op.stringOp .add (bsOf a) (bsOf b)).run Tryd.prog W = .ok (.string (bsOf (a ++ b))) W := by
  rw [run_string_add_sum W _ _ (by rw [bs_size, bs_size]; omega), bs_append]
set_option maxRecDepth 100000 in
set_option maxHeartbeats 2000000 in
theorem numberText_any (x : Nat) (w : World) (hx : x < 4294967296) (ht : TabZ w) :
    Calls Tryd.prog 46 #[.float .f32 x] w (SaysS (hxT x) w) := by
  have BO := Lib.hid (fun W => implBits_any x hx W)
  have htl := told_lt hx
  have HE : Hid (hxT x = hx8 (Fl.told x)) := Lib.hid rfl
  generalize Fl.told x = n at *
  have FI := Lib.hid (fun W ht => formatInt16_any n W htl ht)
  have HT := Lib.hid ht
  have FULL := Lib.hid (fun j hj h => hx8_full n (j := j) hj h)
  clear htl ht
  go_enter Tryd.func46, Tryd.ntmps46
  go_wp2_with fail
  go_at_call 74; refine (BO.out _).mono ?_; rintro e w2 ⟨rfl, rfl⟩
  go_wp2_with fail
  go_at_call 73; refine (FI.out _ HT.out).mono ?_; rintro e w3 ⟨j, hj, hs, rfl, b3⟩
  have HF := Lib.hid (FULL.out j hj hs)
  have B3 := Lib.hid b3
  have hlen : (bsOf (hxD n (j + 1))).size = j + 1 := by rw [bs_size, hxD_len n (by omega)]
  have RP := Lib.hid (fun W => repeat_any (7 - j) W (by omega))
  have A1 := run_bs_addN (List.replicate (7 - j) 48) (hxD n (j + 1)) (by rw [List.length_replicate, hxD_len n (by omega)]; omega)
  rw [HF.out] at A1
  obtain ⟨c, hc⟩ : ∃ c : Nat, c + j = 7 := ⟨7 - j, by omega⟩
  rw [show 7 - j = c by omega] at RP A1
  have w1 : IntKind.i64.wrap (8 - ((j : Int) + 1)) = (c : Int) := by rw [IntKind.wrap_i64]; omega
  obtain ⟨d, hd⟩ : ∃ d, d = bsOf (hxD n (j + 1)) := ⟨_, rfl⟩
  rw [← hd] at hlen A1 ⊢
  have wd : IntKind.i64.wrap (8 - (d.size : Int)) = (c : Int) := by rw [IntKind.wrap_i64]; omega
  unfold SaysS at RP
  have A1' : ∀ W, (Op.stringOp .add (⟨(List.replicate c 48).toArray⟩ : ByteArray) d).run Tryd.prog W = .ok (.string (bsOf (hx8 n))) W := A1
  obtain ⟨r, hr⟩ : ∃ r : ByteArray, r = ⟨(List.replicate c 48).toArray⟩ := ⟨_, rfl⟩
  rw [← hr] at RP A1'
  clear hj hs b3 hc hd hlen A1 w1 hr
  go_wp2_with fail
  go_at_call 75; refine (RP.out _).mono ?_; rintro e w4 ⟨rfl, b4⟩
  have B4 := Lib.hid (B3.out.trans (b4.mono B3.out.size))
  clear b4
  go_wp2_with fail
  go_ret
  exact ⟨by rw [HE.out]; rfl, B4.out⟩
/-- A list whose numbers are of 32 bits. -/
def Few32 (L : List Nat) : Prop := ∀ i, i < L.length → L.getD i 0 < 4294967296
set_option maxRecDepth 100000 in
set_option maxHeartbeats 4000000 in
theorem textOfListN_any (v : Value) (L : List Nat) (w : World) (hv : SL w v L) (hn : L.length ≤ 256) (hF : Few32 L) (hp : TabZ w) :
    Calls Tryd.prog 45 #[v, .func (.func 46) #[] #[]] w (SaysS (nxtL L) w) := by
  obtain ⟨i0, hi, hz0, hz1, hz2⟩ := info_parts Tryd.infoStrN
  have HP := Lib.hid hp
  have HF := Lib.hid hF
  have ED := Lib.hid (enters_of Tryd.func46 (by kernel_rfl) rfl)
  have HE := Lib.hid (nxS_end L)
  rcases hv with ⟨rfl, ao, cap, rfl⟩ | ⟨b, off, cap, rfl, hpos, hbl, hcell⟩
  · go_enter Tryd.func45, Tryd.ntmps45
    go_wp2_with fail
    go_ret
    exact ⟨rfl, Below.refl _ _⟩
  · have HC : Hid (∀ W, Below w.heap.size w W → ∀ i, i < L.length → W.cell? ⟨b, off + i, none⟩ = some (.float .f32 (L.getD i 0))) := Lib.hid fun W h i hi => by
      rw [h.cell (p := ⟨b, off + i, none⟩) hbl, hcell i hi]
    have HT : Hid (Lib.join (L.map hxT) [44] = nxtL L) := Lib.hid (by unfold nxtL; rw [if_neg (by omega)])
    have HTL : Hid ((nxtL L).length ≤ 140737488355328) := Lib.hid (by have := nxtL_len L; omega)
    have d0 : ((L.length : Int) == 0) = false := by rw [beq_eq_false_iff_ne]; omega
    clear hcell hp hF hbl
    go_enter Tryd.func45, Tryd.ntmps45
    go_wp2_with (at_make; refine wpList_make_full _ rfl _ _ 22 rfl w.heap.size 9 i0 (.string (bsOf [])) 1 Tryd.underlying22 hi hz0 hz1 _ _ _ _ L.length rfl rfl rfl rfl (by rw [hz2]; omega) (by unfold maxLen; omega) (Nat.le_refl _) ?_; intro w2 hown hgrow; have bm := (Below.refl w.heap.size w).grown hgrow (Nat.le_refl _) (fun g hg => by cases hg); have AR := Lib.hid (Arr.made_s hown); have BM := Lib.hid bm; have hg2 := (hown.lt _ rfl).2; clear hown hgrow bm)
    have A0 : Hid (Arr Value.string (bsOf []) w2 w.heap.size 0 (nxS L 0)) := Lib.hid (by rw [← nxS_start]; exact AR.out)
    obtain ⟨G, hG⟩ : ∃ G, G = w.heap.size := ⟨_, rfl⟩
    rw [← hG] at hg2
    have HG := Lib.hid hG
    rw [← hG]
    rw [← hG] at A0
    clear AR hG
    go_wp2_with fail
    go_loopg [16] L.length (fun gk i wr => ∃ k : Nat, k ≤ L.length ∧ gk + k = L.length ∧ i = .int .i64 k ∧ Arr Value.string (bsOf []) wr G 0 (nxS L k) ∧ G < wr.heap.size ∧ Below w.heap.size w wr)
    case atStart => exact ⟨0, Nat.zero_le _, by omega, rfl, A0.out, hg2, BM.out⟩
    case round =>
      obtain ⟨k, hk, hgk, rfl, hA, hgl, hB⟩ := hrel
      clear A0 BM hg2
      have HA := Lib.hid hA
      have HB := Lib.hid hB
      have HGK := Lib.hid hgk
      by_cases hlt : k < L.length
      · have c1 := HC.out _ hB k hlt
        have hb := HF.out k hlt
        have HS := Lib.hid (nxS_step L k)
        have HAN := Lib.hid (fun w3 (h : Below wr.heap.size wr w3) => hA.below h hgl)
        obtain ⟨y, hy⟩ : ∃ y, y = L.getD k 0 := ⟨_, rfl⟩
        rw [← hy] at c1 hb HS
        have DEC := Lib.hid (fun W hp => numberText_any y W hb hp)
        have HPW := Lib.hid (TabZ.kept HP.out hB)
        clear hA hB hgk hy hb
        go_wp2_with fail
        go_at_call 46; refine (DEC.out _ HPW.out).mono ?_; rintro e w3 ⟨rfl, b3⟩
        have AN := HAN.out _ b3
        have HAN3 := Lib.hid AN
        obtain ⟨u0, hu0⟩ : ∃ u, w3.cell? ⟨G, k, none⟩ = some u := ⟨_, by have h := AN.cells k (by rw [nxS_len]; exact hlt); rwa [Nat.zero_add] at h⟩
        have f0 := AN.free k
        have B3 : Hid (Below w.heap.size w w3) := Lib.hid (HB.out.trans (b3.mono HB.out.size))
        have hg3 : G < w3.heap.size := Nat.lt_of_lt_of_le hgl b3.size
        clear AN b3 HAN
        go_wp2_with fail
        go_roundg (gk - 1)
        case measure => have := HGK.out; omega
        case rel => exact ⟨k + 1, by omega, by have := HGK.out; omega, by go_num, by
          have h := HAN3.out.set (i := k) (by rw [nxS_len]; exact hlt) (bsOf (hxT y))
          rw [HS.out, Nat.zero_add] at h
          exact h, by simpa using hg3, B3.out.setCell (by rw [HG.out]; exact Nat.le_refl _) _⟩
      · obtain rfl : k = L.length := by omega
        have JN := Lib.hid (join_any G (nxS L L.length) wr hA hgl (by rw [nxS_len]; omega) (by rw [HE.out, HT.out]; exact HTL.out))
        rw [HE.out, HT.out, nxS_len] at JN
        clear hA hB hgk
        go_wp2_with fail
        go_at_call 72; refine JN.out.mono ?_; rintro e w3 ⟨rfl, b3⟩
        have B3 : Hid (Below w.heap.size w w3) := Lib.hid (HB.out.trans (b3.mono HB.out.size))
        clear b3
        go_wp2_with fail
        go_ret
        exact ⟨rfl, B3.out⟩
end Go.Proofs.YtcgdkjbbdpmmhaaDoor
