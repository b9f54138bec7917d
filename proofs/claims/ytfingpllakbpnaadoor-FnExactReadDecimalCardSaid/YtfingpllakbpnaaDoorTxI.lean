/- The texts of lists of numbers: the program. -/
import Derived.Test.YtfingpllakbpnaaDoorTx0
import Derived.Test.YtfingpllakbpnaaDoorFmJ
import Derived.Test.YtfingpllakbpnaaDoorJnI
import Derived.Test.YtfingpllakbpnaaDoorArr
import Derived.Laws.MakeOwn
import Derived.Laws.OwnMore
namespace Go.Proofs.YtfingpllakbpnaaDoor
open Go.RowKit Go.ChangeShapes Go.WideShapes Go.Shelf

theorem Tryd.extra156 : Builder.Extra Tryd.prog Tryd.lays156_ren where
  sizeBuilder := by kernel_rfl
  liesBuilder := by kernel_rfl
  t5 := Tryd.underlying5
  a5 := Tryd.isAgg5
  z5 := Tryd.sizeOf5
  v5 := Tryd.zeroValue5
  infoByte := by kernel_rfl
  cellsByte := by kernel_rfl
  sizeByte := by kernel_rfl
  neB5 := by decide
theorem join_any (g : Nat) (xs : List ByteArray) (w : World) (hA : Arr Value.string (bsOf []) w g 0 xs) (hg : g < w.heap.size) (hN : xs.length ≤ 1048576) (hlen : (Lib.join (xs.map (·.data.toList)) [44]).length ≤ 140737488355328) :
    Calls Tryd.prog 30 #[.slice (some ⟨g, 0, none⟩) xs.length xs.length, .string ⟨#[44]⟩] w (SaysS (Lib.join (xs.map (·.data.toList)) [44]) w) :=
  Any.strings_Join Tryd.lays156 Tryd.extra156 g 0 xs.length xs ⟨#[44]⟩ w (fun j x hj => by
    obtain ⟨h1, h2⟩ := getD_tail xs (bsOf []) hj
    rw [hA.cells j h1, h2]) hg (by omega) (Nat.le_refl _) hlen
theorem Arr.made_s {w : World} {n B e : Nat} (h : w.ownsRow B e 1 (.slice (some ⟨B, 0, none⟩) n n) n (madeCells (Value.string (bsOf [])).cells (n * 1)).toList) : Arr Value.string (bsOf []) w B 0 (List.replicate n (bsOf [])) := by
  refine ⟨fun i hi => ?_, h.frozenAt⟩
  rw [List.length_replicate] at hi
  rw [Nat.zero_add, h.cellAt i (by omega)]
  rcases made_one (.string (bsOf [])) n hi with h1 | h1
  · rw [h1]; simp [Value.cells, List.getD, hi]
  · exact absurd rfl h1
theorem Tryd.infoStr : (Tryd.prog.info? 9).map (fun i => (i.zero, i.size, i.bytes)) = some (some (.string (bsOf [])), 1, 16) := by kernel_rfl
/-- A list whose numbers are of 64 bits. -/
def Few64 (L : List Int) : Prop := ∀ i, i < L.length → -9223372036854775808 ≤ L.getD i 0 ∧ L.getD i 0 ≤ 9223372036854775807
set_option maxRecDepth 100000 in
set_option maxHeartbeats 4000000 in
theorem textOfList_any (v : Value) (L : List Int) (w : World) (hv : IL w v L) (hn : L.length ≤ 64) (hF : Few64 L) (hp : PowTab w) :
    Calls Tryd.prog 22 #[v, .func (.func 19) #[] #[]] w (SaysS (txtL L) w) := by
  obtain ⟨i0, hi, hz0, hz1, hz2⟩ := info_parts Tryd.infoStr
  have HP := Lib.hid hp
  have HF := Lib.hid hF
  have ED := Lib.hid (enters_of Tryd.func19 (by kernel_rfl) rfl)
  have HE := Lib.hid (txS_end L)
  rcases hv with ⟨rfl, ao, cap, rfl⟩ | ⟨b, off, cap, rfl, hpos, hbl, hcell⟩
  · go_enter Tryd.func22, Tryd.ntmps22
    go_wp2_with fail
    go_ret
    exact ⟨rfl, Below.refl _ _⟩
  · have HC : Hid (∀ W, Below w.heap.size w W → ∀ i, i < L.length → W.cell? ⟨b, off + i, none⟩ = some (.int .i64 (L.getD i 0))) := Lib.hid fun W h i hi => by
      rw [h.cell (p := ⟨b, off + i, none⟩) hbl, hcell i hi]
    have HT : Hid (Lib.join (L.map Lib.itoa) [44] = txtL L) := Lib.hid (by unfold txtL; rw [if_neg (by omega)])
    have HTL : Hid ((txtL L).length ≤ 140737488355328) := Lib.hid (by have := txtL_len hF; omega)
    have d0 : ((L.length : Int) == 0) = false := by rw [beq_eq_false_iff_ne]; omega
    clear hcell hp hF hbl
    go_enter Tryd.func22, Tryd.ntmps22
    go_wp2_with (at_make; refine wpList_make_full _ rfl _ _ 46 rfl w.heap.size 9 i0 (.string (bsOf [])) 1 Tryd.underlying46 hi hz0 hz1 _ _ _ _ L.length rfl rfl rfl rfl (by rw [hz2]; omega) (by unfold maxLen; omega) (Nat.le_refl _) ?_; intro w2 hown hgrow; have bm := (Below.refl w.heap.size w).grown hgrow (Nat.le_refl _) (fun g hg => by cases hg); have AR := Lib.hid (Arr.made_s hown); have BM := Lib.hid bm; have hg2 := (hown.lt _ rfl).2; clear hown hgrow bm)
    have A0 : Hid (Arr Value.string (bsOf []) w2 w.heap.size 0 (txS L 0)) := Lib.hid (by rw [← txS_start]; exact AR.out)
    obtain ⟨G, hG⟩ : ∃ G, G = w.heap.size := ⟨_, rfl⟩
    rw [← hG] at hg2
    have HG := Lib.hid hG
    rw [← hG]
    rw [← hG] at A0
    clear AR hG
    go_wp2_with fail
    go_loopg [16] L.length (fun gk i wr => ∃ k : Nat, k ≤ L.length ∧ gk + k = L.length ∧ i = .int .i64 k ∧ Arr Value.string (bsOf []) wr G 0 (txS L k) ∧ G < wr.heap.size ∧ Below w.heap.size w wr)
    case atStart => exact ⟨0, Nat.zero_le _, by omega, rfl, A0.out, hg2, BM.out⟩
    case round =>
      obtain ⟨k, hk, hgk, rfl, hA, hgl, hB⟩ := hrel
      clear A0 BM hg2
      have HA := Lib.hid hA
      have HB := Lib.hid hB
      have HGK := Lib.hid hgk
      by_cases hlt : k < L.length
      · have c1 := HC.out _ hB k hlt
        have hb := HF.out k hlt
        have HS := Lib.hid (txS_step L k)
        have HAN := Lib.hid (fun w3 (h : Below wr.heap.size wr w3) => hA.below h hgl)
        obtain ⟨y, hy⟩ : ∃ y, y = L.getD k 0 := ⟨_, rfl⟩
        rw [← hy] at c1 hb HS
        have DEC := Lib.hid (fun W hp => implDecimal_any y W hb.1 hb.2 hp)
        have HPW := Lib.hid (HP.out.below' hB)
        clear hA hB hgk hy hb
        go_wp2_with fail
        go_at_call 19; refine (DEC.out _ HPW.out).mono ?_; rintro e w3 ⟨rfl, b3⟩
        have AN := HAN.out _ b3
        have HAN3 := Lib.hid AN
        obtain ⟨u0, hu0⟩ : ∃ u, w3.cell? ⟨G, k, none⟩ = some u := ⟨_, by have h := AN.cells k (by rw [txS_len]; exact hlt); rwa [Nat.zero_add] at h⟩
        have f0 := AN.free k
        have B3 : Hid (Below w.heap.size w w3) := Lib.hid (HB.out.trans (b3.mono HB.out.size))
        have hg3 : G < w3.heap.size := Nat.lt_of_lt_of_le hgl b3.size
        clear AN b3 HAN
        go_wp2_with fail
        go_roundg (gk - 1)
        case measure => have := HGK.out; omega
        case rel => exact ⟨k + 1, by omega, by have := HGK.out; omega, by go_num, by
          have h := HAN3.out.set (i := k) (by rw [txS_len]; exact hlt) (bsOf (Lib.itoa y))
          rw [HS.out, Nat.zero_add] at h
          exact h, by simpa using hg3, B3.out.setCell (by rw [HG.out]; exact Nat.le_refl _) _⟩
      · obtain rfl : k = L.length := by omega
        have JN := Lib.hid (join_any G (txS L L.length) wr hA hgl (by rw [txS_len]; omega) (by rw [HE.out, HT.out]; exact HTL.out))
        rw [HE.out, HT.out, txS_len] at JN
        clear hA hB hgk
        go_wp2_with fail
        go_at_call 30; refine JN.out.mono ?_; rintro e w3 ⟨rfl, b3⟩
        have B3 : Hid (Below w.heap.size w w3) := Lib.hid (HB.out.trans (b3.mono HB.out.size))
        clear b3
        go_wp2_with fail
        go_ret
        exact ⟨rfl, B3.out⟩
end Go.Proofs.YtfingpllakbpnaaDoor
