/- Marks of lists of strings. -/
import Derived.Test.YtcgdkjbbdpmmhaaDoorMkT
import Derived.Deep.LoopGhost
import Derived.Deep.RegionHeld3
namespace Go.Proofs.YtcgdkjbbdpmmhaaDoor
open Go.RowKit Go.ChangeShapes Go.WideShapes

def marksT (k n : Nat) : List ByteArray := (List.range n).map fun i => mkS (k + i)
theorem marksT_len (k n : Nat) : (marksT k n).length = n := by simp [marksT]
theorem marksT_at {k n i : Nat} (h : i < n) : (marksT k n).getD i (bsOf []) = mkS (k + i) := by simp [marksT, List.getD, h]
theorem turned_below {w w' : World} {lo hi : Nat} (h : Below w.heap.size w w') : Turned lo hi w w' := ⟨h.os, h.tape, h.output, h.size, fun k hk _ => h.block k hk⟩
/-- The first j of n cells bear marks. -/
structure MarkingT (b off n k : Nat) (w : World) (j : Nat) (wr : World) : Prop where
  done : ∀ i, i < j → wr.cell? ⟨b, off + i, none⟩ = some (.string (mkS (k + i)))
  rest : ∀ i, i < n → ∃ u, wr.cell? ⟨b, off + i, none⟩ = some u
  free : ∀ i, wr.frozen? ⟨b, i, none⟩ = false
  blk : b < wr.heap.size
  turned : Turned b (b + 1) w wr
theorem MarkingT.below {b off n k j : Nat} {w wr w2 : World} (h : MarkingT b off n k w j wr) (hb : Below wr.heap.size wr w2) : MarkingT b off n k w j w2 :=
  ⟨fun i hi => (hb.cell (p := ⟨b, off + i, none⟩) h.blk).trans (h.done i hi), fun i hi => (h.rest i hi).imp fun _ hu => (hb.cell (p := ⟨b, off + i, none⟩) h.blk).trans hu,
    fun i => (hb.frozen (p := ⟨b, i, none⟩) h.blk).trans (h.free i), Nat.lt_of_lt_of_le h.blk hb.size, h.turned.trans (turned_below hb)⟩
theorem MarkingT.step {b off n k j : Nat} {w wr : World} (h : MarkingT b off n k w j wr) (hj : j < n) : MarkingT b off n k w (j + 1) (wr.setCell ⟨b, off + j, none⟩ (.string (mkS (k + j)))) := by
  obtain ⟨u, hu⟩ := h.rest j hj
  refine ⟨fun i hi => ?_, fun i hi => ?_, fun i => by rw [World.frozen?_setCell]; exact h.free i, by simpa [World.setCell] using h.blk, h.turned.setCell (Nat.le_refl _) (Nat.lt_succ_self _) _⟩
  · by_cases e : i = j
    · subst e; exact World.cell?_setCell_same _ _ _ hu
    · rw [World.cell?_setCell_other _ _ _ _ (by intro h; injection h with _ h2 _; omega)]; exact h.done i (by omega)
  · by_cases e : i = j
    · subst e; exact ⟨_, World.cell?_setCell_same _ _ _ hu⟩
    · rw [World.cell?_setCell_other _ _ _ _ (by intro h; injection h with _ h2 _; omega)]; exact h.rest i hi
/-- What marking a list does. -/
def MarkedT (lo hi : Nat) (v : Value) (k n : Nat) (w : World) (e : Ending) (w' : World) : Prop := e = .returned (.int .i64 (((k + n : Nat)) : Int)) ∧ TI lo hi w' v (marksT k n) ∧ Turned lo hi w w'
set_option maxRecDepth 100000 in
set_option maxHeartbeats 1000000 in
theorem markStr_any (lo hi : Nat) (v : Value) (Z : List ByteArray) (k : Nat) (w : World) (hv : TI lo hi w v Z) (hn : Z.length ≤ 1048576) (hk0 : 1 ≤ k) (hk1 : k ≤ 2097152) :
    Calls Tryd.prog 12 #[v, .int .i64 (k : Int)] w (MarkedT lo hi v k Z.length w) := by
  obtain ⟨hhi, ⟨rfl, ao, cap, rfl⟩ | ⟨b, off, cap, rfl, hpos, hlo, hbh, hfz, hcell⟩⟩ := hv
  · go_enter Tryd.func12, Tryd.ntmps12
    go_wp2
    refine wp_loop_rounds 1 ?_
    rw [rounds_succ]
    go_wp2
    go_ret
    exact ⟨by simp, SI.nil _ hhi _ _, Turned.refl _ _ _⟩
  · obtain ⟨n, hnz⟩ : ∃ n, n = Z.length := ⟨_, rfl⟩
    rw [← hnz] at hpos hn hcell ⊢
    have h0 : MarkingT b off n k w 0 w := ⟨fun i hi => by omega, fun i hi => ⟨_, hcell i hi⟩, hfz, by omega, Turned.refl _ _ _⟩
    have H0 := Lib.hid h0
    have HHI := Lib.hid hhi
    clear hfz hcell h0 hnz hhi
    go_enter Tryd.func12, Tryd.ntmps12
    go_wp2
    go_loopg [1, 5] n (fun gk kk i wr => ∃ j u : Nat, j ≤ n ∧ gk + j = n ∧ u = k + j ∧ i = .int .i64 j ∧ kk = .int .i64 (u : Int) ∧ MarkingT b off n k w j wr)
    case atStart => exact ⟨0, k, Nat.zero_le _, by omega, by omega, rfl, rfl, H0.out⟩
    case round =>
      clear H0
      obtain ⟨j, u, hj, hgk, hu, rfl, rfl, hM⟩ := hrel
      have HM := Lib.hid hM
      have HU := Lib.hid hu
      have HGK := Lib.hid hgk
      have hub : u ≤ 3145728 := by omega
      have hu1 : 1 ≤ u := by omega
      clear hM hu hgk
      by_cases hlt : j < n
      · have MT := Lib.hid (fun W => markText_any u W hu1 (by omega))
        have ST := Lib.hid (fun w2 (h : Below wr.heap.size wr w2) => (HM.out.below h).step hlt)
        have CE := Lib.hid (fun w2 (h : Below wr.heap.size wr w2) => (HM.out.below h).rest j hlt)
        have FE := Lib.hid (fun w2 (h : Below wr.heap.size wr w2) => (HM.out.below h).free (off + j))
        rw [← HU.out] at ST
        have NX : Hid (u + 1 = k + (j + 1)) := Lib.hid (by have := HU.out; omega)
        clear HM
        go_wp2_with fail
        go_at_call 42; refine (MT.out _).mono ?_; rintro e w2 ⟨rfl, b2⟩
        obtain ⟨y, hy⟩ := CE.out _ b2
        have hf := FE.out _ b2
        have S2 := Lib.hid (ST.out _ b2)
        generalize mkS u = x at *
        clear b2 CE FE
        go_wp2_with fail
        go_roundg (gk - 1)
        case measure => have := HGK.out; omega
        case rel => exact ⟨j + 1, u + 1, by omega, by have := HGK.out; omega, NX.out, by go_num, by go_num, S2.out⟩
      · obtain rfl : j = n := by omega
        go_wp2_with fail
        go_ret
        have hM := HM.out
        have ht : Turned lo hi w _ := hM.turned.wide hlo hbh
        exact ⟨by rw [HU.out]; simp, ⟨Nat.le_trans HHI.out ht.size, Or.inr ⟨b, off, cap, by rw [marksT_len], by rw [marksT_len]; exact hpos, hlo, hbh, hM.free, fun i hi => by rw [marksT_len] at hi; rw [marksT_at hi]; exact hM.done i hi⟩⟩, ht⟩
set_option maxRecDepth 100000 in
set_option maxHeartbeats 1000000 in
theorem heldStr_any (v : Value) (k n : Nat) (w : World) (hv : TL w v (marksT k n)) (hn : n ≤ 1048576) (hk0 : 1 ≤ k) (hk1 : k ≤ 2097152) :
    Calls Tryd.prog 13 #[v, .int .i64 (k : Int)] w fun e w' => e = .returned (.int .i64 (((k + n : Nat)) : Int)) ∧ Below w.heap.size w w' := by
  rcases hv with ⟨h0, ao, cap, rfl⟩ | ⟨b, off, cap, rfl, hpos, hbl, hcell⟩
  · have hn0 : n = 0 := by have := marksT_len k n; rw [h0] at this; simpa using this.symm
    subst hn0
    clear h0
    go_enter Tryd.func13, Tryd.ntmps13
    go_wp2
    refine wp_loop_rounds 1 ?_
    rw [rounds_succ]
    go_wp2
    go_ret
    exact ⟨by simp, Below.refl _ _⟩
  · rw [marksT_len] at hpos hcell ⊢
    have HC : Hid (∀ j u wr, j < n → u = k + j → Below w.heap.size w wr → wr.cell? ⟨b, off + j, none⟩ = some (.string (mkS u))) := Lib.hid fun j u wr hj hu hb => by
      rw [hu, hb.cell (p := ⟨b, off + j, none⟩) hbl, hcell j hj, marksT_at hj]
    clear hcell
    go_enter Tryd.func13, Tryd.ntmps13
    go_wp2
    go_loopg [1, 5] n (fun gk kk i wr => ∃ j u : Nat, j ≤ n ∧ gk + j = n ∧ u = k + j ∧ i = .int .i64 j ∧ kk = .int .i64 (u : Int) ∧ Below w.heap.size w wr)
    case atStart => exact ⟨0, k, Nat.zero_le _, by omega, by omega, rfl, rfl, Below.refl _ _⟩
    case round =>
      obtain ⟨j, u, hj, hgk, hu, rfl, rfl, hB⟩ := hrel
      have HU := Lib.hid hu
      have HB := Lib.hid hB
      have HGK := Lib.hid hgk
      have hub : u ≤ 3145728 := by omega
      have hu1 : 1 ≤ u := by omega
      clear hu hgk hB
      by_cases hlt : j < n
      · have hc1 := HC.out j u wr hlt HU.out HB.out
        have MT := Lib.hid (fun W => markText_any u W hu1 (by omega))
        have NX : Hid (u + 1 = k + (j + 1)) := Lib.hid (by have := HU.out; omega)
        have HBN := Lib.hid (fun w2 (h : Below wr.heap.size wr w2) => HB.out.trans (h.mono HB.out.size))
        have HCC := Lib.hid (fun w2 (h : Below wr.heap.size wr w2) => HC.out j u w2 hlt HU.out (HB.out.trans (h.mono HB.out.size)))
        generalize mkS u = x at *
        have BD := Lib.hid (below_drewN (Below.refl wr.heap.size wr) 1)
        go_wp2_with fail
        go_region_held3 (fun w' => w'.cell? ⟨b, off + j, none⟩ = some (.string x)) (first | exact hc1 | exact S2.out) (first
          | (go_at_call 42; refine (MT.out _).mono ?_; rintro e w3 ⟨rfl, b3⟩; have bz := BD.out.trans b3; have H3 := Lib.hid (HBN.out _ bz); have S2 := Lib.hid (HCC.out _ bz); clear b3 bz))
        all_goals
          go_wp2_with fail
          go_roundg (gk - 1)
          case measure => have := HGK.out; omega
          case rel => exact ⟨j + 1, u + 1, by omega, by have := HGK.out; omega, NX.out, by go_num, by go_num, H3.out⟩
      · obtain rfl : j = n := by omega
        go_wp2_with fail
        go_ret
        exact ⟨by rw [HU.out]; simp, HB.out⟩
end Go.Proofs.YtcgdkjbbdpmmhaaDoor
