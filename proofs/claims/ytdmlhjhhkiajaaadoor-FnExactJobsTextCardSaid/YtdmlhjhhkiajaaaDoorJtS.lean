/- The text of jobs: the model. -/
import Derived.Test.YtdmlhjhhkiajaaaDoorJtI
import Derived.Test.YtdmlhjhhkiajaaaDoorJbS
import Derived.StillTailTactics
import Derived.Deep.RegionHeld3
import Derived.Deep.AppendLies
namespace Go.Proofs.YtdmlhjhhkiajaaaDoor
open Go.RowKit Go.ChangeShapes Go.WideShapes

set_option maxRecDepth 100000 in
set_option maxHeartbeats 4000000 in
theorem l08Jobs_any (v : Value) (Z : List Ac) (w : World) (hv : AV w v Z) (hJ : JobsOk Z) :
    Calls Tryd.prog 84 #[v] w (SaysS (txtL (flK Z Z.length)) w) := by
  obtain ⟨i0, hi, hz0, hz1, hz2⟩ := info_parts Tryd.infoJt
  have n1 := hJ.n1
  have n2 := hJ.n2
  rcases hv with ⟨hz, -⟩ | ⟨b, off, cap, rfl, hpos, hbl, hcell⟩
  · rw [hz] at n1; simp at n1
  have HC := Lib.hid hcell
  have HFL := Lib.hid (flK_len Z)
  have LT := Lib.hid (fun u W hv => l01Text_any u (flK Z Z.length) W hv (by rw [flK_len]; omega) (ltOk_ok (flK_ok hJ)).2)
  have G0 : Hid (Grows (Value.int .i64) 2 w.heap.size (.slice (some ⟨w.heap.size, 0, none⟩) 0 0) (flK Z 0) (w.alloc (.cells #[] 2))) := Lib.hid (Grows.empty (Value.int .i64) _ _ w (Nat.le_refl _))
  have B0 := Lib.hid (below_alloc w (.cells #[] 2))
  clear hcell hJ
  go_enter Tryd.func84, Tryd.ntmps84
  go_wp2_with fail
  go_loopg [3, 4] Z.length (fun gk s i wr => ∃ k : Nat, k ≤ Z.length ∧ gk + k = Z.length ∧ i = .int .i64 k ∧ Grows (Value.int .i64) 2 w.heap.size s (flK Z k) wr ∧ Below w.heap.size w wr)
  case atStart => exact ⟨0, Nat.zero_le _, by omega, rfl, G0.out, B0.out⟩
  case round =>
    obtain ⟨k, hk, hgk, rfl, hG, hwr⟩ := hrel
    clear G0 B0
    have HWR := Lib.hid hwr
    have HG := Lib.hid hG
    have HGK := Lib.hid hgk
    by_cases hlt : k < Z.length
    · have ak := (HC.out k hlt).keep hwr hbl
      have HS : Hid (flK Z (k + 1) = flK Z k ++ jn (Z.getD k zA)) := Lib.hid rfl
      generalize Z.getD k zA = A at ak HS
      obtain ⟨a0, a1, a2, a3⟩ := ak
      have hfl := HFL.out k
      have hsz := hwr.size
      generalize flK Z k = F at HG HS hfl hG
      have HFN := Lib.hid hfl
      obtain ⟨sa, sc, rfl⟩ := SI.len (d := (0 : Int)) hG.si
      clear hG hwr hgk hfl
      have hown : wr.ownsRow w.heap.size 2 1 (.slice sa F.length sc) F.length (F.map (Value.int .i64)) := HG.out
      have ab : (Value.slice sa F.length sc).ownBlock ≠ some b := fun h => by
        have := HG.out.block b h
        omega
      have hbr : b < wr.heap.size := by omega
      go_wp2_with fail
      go_region_held3 (fun w' => w'.cell? ⟨b, off + k * 4, none⟩ = some (.int .i64 A.f) ∧ w'.cell? ⟨b, off + k * 4 + 1, none⟩ = some (.int .i64 A.t) ∧ w'.cell? ⟨b, off + k * 4 + 2, none⟩ = some (.int .i64 A.r) ∧ w'.cell? ⟨b, off + k * 4 + 3, none⟩ = some (.int .i64 A.c))
        (first
          | go_keep
          | (go_split_ands
             refine ⟨?_, ?_, ?_, ?_⟩
             · (rw [hgrow.cell_far _ (by simp; omega) (Ne.symm ab)]; assumption)
             · (rw [hgrow.cell_far _ (by simp; omega) (Ne.symm ab)]; assumption)
             · (rw [hgrow.cell_far _ (by simp; omega) (Ne.symm ab)]; assumption)
             · (rw [hgrow.cell_far _ (by simp; omega) (Ne.symm ab)]; assumption)))
        ((refine step_append_lies _ (by rfl) _ _ _ (by rfl) w.heap.size 2 i0 _ 1 8 Tryd.underlying27 hi hz0 hz1 hz2 rfl (by omega) (.slice sa F.length sc) F.length (F.map (Value.int .i64)) (by rfl) ((hown.alloc _).drew)
            ⟨wr.heap.size, 0, none⟩ 4 4 [.int .i64 A.f, .int .i64 A.t, .int .i64 A.r, .int .i64 A.c] (by rfl) (by rfl) (World.news_of_block (cs := #[.int .i64 A.f, .int .i64 A.t, .int .i64 A.r, .int .i64 A.c]) (t := 2) (fr := (0, 0)) (heap_alloc_new wr _)) (by simp [Value.oneCell'])
            (by omega) (by rw [HFN.out]; unfold maxLen; omega) (by rw [HFN.out]; omega) (by simp; omega) (wr.heap.size + 1) (by simp) ?_; intro gg gcap w1 hown1 hgrow hat hlt1))
      all_goals
        have GN : Hid (Grows (Value.int .i64) 2 w.heap.size (.slice (some ⟨gg, 0, none⟩) (F.length + 4) gcap) (flK Z (k + 1)) w1) := Lib.hid (by rw [HS.out]; exact Grows.more (news := jn A) rfl hown1)
        have BN : Hid (Below w.heap.size w w1) := Lib.hid ((below_drewN (HWR.out.alloc HWR.out.size _) 1).grown hgrow (by simp; omega) (fun g hg => HG.out.block g hg))
        clear hown1 hgrow hat hown
        go_wp2_with fail
        go_roundg (gk - 1)
        case measure => have := HGK.out; omega
        case rel => exact ⟨k + 1, by omega, by have := HGK.out; omega, by go_num, GN.out, BN.out⟩
    · obtain rfl : k = Z.length := by omega
      have hil := hG.si (d := (0 : Int))
      have L1 := Lib.hid (LT.out _ _ hil.vl)
      clear hG hwr hgk hil
      go_wp2_with fail
      go_at_call 66; refine L1.out.mono ?_; rintro e w3 ⟨rfl, b3⟩
      have B3 := Lib.hid (HWR.out.trans (b3.mono HWR.out.size))
      clear b3
      go_wp2_with fail
      go_ret
      exact ⟨rfl, B3.out⟩
theorem specJobsText_any (v : Value) (Z : List Ac) (w : World) (hv : AV w v Z) (o : OKA Z) :
    Calls Tryd.prog 39 #[v] w (SaysSB (jtD Z) (jobsB Z) w) := by
  have hn := o.size
  have HV := Lib.hid hv
  obtain ⟨ao, cap, rfl⟩ := hv.long
  cases h : jobsB Z with
  | false =>
    have e : jtD Z = [] := by unfold jtD; rw [h]; rfl
    rw [e]
    have H := Lib.hid h
    clear hv h e
    go_enter Tryd.func39, Tryd.ntmps39
    go_wp2_with fail
    go_at_call 83; refine (l06Are_is false _ Z _ HV.out hn H.out).mono ?_; rintro e w1 ⟨rfl, m, rfl⟩
    go_wp2_with fail
    go_ret2
    exact ⟨rfl, below_drewN (Below.refl _ _) _⟩
  | true =>
    have H := Lib.hid h
    rw [(jtD_yes h).1]
    have LJ := Lib.hid (fun W hv => l08Jobs_any (.slice ao Z.length cap) Z W hv (jobsB_ok h))
    generalize txtL (flK Z Z.length) = D at *
    clear hv h
    go_enter Tryd.func39, Tryd.ntmps39
    go_wp2_with fail
    go_at_call 83; refine (l06Are_is true _ Z _ HV.out hn H.out).mono ?_; rintro e w1 ⟨rfl, m, rfl⟩
    go_wp2_with fail
    go_at_call 84; refine (LJ.out _ (HV.out.dn _)).mono ?_; rintro e w3 ⟨rfl, b⟩
    have B := Lib.hid ((below_drewN (Below.refl w.heap.size w) m).trans b)
    clear b
    go_wp2_with fail
    go_ret2
    exact ⟨rfl, B.out⟩
end Go.Proofs.YtdmlhjhhkiajaaaDoor
