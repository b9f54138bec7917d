/- Jobs put on the machines that are free first: the program. -/
import Derived.Test.YtcnfmphokobgiaaMnI
import Derived.Test.YtcnfmphokobgiaaJbI
import Derived.Test.YtcnfmphokobgiaaRows2
import Derived.BigRegion
import Derived.Laws.MakeOwn
import Derived.Laws.AppendOwn
import Derived.Deep.RegionWith
namespace Go.Proofs.Ytcnfmphokobgiaa
open Go.RowKit Go.ChangeShapes Go.WideShapes

theorem arr_alloc (W : World) (n : Nat) (e : TypeId) : Arr (Value.int .i64) 0 (W.alloc (.cells (madeCells (Value.int .i64 0).cells n) e)) W.heap.size 0 (List.replicate n 0) := by
  refine ⟨fun i hi => ?_, fun i => ?_⟩
  · rw [List.length_replicate] at hi
    rw [Nat.zero_add, World.cell?_alloc_new]
    have e2 : (List.replicate n (0 : Int)).getD i 0 = 0 := by simp [List.getD, hi]
    rw [e2]
    simp [madeCells, hi, Value.cells, Nat.mod_one]
  · have hg := heap_alloc_new W (.cells (madeCells (Value.int .i64 0).cells n) e)
    simp only [World.frozen?, hg]
    simp
theorem RowsAt.flip {w wr : World} {B1 B2 : Nat} {F P : List Int} (h : RowsAt w B1 B2 F P wr) : RowsAt w B2 B1 P F wr := ⟨h.below, h.two, h.one, h.ge2, h.ge1, h.lt2, h.lt1, fun e => h.ne e.symm⟩
theorem rows_both (w : World) (n m : Nat) (e : TypeId) : RowsAt w (w.heap.size + 1) w.heap.size (List.replicate m 0) (List.replicate n 0) ((w.alloc (.cells (madeCells (Value.int .i64 0).cells n) e)).alloc (.cells (madeCells (Value.int .i64 0).cells m) e)) := by
  have h := arr_alloc (w.alloc (.cells (madeCells (Value.int .i64 0).cells n) e)) m e
  rw [show (w.alloc (.cells (madeCells (Value.int .i64 0).cells n) e)).heap.size = w.heap.size + 1 by simp] at h
  exact ⟨(below_alloc w _).alloc (by simp) _, h, (arr_alloc w n e).below (below_alloc _ _) (by simp), by omega, Nat.le_refl _, by simp, by simp; omega, by omega⟩
set_option maxRecDepth 100000 in
set_option maxHeartbeats 16000000 in
theorem putOn_any (v u : Value) (Z : List Ac) (T : List Int) (m : Nat) (w : World) (hv : AV w v Z) (hu : IL w u T) (h : JobsOk Z) (ht : TourOk T Z.length) (m1 : 1 ≤ m) (m2 : m ≤ 8) :
    Calls Try.prog 63 #[.int .i64 m, v, u] w (SaysJI (lpP Z T m Z.length) (lpM Z T m Z.length) w) := by
  obtain ⟨i0, hi, hz0, hz1, hz2⟩ := info_parts Try.infoI
  have n1 := h.n1
  have n2 := h.n2
  have HJ := Lib.hid h
  have HT := Lib.hid ht
  have htl := ht.len
  rcases hv with ⟨hz, -⟩ | ⟨b, off, cap, rfl, hpos, hbl, hcell⟩
  · rw [hz] at n1; simp at n1
  rcases hu with ⟨hz, -⟩ | ⟨b2, off2, cap2, rfl, hpos2, hbl2, hcell2⟩
  · rw [hz] at htl; simp at htl; omega
  have HC := Lib.hid hcell
  have HC2 := Lib.hid hcell2
  have HL := Lib.hid htl
  rw [htl]
  have HFL := Lib.hid (lpF_len Z T m)
  have HPL := Lib.hid (lpP_len Z T m)
  have HMX := Lib.hid (lpM_max HJ.out HT.out m1 Z.length (Nat.le_refl _))
  clear hcell hcell2 htl h ht hpos2
  have mkn : ∀ W : World, (Instr.makeSlice 24 (.int .i64 (Z.length : Int)) (.int .i64 (Z.length : Int))).run Try.prog W = .ok (.slice (some ⟨W.heap.size, 0, none⟩) Z.length Z.length) (W.alloc (.cells (madeCells (Value.int .i64 0).cells Z.length) 2)) := fun W => by
    have h := run_make (P := Try.prog) (w := W) 24 2 i0 (.int .i64 0) Try.underlying24 hi hz0 .i64 .i64 (Z.length : Int) (Z.length : Int) (by omega) (Int.le_refl _) (by rw [hz2]; omega) (by omega)
    rw [hz1] at h
    simpa using h
  have mkm : ∀ W : World, (Instr.makeSlice 24 (.int .i64 (m : Int)) (.int .i64 (m : Int))).run Try.prog W = .ok (.slice (some ⟨W.heap.size, 0, none⟩) m m) (W.alloc (.cells (madeCells (Value.int .i64 0).cells m) 2)) := fun W => by
    have h := run_make (P := Try.prog) (w := W) 24 2 i0 (.int .i64 0) Try.underlying24 hi hz0 .i64 .i64 (m : Int) (m : Int) (by omega) (Int.le_refl _) (by rw [hz2]; omega) (by omega)
    rw [hz1] at h
    simpa using h
  have R1 : Hid (RowsAt w (w.heap.size + 1) w.heap.size (lpF Z T m 0) (lpP Z T m 0) ((w.alloc (.cells (madeCells (Value.int .i64 0).cells Z.length) 2)).alloc (.cells (madeCells (Value.int .i64 0).cells m) 2))) := Lib.hid (rows_both w Z.length m _)
  have R2 : Hid (RowsAt w w.heap.size (w.heap.size + 1) (lpF Z T m 0) (lpP Z T m 0) ((w.alloc (.cells (madeCells (Value.int .i64 0).cells m) 2)).alloc (.cells (madeCells (Value.int .i64 0).cells Z.length) 2))) := Lib.hid (rows_both w m Z.length _).flip
  go_enter Try.func63, Try.ntmps63
  go_wp2_with fail
  go_region_with (fail)
  · clear R2
    clear mkn mkm
    go_wp2_with fail
    go_loopg [20] Z.length (fun gk i wr => ∃ k : Nat, k ≤ Z.length ∧ gk + k = Z.length ∧ i = .int .i64 k ∧ RowsAt w (w.heap.size + 1) w.heap.size (lpF Z T m k) (lpP Z T m k) wr)
    case atStart => exact ⟨0, Nat.zero_le _, by omega, rfl, R1.out.drew 1⟩
    case round =>
      obtain ⟨k, hk, hgk, rfl, hat⟩ := hrel
      have HA := Lib.hid hat
      clear hat
      by_cases hlt : k < Z.length
      · have HFI := Lib.hid (lpF_in HJ.out HT.out m k hk)
        have HSF : Hid (lpF Z T m (k + 1) = (lpF Z T m k).set (aminF (lpF Z T m k) m) ((lpF Z T m k).getD (aminF (lpF Z T m k) m) 0 + (Z.getD (tN T k) zA).f)) := Lib.hid rfl
        have HSP : Hid (lpP Z T m (k + 1) = (lpP Z T m k).set (tN T k) ((aminF (lpF Z T m k) m : Nat) : Int)) := Lib.hid rfl
        have HFLk := Lib.hid (HFL.out k)
        have HPLk := Lib.hid (HPL.out k)
        generalize lpF Z T m k = F at HA HFI HSF HSP HFLk
        generalize lpP Z T m k = P at HA HSP HPLk
        have hal := aminF_in F m1
        have x1 := (show wr.cell? ⟨b2, off2 + k, none⟩ = some (.int .i64 (T.getD k 0)) by rw [HA.out.below.cell (p := ⟨b2, off2 + k, none⟩) hbl2]; exact HC2.out k (by rw [HL.out]; exact hlt))
        obtain ⟨he, hc⟩ := HT.out.inn k hlt
        rw [he] at x1
        have hf := HJ.out.ok _ hc
        have f1 := hf.f1
        have f2 := hf.f2
        obtain ⟨z, hz⟩ := HA.out.two.cell (i := tN T k) (by rw [HPLk.out]; exact hc)
        rw [Nat.zero_add] at hz
        have fr2 := HA.out.two.free (tN T k)
        have HLP : Hid (tN T k < P.length) := Lib.hid (by rw [HPLk.out]; exact hc)
        have lc : (tN T k : Int) < (Z.length : Int) := by omega
        have W2 := Lib.hid (HA.out.set2 HLP.out ((aminF F m : Nat) : Int))
        rw [← HSP.out] at W2
        have la : (aminF F m : Int) < (m : Int) := by omega
        have HX : Hid (w.cell? ⟨b2, off2 + k, none⟩ = some (.int .i64 (tN T k : Int))) := Lib.hid (by rw [← he]; exact HC2.out k (by rw [HL.out]; exact hlt))
        clear he hf
        have HFI2 := Lib.hid (HFI.out (aminF F m))
        have HC0 := Lib.hid (HC.out (tN T k) hc)
        have HMIN := Lib.hid (min_is (w.heap.size + 1) m m F wr HA.out.one HFLk.out m1 (by omega))
        have HIDX := Lib.hid (idx_is (w.heap.size + 1) m m F wr HA.out.one HFLk.out m1 (by omega))
        generalize aminF F m = a at W2 HSF hal la HFI2 HMIN HIDX
        generalize tN T k = c at x1 hz fr2 HSF lc hc W2 HLP HC0 f1 f2 HX
        generalize hFa : F.getD a 0 = x at HSF HFI2 HMIN HIDX
        have HFA := Lib.hid hFa
        clear hFa
        go_wp2_with fail
        go_at_call 112; refine (HMIN.out).mono ?_; rintro e w' ⟨rfl, rfl⟩
        go_wp2_with fail
        go_at_call 111; refine (HIDX.out).mono ?_; rintro e w' ⟨rfl, rfl⟩
        go_wp2_with fail
        obtain ⟨ws, hws⟩ : ∃ y, y = w'.setCell ⟨w.heap.size, c, none⟩ (.int .i64 (a : Int)) := ⟨_, rfl⟩
        rw [← hws] at W2 ⊢
        clear hws hz fr2 x1
        have x1 : ws.cell? ⟨b2, off2 + k, none⟩ = some (.int .i64 (c : Int)) := by rw [W2.out.below.cell (p := ⟨b2, off2 + k, none⟩) hbl2]; exact HX.out
        have a1 := (HC0.out.keep W2.out.below hbl).c0
        have y1 := W2.out.one.cell0 (i := a) (by rw [HFLk.out]; exact hal)
        rw [HFA.out] at y1
        have fr1 := W2.out.one.free a
        have W3 := Lib.hid fun q => (W2.out.drew q).set1 (i := a) (by rw [HFLk.out]; exact hal) (x + (Z.getD c zA).f)
        rw [← HSF.out] at W3
        obtain ⟨h3, h4⟩ := HFI2.out
        generalize (Z.getD c zA).f = f at a1 W3 f1 f2
        have ws1 : IntKind.i64.wrap (x + f) = x + f := IntWalk.i64_in _ (by omega)
        go_region_with (fail)
        all_goals
          go_wp2_with fail
          go_roundg (gk - 1)
          case measure => omega
          case rel => exact ⟨k + 1, by omega, by omega, by go_num, W3.out _⟩
      · obtain rfl : k = Z.length := by omega
        have hs := SI.wide (HA.out.two.si HA.out.ge2 HA.out.lt2) (lo' := w.heap.size) (Nat.le_refl _) (Nat.le_refl _) (Nat.le_refl _)
        rw [HPL.out] at hs
        have I3 := Lib.hid hs
        have HMAX := Lib.hid (max_is (w.heap.size + 1) m m (lpF Z T m Z.length) _ wr HA.out.one (HFL.out _) m1 (by omega) HMX.out)
        clear hs
        go_wp2_with fail
        go_at_call 113; refine (HMAX.out).mono ?_; rintro e w' ⟨rfl, rfl⟩
        go_wp2_with fail
        go_ret2
        exact ⟨_, rfl, I3.out, HA.out.below⟩
  · clear R1
    clear mkn mkm
    go_wp2_with fail
    go_loopg [20] Z.length (fun gk i wr => ∃ k : Nat, k ≤ Z.length ∧ gk + k = Z.length ∧ i = .int .i64 k ∧ RowsAt w w.heap.size (w.heap.size + 1) (lpF Z T m k) (lpP Z T m k) wr)
    case atStart => exact ⟨0, Nat.zero_le _, by omega, rfl, R2.out.drew 1⟩
    case round =>
      obtain ⟨k, hk, hgk, rfl, hat⟩ := hrel
      have HA := Lib.hid hat
      clear hat
      by_cases hlt : k < Z.length
      · have HFI := Lib.hid (lpF_in HJ.out HT.out m k hk)
        have HSF : Hid (lpF Z T m (k + 1) = (lpF Z T m k).set (aminF (lpF Z T m k) m) ((lpF Z T m k).getD (aminF (lpF Z T m k) m) 0 + (Z.getD (tN T k) zA).f)) := Lib.hid rfl
        have HSP : Hid (lpP Z T m (k + 1) = (lpP Z T m k).set (tN T k) ((aminF (lpF Z T m k) m : Nat) : Int)) := Lib.hid rfl
        have HFLk := Lib.hid (HFL.out k)
        have HPLk := Lib.hid (HPL.out k)
        generalize lpF Z T m k = F at HA HFI HSF HSP HFLk
        generalize lpP Z T m k = P at HA HSP HPLk
        have hal := aminF_in F m1
        have x1 := (show wr.cell? ⟨b2, off2 + k, none⟩ = some (.int .i64 (T.getD k 0)) by rw [HA.out.below.cell (p := ⟨b2, off2 + k, none⟩) hbl2]; exact HC2.out k (by rw [HL.out]; exact hlt))
        obtain ⟨he, hc⟩ := HT.out.inn k hlt
        rw [he] at x1
        have hf := HJ.out.ok _ hc
        have f1 := hf.f1
        have f2 := hf.f2
        obtain ⟨z, hz⟩ := HA.out.two.cell (i := tN T k) (by rw [HPLk.out]; exact hc)
        rw [Nat.zero_add] at hz
        have fr2 := HA.out.two.free (tN T k)
        have HLP : Hid (tN T k < P.length) := Lib.hid (by rw [HPLk.out]; exact hc)
        have lc : (tN T k : Int) < (Z.length : Int) := by omega
        have W2 := Lib.hid (HA.out.set2 HLP.out ((aminF F m : Nat) : Int))
        rw [← HSP.out] at W2
        have la : (aminF F m : Int) < (m : Int) := by omega
        have HX : Hid (w.cell? ⟨b2, off2 + k, none⟩ = some (.int .i64 (tN T k : Int))) := Lib.hid (by rw [← he]; exact HC2.out k (by rw [HL.out]; exact hlt))
        clear he hf
        have HFI2 := Lib.hid (HFI.out (aminF F m))
        have HC0 := Lib.hid (HC.out (tN T k) hc)
        have HMIN := Lib.hid (min_is w.heap.size m m F wr HA.out.one HFLk.out m1 (by omega))
        have HIDX := Lib.hid (idx_is w.heap.size m m F wr HA.out.one HFLk.out m1 (by omega))
        generalize aminF F m = a at W2 HSF hal la HFI2 HMIN HIDX
        generalize tN T k = c at x1 hz fr2 HSF lc hc W2 HLP HC0 f1 f2 HX
        generalize hFa : F.getD a 0 = x at HSF HFI2 HMIN HIDX
        have HFA := Lib.hid hFa
        clear hFa
        go_wp2_with fail
        go_at_call 112; refine (HMIN.out).mono ?_; rintro e w' ⟨rfl, rfl⟩
        go_wp2_with fail
        go_at_call 111; refine (HIDX.out).mono ?_; rintro e w' ⟨rfl, rfl⟩
        go_wp2_with fail
        obtain ⟨ws, hws⟩ : ∃ y, y = w'.setCell ⟨(w.heap.size + 1), c, none⟩ (.int .i64 (a : Int)) := ⟨_, rfl⟩
        rw [← hws] at W2 ⊢
        clear hws hz fr2 x1
        have x1 : ws.cell? ⟨b2, off2 + k, none⟩ = some (.int .i64 (c : Int)) := by rw [W2.out.below.cell (p := ⟨b2, off2 + k, none⟩) hbl2]; exact HX.out
        have a1 := (HC0.out.keep W2.out.below hbl).c0
        have y1 := W2.out.one.cell0 (i := a) (by rw [HFLk.out]; exact hal)
        rw [HFA.out] at y1
        have fr1 := W2.out.one.free a
        have W3 := Lib.hid fun q => (W2.out.drew q).set1 (i := a) (by rw [HFLk.out]; exact hal) (x + (Z.getD c zA).f)
        rw [← HSF.out] at W3
        obtain ⟨h3, h4⟩ := HFI2.out
        generalize (Z.getD c zA).f = f at a1 W3 f1 f2
        have ws1 : IntKind.i64.wrap (x + f) = x + f := IntWalk.i64_in _ (by omega)
        go_region_with (fail)
        all_goals
          go_wp2_with fail
          go_roundg (gk - 1)
          case measure => omega
          case rel => exact ⟨k + 1, by omega, by omega, by go_num, W3.out _⟩
      · obtain rfl : k = Z.length := by omega
        have hs := SI.wide (HA.out.two.si HA.out.ge2 HA.out.lt2) (lo' := w.heap.size) (Nat.le_refl _) (Nat.le_refl _) (Nat.le_refl _)
        rw [HPL.out] at hs
        have I3 := Lib.hid hs
        have HMAX := Lib.hid (max_is w.heap.size m m (lpF Z T m Z.length) _ wr HA.out.one (HFL.out _) m1 (by omega) HMX.out)
        clear hs
        go_wp2_with fail
        go_at_call 113; refine (HMAX.out).mono ?_; rintro e w' ⟨rfl, rfl⟩
        go_wp2_with fail
        go_ret2
        exact ⟨_, rfl, I3.out, HA.out.below⟩
end Go.Proofs.Ytcnfmphokobgiaa
