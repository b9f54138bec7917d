/- Lists of numbers that are made room for, and joined. -/
import Derived.Test.YtajekehidofkiaaClo
import Derived.Lib.AppendZeros
import Derived.Deep.AppendLies
import Derived.Deep.LoopGhost
namespace Go.Proofs.Ytajekehidofkiaa
open Go.RowKit Go.ChangeShapes Go.WideShapes

theorem grown_own (w : World) (n B : Nat) (h0 : n ≤ 1048576) (hB : B ≤ w.heap.size) : Grows (Value.float .f32) 47 B (.slice (some ⟨w.heap.size, 0, none⟩) 0 (grownCap w n 0 47)) [] (w.drew.alloc (.cells (Builtin.zeroCells (Value.float .f32 0).cells n ++ Builtin.zeroCells (Value.float .f32 0).cells (grownCap w n 0 47 - n)) 47)) := by
  have hge := grownCap_ge w n 0 47
  have hcm : grownCap w n 0 47 ≤ maxLen := grownCap_le_maxLen w n 0 47 (by unfold maxLen; omega)
  refine ⟨rfl, Or.inr ⟨w.heap.size, _, _, rfl, hB, heap_alloc_new w.drew _, Nat.zero_le _, hcm, ?_, rfl⟩⟩
  simp only [Array.size_append, size_zeroCells]
  have : (Value.float .f32 0).cells.size = 1 := rfl
  rw [this]
  omega
set_option maxHeartbeats 1000000 in
theorem growF_any (n : Nat) (w : World) (h0 : 0 < n) (hn : n ≤ 1048576) :
    Calls Try.prog 86 #[.slice none 0 0, .int .i64 n] w (fun e w' => ∃ g cap, e = .returned (.slice (some ⟨g, 0, none⟩) 0 cap) ∧ Grows (Value.float .f32) 47 w.heap.size (.slice (some ⟨g, 0, none⟩) 0 cap) [] w' ∧ Below w.heap.size w w') := by
  obtain ⟨i0, hi, hz0, hz1, hz2⟩ := info_parts Try.infoF
  have hr := fun (W : World) (ty : TypeId) => Lib.run_append_nil_zeros (P := Try.prog) W 44 3 ty 47 i0 (.float .f32 0) .i64 .i64 Try.underlying44 Try.underlying3 hi hz0 n h0 (by omega) (by omega) (by rw [hz2]; omega)
  have hw1 : IntKind.i64.wrap (n : Int) = n := by rw [IntKind.wrap_i64]; omega
  have hpos : (0 : Int) < (n : Int) := by omega
  have hng : ¬ ((n : Int) < 0) := by omega
  have HG := Lib.hid (grown_own w n w.heap.size hn (Nat.le_refl _))
  go_enter Try.func86, Try.ntmps86
  go_wp2_with (at_builtin; refine Lib.wpList_append_run _ rfl _ _ _ _ rfl _ _ rfl rfl _ _ (hr _ _) ?_)
  go_wp2_with fail
  refine bodyPost_ret (results_tmp rfl _ _ _) rfl ?_
  exact ⟨_, _, rfl, HG.out, ((Below.refl _ _).drew).alloc (Nat.le_refl _) _⟩
/-- Where a list lies, in all worlds from here on. -/
def LiesC (w : World) (ad : Addr) (Z : List Nat) : Prop := ∀ w', Below w.heap.size w w' → ∀ j u, (Z.map (Value.float .f32))[j]? = some u → w'.cell? (ad.add j) = some u
theorem SL.liesC {w : World} {v : Value} {Z : List Nat} (h : SL w v Z) (h0 : 0 < Z.length) : ∃ ad cap, v = .slice (some ad) Z.length cap ∧ LiesC w ad Z := by
  rcases h with ⟨rfl, ao, cap, rfl⟩ | ⟨b, off, cap, rfl, hpos, hbl, hcell⟩
  · exact absurd h0 (by simp)
  · refine ⟨_, _, rfl, fun w' hb j u hu => ?_⟩
    have hj : j < Z.length := by
      have := (List.getElem?_eq_some_iff.1 hu).1
      simpa using this
    rw [Go.WideShapes.add_plain, hb.cell (p := ⟨b, off + j, none⟩) hbl, hcell j hj]
    rw [← hu]
    simp [List.getD, hj]
def partOf (Y Z : List Nat) : Nat → List Nat
  | 0 => []
  | 1 => Y
  | _ + 2 => Y ++ Z
def sizeAt (Y Z : List Nat) : Nat → Nat
  | 0 => 0
  | 1 => Y.length
  | _ + 2 => Y.length + Z.length
theorem growF_is (m : Int) (n : Nat) (w : World) (hm : m = n) (h0 : 0 < n) (hn : n ≤ 1048576) :
    Calls Try.prog 86 #[.slice none 0 0, .int .i64 m] w (fun e w' => ∃ g cap, e = .returned (.slice (some ⟨g, 0, none⟩) 0 cap) ∧ Grows (Value.float .f32) 47 w.heap.size (.slice (some ⟨g, 0, none⟩) 0 cap) [] w' ∧ Below w.heap.size w w') := by
  subst hm
  exact growF_any n w h0 hn
set_option maxRecDepth 100000 in
set_option maxHeartbeats 4000000 in
theorem concat2_any (g : Nat) (ad1 ad2 : Addr) (cap1 cap2 : Nat) (Y Z : List Nat) (w : World) (h : Box2 w g (.slice (some ad1) Y.length cap1) (.slice (some ad2) Z.length cap2)) (hY : LiesC w ad1 Y) (hZ : LiesC w ad2 Z) (nY : Y.length ≤ 524288) (nZ : Z.length ≤ 524288) (hp : 0 < Y.length + Z.length) :
    Calls Try.prog 59 #[.slice (some ⟨g, 0, none⟩) 2 2] w (MadeF (Y ++ Z) w) := by
  obtain ⟨i0, hi, hz0, hz1, hz2⟩ := info_parts Try.infoF
  have L1 := Lib.hid hY
  have L2 := Lib.hid hZ
  have HX := Lib.hid h
  have hg := cell_block h.c0
  clear h hY hZ
  go_enter Try.func59, Try.ntmps59
  go_wp2_with fail
  go_loopg [3, 11] 2 (fun gk sz i wr => ∃ k : Nat, k ≤ 2 ∧ gk + k = 2 ∧ i = .int .i64 k ∧ sz = .int .i64 (sizeAt Y Z k) ∧ w = wr)
  case atStart => exact ⟨0, by omega, by omega, rfl, rfl, rfl⟩
  case round =>
    obtain ⟨k, hk, hgk, rfl, rfl, rfl⟩ := hrel
    obtain ⟨c0, c1⟩ := HX.out
    match k, hk with
    | 0, _ =>
      have w1 : IntKind.i64.wrap (Y.length : Int) = (Y.length : Int) := by rw [IntKind.wrap_i64]; omega
      have w2 : ¬ ((Y.length : Int) < 0) := by omega
      simp only [sizeAt]
      go_wp2_with fail
      go_roundg (gk - 1)
      case measure => omega
      case rel => exact ⟨1, by omega, by omega, rfl, by simp [sizeAt], rfl⟩
    | 1, _ =>
      have w1 : IntKind.i64.wrap ((Y.length : Int) + Z.length) = (Y.length : Int) + Z.length := by rw [IntKind.wrap_i64]; omega
      have w2 : ¬ ((Y.length : Int) + Z.length < 0) := by omega
      simp only [sizeAt]
      go_wp2_with fail
      go_roundg (gk - 1)
      case measure => omega
      case rel => exact ⟨2, by omega, by omega, rfl, by simp [sizeAt], rfl⟩
    | 2, _ =>
      simp only [sizeAt]
      go_wp2_with fail
      go_at_call 86; refine (growF_is _ (Y.length + Z.length) _ (by simp) hp (by omega)).mono ?_; rintro e W ⟨g1, gc1, rfl, hG1, hB1⟩
      have HG1 := Lib.hid hG1
      have HB1 := Lib.hid hB1
      clear hG1 hB1
      go_wp2_with fail
      go_loopg [6, 27] 2 (fun gk vo i wo => ∃ k : Nat, k ≤ 2 ∧ gk + k = 2 ∧ i = .int .i64 k ∧ Grows (Value.float .f32) 47 w.heap.size vo (partOf Y Z k) wo ∧ Below w.heap.size w wo)
      case atStart => exact ⟨0, by omega, by omega, rfl, HG1.out, HB1.out⟩
      case round =>
        obtain ⟨k, hk, hgk, rfl, hG, hB⟩ := hrel
        have HGR := Lib.hid hG
        have HBR := Lib.hid hB
        obtain ⟨c0, c1⟩ := HX.out.keep hB hg
        clear hG hB
        match k, hk with
        | 0, _ =>
          go_wp2_with (at_builtin; refine wpList_append_own _ rfl _ _ 44 rfl w.heap.size 47 i0 (.float .f32 0) 1 4 Try.underlying44 hi hz0 hz1 hz2 rfl (by decide) _ _ _ rfl HGR.out ad1 Y.length cap1 (Y.map (Value.float .f32)) rfl (by simp) (L1.out _ HBR.out) (map_one Y) (by simp [partOf]; unfold maxLen; omega) (by simp [partOf]; omega) HBR.out.size ?_)
          intro v2 W2 hown2 hgrow2 _
          have HN := Lib.hid (show Grows (Value.float .f32) 47 w.heap.size v2 (partOf Y Z 1) W2 from Grows.more (Z := partOf Y Z 0) (news := Y) (m := Y.length) rfl hown2)
          have HB2 := Lib.hid (HBR.out.grown hgrow2 HBR.out.size (fun q hq => HGR.out.block q hq))
          clear hown2 hgrow2
          go_wp2_with fail
          go_roundg (gk - 1)
          case measure => omega
          case rel => exact ⟨1, by omega, by omega, rfl, HN.out, HB2.out⟩
        | 1, _ =>
          go_wp2_with (at_builtin; refine wpList_append_own _ rfl _ _ 44 rfl w.heap.size 47 i0 (.float .f32 0) 1 4 Try.underlying44 hi hz0 hz1 hz2 rfl (by decide) _ _ _ rfl HGR.out ad2 Z.length cap2 (Z.map (Value.float .f32)) rfl (by simp) (L2.out _ HBR.out) (map_one Z) (by simp [partOf]; unfold maxLen; omega) (by simp [partOf]; omega) HBR.out.size ?_)
          intro v2 W2 hown2 hgrow2 _
          have HN := Lib.hid (show Grows (Value.float .f32) 47 w.heap.size v2 (partOf Y Z 2) W2 from Grows.more (Z := partOf Y Z 1) (news := Z) (m := Z.length) rfl hown2)
          have HB2 := Lib.hid (HBR.out.grown hgrow2 HBR.out.size (fun q hq => HGR.out.block q hq))
          clear hown2 hgrow2
          go_wp2_with fail
          go_roundg (gk - 1)
          case measure => omega
          case rel => exact ⟨2, by omega, by omega, rfl, HN.out, HB2.out⟩
        | 2, _ =>
          go_wp2_with fail
          refine bodyPost_ret (results_tmp rfl _ _ _) rfl ?_
          exact ⟨_, rfl, HGR.out.si, HBR.out⟩
end Go.Proofs.Ytajekehidofkiaa
