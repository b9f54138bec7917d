/- Lists of integers that are joined with nil. -/
import Derived.Test.YtcnfmphokobgiaaConI
import Derived.Laws.AppendOwnNone
namespace Go.Proofs.Ytcnfmphokobgiaa
open Go.RowKit Go.ChangeShapes Go.WideShapes

def partN (Y : List Int) : Nat → List Int
  | 0 => []
  | _ + 1 => Y
def sizeN (Y : List Int) : Nat → Nat
  | 0 => 0
  | _ + 1 => Y.length
set_option maxRecDepth 100000 in
set_option maxHeartbeats 4000000 in
theorem concatN_any (g : Nat) (ad1 : Addr) (cap1 : Nat) (Y : List Int) (w : World) (h : Box2 w g (.slice (some ad1) Y.length cap1) (.slice none 0 0)) (hY : LiesC w ad1 Y) (nY : Y.length ≤ 524288) (hp : 0 < Y.length) :
    Calls Try.prog 88 #[.slice (some ⟨g, 0, none⟩) 2 2] w (Made (Value.int .i64) (0 : Int) Y w) := by
  obtain ⟨i0, hi, hz0, hz1, hz2⟩ := info_parts Try.infoI
  have L1 := Lib.hid hY
  have HX := Lib.hid h
  have hg := cell_block h.c0
  clear h hY
  go_enter Try.func88, Try.ntmps88
  go_wp2_with fail
  go_loopg [3, 11] 2 (fun gk sz i wr => ∃ k : Nat, k ≤ 2 ∧ gk + k = 2 ∧ i = .int .i64 k ∧ sz = .int .i64 (sizeN Y k) ∧ w = wr)
  case atStart => exact ⟨0, by omega, by omega, rfl, rfl, rfl⟩
  case round =>
    obtain ⟨k, hk, hgk, rfl, rfl, rfl⟩ := hrel
    obtain ⟨c0, c1⟩ := HX.out
    match k, hk with
    | 0, _ =>
      have w1 : IntKind.i64.wrap (Y.length : Int) = (Y.length : Int) := by rw [IntKind.wrap_i64]; omega
      have w2 : ¬ ((Y.length : Int) < 0) := by omega
      simp only [sizeN]
      go_wp2_with fail
      go_roundg (gk - 1)
      case measure => omega
      case rel => exact ⟨1, by omega, by omega, rfl, by simp [sizeN], rfl⟩
    | 1, _ =>
      have w1 : IntKind.i64.wrap (Y.length : Int) = (Y.length : Int) := by rw [IntKind.wrap_i64]; omega
      have w2 : ¬ ((Y.length : Int) < 0) := by omega
      simp only [sizeN]
      go_wp2_with fail
      go_roundg (gk - 1)
      case measure => omega
      case rel => exact ⟨2, by omega, by omega, rfl, by simp [sizeN], rfl⟩
    | 2, _ =>
      simp only [sizeN]
      go_wp2_with fail
      go_at_call 129; refine (growI_is _ Y.length _ rfl hp (by omega)).mono ?_; rintro e W ⟨g1, gc1, rfl, hG1, hB1⟩
      have HG1 := Lib.hid hG1
      have HB1 := Lib.hid hB1
      clear hG1 hB1
      go_wp2_with fail
      go_loopg [6, 27] 2 (fun gk vo i wo => ∃ k : Nat, k ≤ 2 ∧ gk + k = 2 ∧ i = .int .i64 k ∧ Grows (Value.int .i64) 2 w.heap.size vo (partN Y k) wo ∧ Below w.heap.size w wo)
      case atStart => exact ⟨0, by omega, by omega, rfl, HG1.out, HB1.out⟩
      case round =>
        obtain ⟨k, hk, hgk, rfl, hG, hB⟩ := hrel
        have HGR := Lib.hid hG
        have HBR := Lib.hid hB
        obtain ⟨c0, c1⟩ := HX.out.keep hB hg
        clear hG hB
        match k, hk with
        | 0, _ =>
          go_wp2_with (at_builtin; refine wpList_append_own _ rfl _ _ 24 rfl w.heap.size 2 i0 (.int .i64 0) 1 8 Try.underlying24 hi hz0 hz1 hz2 rfl (by decide) _ _ _ rfl HGR.out ad1 Y.length cap1 (Y.map (Value.int .i64)) rfl (by simp) (L1.out _ HBR.out) (map_oneI Y) (by simp [partN]; unfold maxLen; omega) (by simp [partN]; omega) HBR.out.size ?_)
          intro v2 W2 hown2 hgrow2 _
          have HN := Lib.hid (show Grows (Value.int .i64) 2 w.heap.size v2 (partN Y 1) W2 from Grows.more (Z := partN Y 0) (news := Y) (m := Y.length) rfl hown2)
          have HB2 := Lib.hid (HBR.out.grown hgrow2 HBR.out.size (fun q hq => HGR.out.block q hq))
          clear hown2 hgrow2
          go_wp2_with fail
          go_roundg (gk - 1)
          case measure => omega
          case rel => exact ⟨1, by omega, by omega, rfl, HN.out, HB2.out⟩
        | 1, _ =>
          go_wp2_with (at_builtin; refine wpList_append_own_none rfl _ _ 24 rfl w.heap.size 2 i0 1 Try.underlying24 hi _ _ _ rfl HGR.out rfl ?_)
          go_wp2_with fail
          go_roundg (gk - 1)
          case measure => omega
          case rel => exact ⟨2, by omega, by omega, rfl, HGR.out, HBR.out⟩
        | 2, _ =>
          go_wp2_with fail
          refine bodyPost_ret (results_tmp rfl _ _ _) rfl ?_
          exact ⟨_, rfl, HGR.out.si, HBR.out⟩
end Go.Proofs.Ytcnfmphokobgiaa
