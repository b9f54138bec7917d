/- Lists of integers that are joined to nil. -/
import Derived.Test.YtnakpfbeeekmiaaConI
import Derived.Laws.OwnMore
import Derived.Tactics
namespace Go.Proofs.Ytnakpfbeeekmiaa
open Go.RowKit Go.ChangeShapes Go.WideShapes

/-- Nothing is put behind a list of the call's own: the source is nil, of whatever capacity. -/
theorem run_append_nilc {P : Program} {w : World} (base : Nat) (t ty e : TypeId) (i : TypeInfo) (size c : Nat) (ht : P.underlying t = some (.slice e)) (hi : P.info? e = some i)
    (v : Value) (n : Nat) (xs : List Value) (hown : w.ownsRow base e size v n xs) : (Builtin.append_ #[t, t] ty #[v, .slice none 0 c]).run P w = .ok v w := by
  rcases hown.2 with ⟨rfl, rfl⟩ | ⟨g, cap, cur, rfl, _, _, hnc, _⟩
  · simp [Builtin.append_, run_underlying ht, sizeOf, typeInfo, hi, Builtin.lenOf, Builtin.firstCells]
  · simp [Builtin.append_, run_underlying ht, sizeOf, typeInfo, hi, Builtin.lenOf, Builtin.firstCells, hnc, storeCells]
theorem wpList_append_nilc {P : Program} {w : World} {ops : Array Oper} {rest : List Oper} {o : Oper} {a : Act} {Q : Exit → Act → World → Prop} (hgd : o.guard = none) (s x : Operand) (t : TypeId)
    (ho : o.op = .call { callee := .builtin .append, args := #[s, x], argTypes := #[t, t] })
    (base : Nat) (e : TypeId) (i : TypeInfo) (size c : Nat) (ht : P.underlying t = some (.slice e)) (hi : P.info? e = some i)
    (v : Value) (n : Nat) (xs : List Value) (hs : a.eval s = v) (hown : w.ownsRow base e size v n xs) (hx : a.eval x = .slice none 0 c)
    (h : wpList P ops Q rest (a.put o.dst v) w) : wpList P ops Q (o :: rest) a w := by
  refine wpList_plain hgd fun K hK => ?_
  have hrun := run_append_nilc (P := P) (w := w) base t o.type e i size c ht hi v n xs hown
  unfold Oper.wp
  simp [execOp, ho, resolve, invoke, builtin, hs, hx, hrun, Result.andThen]
  exact hK _ _ h
def partZ (Z : List Int) : Nat → List Int
  | 0 => []
  | 1 => []
  | _ + 2 => Z
def sizeZ (Z : List Int) : Nat → Nat
  | 0 => 0
  | 1 => 0
  | _ + 2 => Z.length
set_option maxRecDepth 100000 in
set_option maxHeartbeats 4000000 in
theorem concatZ_any (g c0 : Nat) (ad2 : Addr) (cap2 : Nat) (Z : List Int) (w : World) (h : Box2 w g (.slice none 0 c0) (.slice (some ad2) Z.length cap2)) (hZ : LiesC w ad2 Z) (nZ : Z.length ≤ 524288) (hp : 0 < Z.length) :
    Calls Try.prog 102 #[.slice (some ⟨g, 0, none⟩) 2 2] w (Made (Value.int .i64) (0 : Int) Z w) := by
  obtain ⟨i0, hi, hz0, hz1, hz2⟩ := info_parts Try.infoI
  have L2 := Lib.hid hZ
  have HX := Lib.hid h
  have hg := cell_block h.c0
  clear h hZ
  go_enter Try.func102, Try.ntmps102
  go_wp2_with fail
  go_loopg [3, 11] 2 (fun gk sz i wr => ∃ k : Nat, k ≤ 2 ∧ gk + k = 2 ∧ i = .int .i64 k ∧ sz = .int .i64 (sizeZ Z k) ∧ w = wr)
  case atStart => exact ⟨0, by omega, by omega, rfl, rfl, rfl⟩
  case round =>
    obtain ⟨k, hk, hgk, rfl, rfl, rfl⟩ := hrel
    obtain ⟨c0', c1⟩ := HX.out
    match k, hk with
    | 0, _ =>
      simp only [sizeZ]
      go_wp2_with fail
      go_roundg (gk - 1)
      case measure => omega
      case rel => exact ⟨1, by omega, by omega, rfl, by simp [sizeZ], rfl⟩
    | 1, _ =>
      have w1 : IntKind.i64.wrap (Z.length : Int) = (Z.length : Int) := by rw [IntKind.wrap_i64]; omega
      have w2 : ¬ ((Z.length : Int) < 0) := by omega
      simp only [sizeZ]
      go_wp2_with fail
      go_roundg (gk - 1)
      case measure => omega
      case rel => exact ⟨2, by omega, by omega, rfl, by simp [sizeZ], rfl⟩
    | 2, _ =>
      simp only [sizeZ]
      go_wp2_with fail
      go_at_call 124; refine (growI_is _ Z.length _ (by simp) hp (by omega)).mono ?_; rintro e W ⟨g1, gc1, rfl, hG1, hB1⟩
      have HG1 := Lib.hid hG1
      have HB1 := Lib.hid hB1
      clear hG1 hB1
      go_wp2_with fail
      go_loopg [6, 27] 2 (fun gk vo i wo => ∃ k : Nat, k ≤ 2 ∧ gk + k = 2 ∧ i = .int .i64 k ∧ Grows (Value.int .i64) 2 w.heap.size vo (partZ Z k) wo ∧ Below w.heap.size w wo)
      case atStart => exact ⟨0, by omega, by omega, rfl, HG1.out, HB1.out⟩
      case round =>
        obtain ⟨k, hk, hgk, rfl, hG, hB⟩ := hrel
        have HGR := Lib.hid hG
        have HBR := Lib.hid hB
        obtain ⟨c0', c1⟩ := HX.out.keep hB hg
        clear hG hB
        match k, hk with
        | 0, _ =>
          go_wp2_with (at_builtin; refine wpList_append_nilc rfl _ _ 25 rfl w.heap.size 2 i0 1 c0 Try.underlying25 hi _ _ _ rfl HGR.out rfl ?_)
          go_roundg (gk - 1)
          case measure => omega
          case rel => exact ⟨1, by omega, by omega, rfl, HGR.out, HBR.out⟩
        | 1, _ =>
          go_wp2_with (at_builtin; refine wpList_append_own _ rfl _ _ 25 rfl w.heap.size 2 i0 (.int .i64 0) 1 8 Try.underlying25 hi hz0 hz1 hz2 rfl (by decide) _ _ _ rfl HGR.out ad2 Z.length cap2 (Z.map (Value.int .i64)) rfl (by simp) (L2.out _ HBR.out) (map_oneI Z) (by simp [partZ]; unfold maxLen; omega) (by simp [partZ]; omega) HBR.out.size ?_; intro v2 W2 hown2 hgrow2 _; have HN := Lib.hid (show Grows (Value.int .i64) 2 w.heap.size v2 (partZ Z 2) W2 from Grows.more (Z := partZ Z 1) (news := Z) (m := Z.length) rfl hown2); have HB2 := Lib.hid (HBR.out.grown hgrow2 HBR.out.size (fun q hq => HGR.out.block q hq)); clear hown2 hgrow2)
          go_roundg (gk - 1)
          case measure => omega
          case rel => exact ⟨2, by omega, by omega, rfl, HN.out, HB2.out⟩
        | 2, _ =>
          go_wp2_with fail
          refine bodyPost_ret (results_tmp rfl _ _ _) rfl ?_
          exact ⟨_, rfl, HGR.out.si, HBR.out⟩
end Go.Proofs.Ytnakpfbeeekmiaa
