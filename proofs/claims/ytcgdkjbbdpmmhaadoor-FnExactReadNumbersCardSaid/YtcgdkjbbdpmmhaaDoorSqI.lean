/- The library's walk over the parts of a text between commas: what it tells. -/
import Derived.Test.YtcgdkjbbdpmmhaaDoorBxT
import Derived.Test.YtcgdkjbbdpmmhaaDoorSpm0
import Derived.Test.YtcgdkjbbdpmmhaaDoorIdI
import Derived.OwnWalkIn
import Derived.TacticsInMore
import Derived.LoopIn
import Derived.Lib.Hide
namespace Go.Proofs.YtcgdkjbbdpmmhaaDoor
open Go.RowKit Go.ChangeShapes Go.WideShapes Go.Shelf
attribute [local go_sem] Oper.semAt_some

theorem splitSeqF_any (s : ByteArray) (W : World) :
    Calls Tryd.prog 85 #[.string s, .string ⟨#[44]⟩] W (fun e w' => e = .returned (.func (.func 133) #[] #[.pointer (some ⟨W.heap.size + 1, 0, none⟩), .pointer (some ⟨W.heap.size, 0, none⟩), .pointer (some ⟨W.heap.size + 1 + 1, 0, none⟩)]) ∧
      w' = ((W.alloc (.cells #[.string s] 9)).alloc (.cells #[.string ⟨#[44]⟩] 9)).alloc (.cells #[.int .i64 0] 3)) := by
  have H : Calls Tryd.prog 114 #[.string s, .string ⟨#[44]⟩, .int .i64 0] W (fun e w' => e = .returned (.func (.func 133) #[] #[.pointer (some ⟨W.heap.size + 1, 0, none⟩), .pointer (some ⟨W.heap.size, 0, none⟩), .pointer (some ⟨W.heap.size + 1 + 1, 0, none⟩)]) ∧
      w' = ((W.alloc (.cells #[.string s] 9)).alloc (.cells #[.string ⟨#[44]⟩] 9)).alloc (.cells #[.int .i64 0] 3)) := by
    go_enter Tryd.func114, Tryd.ntmps114
    go_wp2_with fail
    go_ret
    exact ⟨rfl, rfl⟩
  go_enter Tryd.func85, Tryd.ntmps85
  go_wp2_with fail
  go_at_call 114; refine H.mono ?_; rintro e w2 ⟨rfl, rfl⟩
  go_wp2_with fail
  go_ret
  exact ⟨rfl, rfl⟩
/-- The walk's other boxes. -/
def SepT (c : Nat) (W : World) : Prop := W.cell? ⟨c + 1, 0, none⟩ = some (.string ⟨#[44]⟩) ∧ W.cell? ⟨c + 1 + 1, 0, none⟩ = some (.int .i64 0)
theorem SepT.but {c : Nat} {W W' : World} {S : Nat → Prop} (h : SepT c W) (hb : But S W W') (h1 : ¬ S (c + 1)) (h2 : ¬ S (c + 1 + 1)) : SepT c W' := ⟨hb.cell h.1 h1, hb.cell h.2 h2⟩
theorem SepT.put {c : Nat} {W : World} (h : SepT c W) (v : Value) : SepT c (W.setCell ⟨c, 0, none⟩ v) :=
  ⟨by rw [World.cell?_setCell_other _ _ _ _ (by intro e; injection e with e _ _; omega)]; exact h.1, by rw [World.cell?_setCell_other _ _ _ _ (by intro e; injection e with e _ _; omega)]; exact h.2⟩
set_option maxRecDepth 100000 in
set_option maxHeartbeats 4000000 in
theorem split1_any (w0 : World) (n l c : Nat) (S : Nat → Prop) (J Jx : List (List UInt8) → World → Prop) (s : ByteArray) (T : TellS w0 n l c S (spm 44 s.data.toList) J Jx) (hcn : c + 5 ≤ n)
    (W : World) (hn : n ≤ W.heap.size) (hJ : J [] W) (hX : BoxT c s W) (hP : SepT c W) (hs : s.size ≤ 1048576) :
    Calls Tryd.prog 133 (#[.func (.yield l) #[] #[]] ++ #[.pointer (some ⟨c + 1, 0, none⟩), .pointer (some ⟨c, 0, none⟩), .pointer (some ⟨c + 1 + 1, 0, none⟩)]) W (ToldS J Jx (spm 44 s.data.toList)) := by
  have HT := Lib.hid T
  have HJ := Lib.hid hJ
  have HX := Lib.hid hX
  have HP0 := Lib.hid hP
  have HN := Lib.hid hn
  have H0 : Hid (spm 44 s.data.toList = [] ++ spm 44 s.data.toList) := Lib.hid rfl
  have NB := Lib.hid (And.intro (T.nb (c + 1) (by omega) (by omega)) (T.nb (c + 1 + 1) (by omega) (by omega)))
  have hz : (⟨#[44]⟩ : ByteArray).size = 1 := rfl
  obtain ⟨p1, p2⟩ := hP
  clear T hJ hX hn hcn
  refine (callsIn_wide (n := 5)).1 ?_
  refine callsIn_of_wp Tryd.func133 rfl trivial ?_ rfl
  simp only [Tryd.ntmps133, List.size_toArray, List.length_cons, List.length_nil, Nat.reduceAdd, Nat.reduceSub, Array.replicate_succ, Array.replicate_zero, List.push_toArray, List.append_toArray, List.nil_append, List.cons_append]
  gi_wp2
  clear p1 p2
  gi_loopw [7, 8] (fun _ _ wr => ∃ (pre : List (List UInt8)) (r : ByteArray), spm 44 s.data.toList = pre ++ spm 44 r.data.toList ∧ r.size ≤ 1048576 ∧ BoxT c r wr ∧ SepT c wr ∧ n ≤ wr.heap.size ∧ J pre wr) (fun _ _ wr => boxLen c wr)
  case atStart => exact ⟨[], s, H0.out, hs, HX.out, HP0.out, HN.out, HJ.out⟩
  case round =>
    obtain ⟨pre, r, hY, hr, hX, hP, hn, hJ⟩ := hrel
    have HY := Lib.hid hY
    have HX2 := Lib.hid hX
    have HP2 := Lib.hid hP
    have HJ2 := Lib.hid hJ
    have HN2 := Lib.hid hn
    obtain ⟨x0, x1⟩ := hX
    obtain ⟨p1, p2⟩ := hP
    clear hY hJ hn HX HJ HN H0 HP0
    have IB := Lib.hid (fun w => (Any.strings_Index_one Tryd.lays143 r 44 w).mono (fun e w' (h : _ ∧ w' = w) => (⟨h.1, h.2.symm⟩ : _ ∧ w = w')))
    have hge := Lib.indexByte_ge r.data.toList 44
    rcases Int.lt_or_le (Lib.indexByte r.data.toList 44) 0 with h | h
    · have h1 : Lib.indexByte r.data.toList 44 = -1 := by omega
      have IB2 := Lib.hid (fun w => h1 ▸ IB.out w)
      have HL := Lib.hid (HY.out.trans (by rw [spm_no h1]))
      have HP : Hid (pre ++ [r.data.toList] <+: spm 44 s.data.toList) := Lib.hid (by rw [HL.out]; exact List.prefix_refl _)
      have YY := HT.out.yield (5 - 1) pre r.data.toList wr HP.out HJ2.out
      rw [bs_eq'] at YY
      obtain ⟨fn, tmps, assign, body, hy, hR⟩ := YY
      clear h h1 hge IB
      gi_wp2_with (first
        | (refine ⟨trivial, ?_⟩; gi_at_call 113; refine (callsIn_wide.2 (IB2.out _)).mono ?_; rintro e w2 ⟨rfl, rfl⟩)
        | (refine hR.mono ?_; clear hR; rintro e W2 ⟨hb2, ⟨rfl, hJ3⟩ | ⟨rfl, hx3⟩⟩))
      · go_end0
        exact ⟨_, rfl, Or.inl (by rw [HL.out]; exact hJ3)⟩
      · go_end0
        exact ⟨_, rfl, Or.inr ⟨_, HP.out, by simp, hx3⟩⟩
    · obtain ⟨i, hi⟩ : ∃ i : Nat, Lib.indexByte r.data.toList 44 = (i : Int) := ⟨(Lib.indexByte r.data.toList 44).toNat, by omega⟩
      have hlt : i < r.size := by
        have := (List.getElem?_eq_some_iff.1 (Lib.indexByte_some hi).1).1
        rwa [Array.length_toList] at this
      have IB2 := Lib.hid (fun w => hi ▸ IB.out w)
      have HL := Lib.hid (HY.out.trans (by rw [spm_yes hi, ← extract_end, ← bs_list (r.data.toList.take i), ← extract_zero]))
      have HP : Hid (pre ++ [(r.extract 0 i).data.toList] <+: spm 44 s.data.toList) := Lib.hid ⟨spm 44 (r.extract (i + 1) r.size).data.toList, by rw [HL.out, List.append_assoc]; rfl⟩
      have YY := HT.out.yield (5 - 1) pre (r.extract 0 i).data.toList wr HP.out HJ2.out
      rw [bs_eq'] at YY
      obtain ⟨fn, tmps, assign, body, hy, hR⟩ := YY
      have HSZ : Hid ((r.extract (i + 1) r.size).size < r.size) := Lib.hid (by rw [ByteArray.size_extract]; omega)
      have wi : IntKind.i64.wrap ((i : Int) + 1) = (i : Int) + 1 := by rw [IntKind.wrap_i64]; omega
      have w0 : IntKind.i64.wrap (i : Int) = (i : Int) := by rw [IntKind.wrap_i64]; omega
      have i0 : (0 : Int) ≤ (i : Int) := by omega
      have i1 : (i : Int) ≤ (r.size : Int) := by omega
      have i2 : (i : Int) + 1 ≤ (r.size : Int) := by omega
      have i3 : (0 : Int) ≤ (i : Int) + 1 := by omega
      have i4 : ((i : Int) + 1).toNat = i + 1 := by omega
      have i5 : i ≤ r.size := by omega
      have i6 : i + 1 ≤ r.size := by omega
      clear h hi hge IB hlt
      gi_wp2_with (first
        | (refine ⟨trivial, ?_⟩; gi_at_call 113; refine (callsIn_wide.2 (IB2.out _)).mono ?_; rintro e w2 ⟨rfl, rfl⟩)
        | (refine hR.mono ?_; clear hR; rintro e W2 ⟨hb2, ⟨rfl, hJ3⟩ | ⟨rfl, hx3⟩⟩; have X3 := Lib.hid (HX2.out.but hb2 HT.out.nc); have P3 := Lib.hid (HP2.out.but hb2 NB.out.1 NB.out.2); have y0 := X3.out.1; have y1 := X3.out.2; have q1 := P3.out.1; have q2 := P3.out.2; have HB3 := Lib.hid hb2.size; clear hb2))
      · go_roundw
        case rel => exact ⟨pre ++ [(r.extract 0 i).data.toList], r.extract (i + 1) r.size, by rw [HL.out, List.append_assoc]; rfl, by have := HSZ.out; omega, X3.out.put _, P3.out.put _, Nat.le_trans HN2.out (by simpa [World.setCell] using HB3.out), HT.out.put _ _ _ hJ3⟩
        case measure => rw [boxLen_eq (X3.out.put _).1, boxLen_eq HX2.out.1]; exact HSZ.out
      · go_end0
        exact ⟨_, rfl, Or.inr ⟨_, HP.out, by simp, hx3⟩⟩
end Go.Proofs.YtcgdkjbbdpmmhaaDoor
