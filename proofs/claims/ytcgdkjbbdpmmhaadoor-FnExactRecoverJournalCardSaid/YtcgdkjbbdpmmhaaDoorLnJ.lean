/- The library's walk over the lines of a text: what it tells. -/
import Derived.Test.YtcgdkjbbdpmmhaaDoorLnI
import Derived.RegionIn
namespace Go.Proofs.YtcgdkjbbdpmmhaaDoor
open Go.RowKit Go.ChangeShapes Go.WideShapes Go.Shelf
attribute [local go_sem] Oper.semAt_some

/-- How much is left in the walk's box. -/
def boxLen (c : Nat) (W : World) : Nat := match W.cell? ⟨c, 0, none⟩ with | some (.string r) => r.size | _ => 0
theorem boxLen_eq {c : Nat} {W : World} {r : ByteArray} (h : W.cell? ⟨c, 0, none⟩ = some (.string r)) : boxLen c W = r.size := by unfold boxLen; rw [h]
/-- The walk's box. -/
def BoxT (c : Nat) (r : ByteArray) (W : World) : Prop := W.cell? ⟨c, 0, none⟩ = some (.string r) ∧ W.frozen? ⟨c, 0, none⟩ = false
theorem BoxT.put {c : Nat} {r : ByteArray} {W : World} (h : BoxT c r W) (x : ByteArray) : BoxT c x (W.setCell ⟨c, 0, none⟩ (.string x)) :=
  ⟨World.cell?_setCell_same _ _ _ h.1, by rw [World.frozen?_setCell]; exact h.2⟩
theorem BoxT.but {c : Nat} {r : ByteArray} {W W' : World} {S : Nat → Prop} (h : BoxT c r W) (hb : But S W W') (hs : ¬ S c) : BoxT c r W' := ⟨hb.cell h.1 hs, hb.free h.1 h.2 hs⟩
theorem BoxT.drew {c : Nat} {r : ByteArray} {W : World} (h : BoxT c r W) (n : Nat) : BoxT c r (W.drewN n) := h
set_option maxRecDepth 100000 in
set_option maxHeartbeats 4000000 in
theorem lines1_any (w0 : World) (n l c : Nat) (S : Nat → Prop) (J Jx : List (List UInt8) → World → Prop) (s : ByteArray) (T : TellS w0 n l c S (toldY s) J Jx)
    (W : World) (hn : n ≤ W.heap.size) (hJ : J [] W) (hX : BoxT c s W) (hs : s.size ≤ 1048576) :
    Calls Tryd.prog 66 (#[.func (.yield l) #[] #[]] ++ #[.pointer (some ⟨c, 0, none⟩)]) W (ToldS J Jx (toldY s)) := by
  have HT := Lib.hid T
  have HJ := Lib.hid hJ
  have HX := Lib.hid hX
  have HN := Lib.hid hn
  have H0 : Hid (toldY s = [] ++ lins s.data.toList) := Lib.hid rfl
  clear T hJ hX hn
  refine (callsIn_wide (n := 5)).1 ?_
  refine callsIn_of_wp Tryd.func66 rfl trivial ?_ rfl
  simp only [Tryd.ntmps66, List.size_toArray, List.length_cons, List.length_nil, Nat.reduceAdd, Nat.reduceSub, Array.replicate_succ, Array.replicate_zero, List.push_toArray, List.append_toArray, List.nil_append, List.cons_append]
  gi_wp2
  gi_loopw [3] (fun _ wr => ∃ (pre : List (List UInt8)) (r : ByteArray), toldY s = pre ++ lins r.data.toList ∧ r.size ≤ 1048576 ∧ BoxT c r wr ∧ n ≤ wr.heap.size ∧ J pre wr) (fun _ wr => boxLen c wr)
  case atStart => exact ⟨[], s, H0.out, hs, HX.out, HN.out, HJ.out⟩
  case round =>
    obtain ⟨pre, r, hY, hr, hX, hn, hJ⟩ := hrel
    have HY := Lib.hid hY
    have HX2 := Lib.hid hX
    have HJ2 := Lib.hid hJ
    have HN2 := Lib.hid hn
    obtain ⟨x0, x1⟩ := hX
    clear hY hJ hn HX HJ HN H0
    by_cases hz : r.size = 0
    · have hl : r.data.toList = [] := List.eq_nil_of_length_eq_zero (by rw [Array.length_toList]; exact hz)
      have HD : Hid (toldY s = pre) := Lib.hid (by rw [HY.out, hl, lins_nil, List.append_nil])
      have d0 : decide ((r.size : Int) > 0) = false := by rw [hz]; rfl
      have d1 : ¬ 0 < r.size := by omega
      clear hl hz
      gi_wp2
      go_end0
      exact ⟨_, rfl, Or.inl (by rw [HD.out]; exact HJ2.out)⟩
    · have d0 : decide ((r.size : Int) > 0) = true := by simp; omega
      have d1 : 0 < r.size := by omega
      have hne : r.data.toList ≠ [] := fun e => hz (by have := congrArg List.length e; rw [Array.length_toList] at this; exact this)
      have IB := Lib.hid (fun w => indexByte_any r w)
      have hge := Lib.indexByte_ge r.data.toList 10
      rcases Int.lt_or_le (Lib.indexByte r.data.toList 10) 0 with h | h
      · have h1 : Lib.indexByte r.data.toList 10 = -1 := by omega
        have IB2 := Lib.hid (fun w => h1 ▸ IB.out w)
        have HL := Lib.hid (HY.out.trans (by rw [lins_no h1 hne]))
        have HP : Hid (pre ++ [r.data.toList] <+: toldY s) := Lib.hid (by rw [HL.out]; exact List.prefix_refl _)
        have XP := Lib.hid (HX2.out.put ⟨#[]⟩)
        have YY := HT.out.yield (5 - 1) pre r.data.toList (wr.setCell ⟨c, 0, none⟩ (.string ⟨#[]⟩)) HP.out (HT.out.put _ _ _ HJ2.out)
        rw [bs_eq'] at YY
        obtain ⟨fn, tmps, assign, body, hy, hR⟩ := YY
        clear h h1 hge IB hne
        gi_wp2_with (first
          | (refine ⟨trivial, ?_⟩; gi_at_call 67; refine (callsIn_wide.2 (IB2.out _)).mono ?_; rintro e w2 ⟨rfl, rfl⟩)
          | (refine hR.mono ?_; clear hR; rintro e W2 ⟨hb2, ⟨rfl, hJ3⟩ | ⟨rfl, hx3⟩⟩))
        · go_roundw
          case rel => exact ⟨pre ++ [r.data.toList], ⟨#[]⟩, by rw [HL.out, show lins (⟨#[]⟩ : ByteArray).data.toList = [] from lins_nil, List.append_nil], by decide, XP.out.but hb2 HT.out.nc, Nat.le_trans (by simpa [World.setCell] using HN2.out) hb2.size, hJ3⟩
          case measure => rw [boxLen_eq (XP.out.but hb2 HT.out.nc).1, boxLen_eq HX2.out.1]; exact d1
        · go_end0
          exact ⟨_, rfl, Or.inr ⟨_, HP.out, by simp, hx3⟩⟩
      · obtain ⟨i, hi⟩ : ∃ i : Nat, Lib.indexByte r.data.toList 10 = (i : Int) := ⟨(Lib.indexByte r.data.toList 10).toNat, by omega⟩
        have hlt : i < r.size := by
          have := (List.getElem?_eq_some_iff.1 (Lib.indexByte_some hi).1).1
          rwa [Array.length_toList] at this
        have IB2 := Lib.hid (fun w => hi ▸ IB.out w)
        have HL := Lib.hid (HY.out.trans (by rw [lins_yes hi, ← extract_end, ← bs_list (r.data.toList.take (i + 1)), ← extract_zero]))
        have HP : Hid (pre ++ [(r.extract 0 (i + 1)).data.toList] <+: toldY s) := Lib.hid ⟨lins (r.extract (i + 1) r.size).data.toList, by rw [HL.out, List.append_assoc]; rfl⟩
        have XP := Lib.hid (HX2.out.put (r.extract (i + 1) r.size))
        have YY := HT.out.yield (5 - 1) pre (r.extract 0 (i + 1)).data.toList (wr.setCell ⟨c, 0, none⟩ (.string (r.extract (i + 1) r.size))).drew HP.out (HT.out.keep _ _ _ (HT.out.put _ _ _ HJ2.out) (below_drewN (Below.refl _ _) 1))
        rw [bs_eq'] at YY
        obtain ⟨fn, tmps, assign, body, hy, hR⟩ := YY
        have HSZ : Hid ((r.extract (i + 1) r.size).size < r.size) := Lib.hid (by rw [ByteArray.size_extract]; omega)
        have wi : IntKind.i64.wrap ((i : Int) + 1) = (i : Int) + 1 := by rw [IntKind.wrap_i64]; omega
        have i0 : (0 : Int) ≤ (i : Int) := by omega
        have i2 : (i : Int) + 1 ≤ (r.size : Int) := by omega
        have i3 : (0 : Int) ≤ (i : Int) + 1 := by omega
        have i4 : ((i : Int) + 1).toNat = i + 1 := by omega
        have i6 : i + 1 ≤ r.size := by omega
        clear h hi hge IB hne hlt
        gi_wp2_with (refine ⟨trivial, ?_⟩; gi_at_call 67; refine (callsIn_wide.2 (IB2.out _)).mono ?_; rintro e w2 ⟨rfl, rfl⟩)
        gi_region
        gi_wp2_with (refine hR.mono ?_; clear hR; rintro e W2 ⟨hb2, ⟨rfl, hJ3⟩ | ⟨rfl, hx3⟩⟩)
        · go_roundw
          case rel => exact ⟨pre ++ [(r.extract 0 (i + 1)).data.toList], r.extract (i + 1) r.size, by rw [HL.out, List.append_assoc]; rfl, by have := HSZ.out; omega, (XP.out.drew 1).but hb2 HT.out.nc, Nat.le_trans (by simpa [World.setCell] using HN2.out) hb2.size, hJ3⟩
          case measure => rw [boxLen_eq ((XP.out.drew 1).but hb2 HT.out.nc).1, boxLen_eq HX2.out.1]; exact HSZ.out
        · go_end0
          exact ⟨_, rfl, Or.inr ⟨_, HP.out, by simp, hx3⟩⟩
end Go.Proofs.YtcgdkjbbdpmmhaaDoor
