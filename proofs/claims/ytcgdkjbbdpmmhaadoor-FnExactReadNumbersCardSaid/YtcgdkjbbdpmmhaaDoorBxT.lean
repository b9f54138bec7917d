/- The box of a walk over a text, and what is cut of texts. -/
import Derived.Test.YtcgdkjbbdpmmhaaDoorRgS
import Derived.Lib.IndexBytes
namespace Go.Proofs.YtcgdkjbbdpmmhaaDoor
open Go.RowKit Go.ChangeShapes Go.WideShapes

theorem bs_eq' (s : ByteArray) : bsOf s.data.toList = s := by
  apply ByteArray.ext
  simp [bsOf]
theorem extract_zero (s : ByteArray) (b : Nat) : s.extract 0 b = bsOf (s.data.toList.take b) := by
  rw [← bs_eq' (s.extract 0 b), Lib.extract_data, List.drop_zero, Nat.sub_zero]
theorem extract_end (s : ByteArray) (a : Nat) : (s.extract a s.size).data.toList = s.data.toList.drop a := by
  rw [Lib.extract_data, List.take_of_length_le (by rw [List.length_drop, Array.length_toList]; exact Nat.le_refl _)]
/-- How much is left in the walk's box. -/
def boxLen (c : Nat) (W : World) : Nat := match W.cell? ⟨c, 0, none⟩ with | some (.string r) => r.size | _ => 0
theorem boxLen_eq {c : Nat} {W : World} {r : ByteArray} (h : W.cell? ⟨c, 0, none⟩ = some (.string r)) : boxLen c W = r.size := by unfold boxLen; rw [h]
/-- The walk's box. -/
def BoxT (c : Nat) (r : ByteArray) (W : World) : Prop := W.cell? ⟨c, 0, none⟩ = some (.string r) ∧ W.frozen? ⟨c, 0, none⟩ = false
theorem BoxT.put {c : Nat} {r : ByteArray} {W : World} (h : BoxT c r W) (x : ByteArray) : BoxT c x (W.setCell ⟨c, 0, none⟩ (.string x)) :=
  ⟨World.cell?_setCell_same _ _ _ h.1, by rw [World.frozen?_setCell]; exact h.2⟩
theorem BoxT.but {c : Nat} {r : ByteArray} {W W' : World} {S : Nat → Prop} (h : BoxT c r W) (hb : But S W W') (hs : ¬ S c) : BoxT c r W' := ⟨hb.cell h.1 hs, hb.free h.1 h.2 hs⟩
theorem BoxT.drew {c : Nat} {r : ByteArray} {W : World} (h : BoxT c r W) (n : Nat) : BoxT c r (W.drewN n) := h
end Go.Proofs.YtcgdkjbbdpmmhaaDoor
