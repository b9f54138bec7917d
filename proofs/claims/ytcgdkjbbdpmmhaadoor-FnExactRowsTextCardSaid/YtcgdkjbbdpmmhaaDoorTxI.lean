/- The texts of lists of numbers: the program. -/
import Derived.Test.YtcgdkjbbdpmmhaaDoorTx0
import Derived.Test.YtcgdkjbbdpmmhaaDoorFmJ
import Derived.Test.YtcgdkjbbdpmmhaaDoorJnI
import Derived.Test.YtcgdkjbbdpmmhaaDoorArr
import Derived.Laws.MakeOwn
import Derived.Laws.OwnMore
namespace Go.Proofs.YtcgdkjbbdpmmhaaDoor
open Go.RowKit Go.ChangeShapes Go.WideShapes Go.Shelf

theorem Tryd.extra156 : Builder.Extra Tryd.prog Tryd.lays156_ren where
  sizeBuilder := by kernel_rfl
  liesBuilder := by kernel_rfl
  t5 := Tryd.underlying5
  a5 := Tryd.isAgg5
  z5 := Tryd.sizeOf5
  v5 := Tryd.zeroValue5
  infoByte := by kernel_rfl
  cellsByte := by kernel_rfl
  sizeByte := by kernel_rfl
  neB5 := by decide
theorem join_any (g : Nat) (xs : List ByteArray) (w : World) (hA : Arr Value.string (bsOf []) w g 0 xs) (hg : g < w.heap.size) (hN : xs.length ≤ 1048576) (hlen : (Lib.join (xs.map (·.data.toList)) [44]).length ≤ 140737488355328) :
    Calls Tryd.prog 72 #[.slice (some ⟨g, 0, none⟩) xs.length xs.length, .string ⟨#[44]⟩] w (SaysS (Lib.join (xs.map (·.data.toList)) [44]) w) :=
  Any.strings_Join Tryd.lays156 Tryd.extra156 g 0 xs.length xs ⟨#[44]⟩ w (fun j x hj => by
    obtain ⟨h1, h2⟩ := getD_tail xs (bsOf []) hj
    rw [hA.cells j h1, h2]) hg (by omega) (Nat.le_refl _) hlen
theorem Arr.made_s {w : World} {n B e : Nat} (h : w.ownsRow B e 1 (.slice (some ⟨B, 0, none⟩) n n) n (madeCells (Value.string (bsOf [])).cells (n * 1)).toList) : Arr Value.string (bsOf []) w B 0 (List.replicate n (bsOf [])) := by
  refine ⟨fun i hi => ?_, h.frozenAt⟩
  rw [List.length_replicate] at hi
  rw [Nat.zero_add, h.cellAt i (by omega)]
  rcases made_one (.string (bsOf [])) n hi with h1 | h1
  · rw [h1]; simp [Value.cells, List.getD, hi]
  · exact absurd rfl h1
theorem Tryd.infoStr : (Tryd.prog.info? 9).map (fun i => (i.zero, i.size, i.bytes)) = some (some (.string (bsOf [])), 1, 16) := by kernel_rfl
/-- A list whose numbers are of 64 bits. -/
def Few64 (L : List Int) : Prop := ∀ i, i < L.length → -9223372036854775808 ≤ L.getD i 0 ∧ L.getD i 0 ≤ 9223372036854775807
end Go.Proofs.YtcgdkjbbdpmmhaaDoor
