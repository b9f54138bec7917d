/- Parts of a text (plain). -/
import Derived.Test.YtcgdkjbbdpmmhaaDoorSpm0
namespace Go.Proofs.YtcgdkjbbdpmmhaaDoor
open Go

/-- Part k of a text. -/
def ptK (s : ByteArray) (k : Nat) : ByteArray := (ptY 44 s).getD k (bsOf [])
def noneS : ByteArray := ⟨#[110, 111, 110, 101]⟩
theorem none_iff (s : ByteArray) : s.toList = [110, 111, 110, 101] ↔ s = noneS := by
  rw [ByteArray.toList_eq]
  exact ⟨fun h => ByteArray.ext (Array.toList_inj.1 h), fun h => by rw [h]; rfl⟩
end Go.Proofs.YtcgdkjbbdpmmhaaDoor
