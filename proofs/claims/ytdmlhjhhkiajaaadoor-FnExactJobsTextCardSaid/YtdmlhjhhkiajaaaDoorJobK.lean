/- Lists of jobs as they come in. -/
import Derived.Test.YtdmlhjhhkiajaaaDoorJobS
import Derived.Test.YtdmlhjhhkiajaaaDoorIl
namespace Go.Proofs.YtdmlhjhhkiajaaaDoor
open Go.RowKit Go.ChangeShapes Go.WideShapes

def FitA (Z : List Ac) : Prop := Z.length ≤ maxLen ∧ ∀ a ∈ Z, a.ok
structure OKA (Z : List Ac) : Prop where
  size : Z.length ≤ 1048576
  fit : FitA Z
set_option maxRecDepth 100000 in
theorem open_jobs {H : Type} {enc : TypeId × Value → H} {w : World} {v : Value} {d : DataW H} {ps : List MemPlace} {b0 : Nat}
    (hval : Value.okWide Tryd.prog w .any b0 46 v) (hd : DataW.Trod enc Tryd.prog w 0 (fun _ => true) true 46 v d ps) : ∃ Z : List Ac, AV w v Z ∧ FitA Z := by
  obtain ⟨a0, len, cap, rfl⟩ := okWide_slice Tryd.underlying46 hval
  obtain ⟨fuel, hf⟩ := hd
  obtain ⟨Z, hZ, lZ, fZ⟩ := open_av hf
  exact ⟨Z, hZ, lZ, fZ⟩
theorem szA_yes (v : Value) (Z : List Ac) (m : Int) (w : World) (hv : AV w v Z) (hm : (Z.length : Int) ≤ m) (hb : m ≤ 1048576) :
    Calls Tryd.prog 38 #[v, .int .i64 m] w fun e w' => e = .returned (.int .i64 (m - Z.length)) ∧ Below w.heap.size w w' :=
  (szJobS_yes v Z.length m w hv.long hm hb).mono fun _ _ ⟨h1, h2⟩ => ⟨h1, by rw [← h2]; exact Below.refl _ _⟩
theorem szA_no (v : Value) (Z : List Ac) (m : Int) (w : World) (hv : AV w v Z) (hm : m < (Z.length : Int)) (h0 : 0 ≤ m) (hb : m ≤ 1048576) (hn : Z.length ≤ maxLen) :
    Calls Tryd.prog 38 #[v, .int .i64 m] w fun e w' => e = .returned (.int .i64 (-1)) ∧ Below w.heap.size w w' :=
  (szJobS_no v Z.length m w hv.long hm h0 hb hn).mono fun _ _ ⟨h1, h2⟩ => ⟨h1, by rw [← h2]; exact Below.refl _ _⟩
end Go.Proofs.YtdmlhjhhkiajaaaDoor
