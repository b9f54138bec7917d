/- The lines of a text: the model. -/
import Derived.Test.YtcgdkjbbdpmmhaaDoorCo0
import Derived.Test.YtcgdkjbbdpmmhaaDoorCut
import Derived.Deep.LoopGhost
import Derived.Deep.QuietTactic
import Derived.BigQuiet
namespace Go.Proofs.YtcgdkjbbdpmmhaaDoor
open Go.RowKit Go.ChangeShapes Go.WideShapes

theorem Grows.strs {E B : Nat} {v : Value} {Z : List ByteArray} {w : World} (h : Grows Value.string E B v Z w) (hp : 0 < Z.length) :
    ∃ g cap, v = .slice (some ⟨g, 0, none⟩) Z.length cap ∧ Z.length ≤ cap ∧ cap ≤ maxLen ∧ ∀ i, i < Z.length → w.cell? ⟨g, i, none⟩ = some (.string (Z.getD i (bsOf []))) := by
  have hc := fun g hg => World.ownsRow.cells (g := g) h hg
  obtain ⟨-, ⟨-, h0⟩ | ⟨g, cap, cur, rfl, hB, hg, hn, hm, -, -⟩⟩ := h
  · omega
  · refine ⟨g, cap, rfl, hn, hm, fun i hi => ?_⟩
    have h1 := hc g rfl i (.string (Z.getD i (bsOf []))) (by simp [List.getD, hi])
    rw [Addr.add_lit, Nat.zero_add] at h1
    exact h1
def SaysL8 (s : ByteArray) (w : World) (e : Ending) (w' : World) : Prop := ∃ g M cap, M + 1 = (lnY s).length ∧ e = .returned (.tuple #[.slice (some ⟨g, 0, none⟩) M cap, .string (lstB (lnY s))]) ∧ (∀ i, i < M → w'.cell? ⟨g, i, none⟩ = some (.string ((lnY s).getD i (bsOf [])))) ∧ Below w.heap.size w w'
set_option maxRecDepth 100000 in
set_option maxHeartbeats 2000000 in
theorem l08Lines_any (s : ByteArray) (w : World) (hs : s.size ≤ 1048576) :
    Calls Tryd.prog 63 #[.string s] w (SaysL8 s w) := by
  have CU := Lib.hid (l01Cut_any s 10 w hs)
  have hN := lnY_pos s
  have hMl := lnY_len s
  obtain ⟨M, hM⟩ : ∃ M, M + 1 = (lnY s).length := ⟨(lnY s).length - 1, by omega⟩
  have HM := Lib.hid hM
  have hMb : M ≤ 1048577 := by omega
  have HLS : Hid ((lnY s).getD M (bsOf []) = lstB (lnY s)) := Lib.hid (by unfold lstB; rw [← hM]; rfl)
  have w1 : IntKind.i64.wrap (((M + 1 : Nat) : Int) - 1) = (M : Int) := by rw [IntKind.wrap_i64]; omega
  have w2 : IntKind.i64.wrap ((M : Int) + 1 - 1) = (M : Int) := by rw [IntKind.wrap_i64]; omega
  clear hN hMl hM hs
  go_enter Tryd.func63, Tryd.ntmps63
  go_wp2_with fail
  go_at_call 81; refine CU.out.mono ?_; rintro e w3 ⟨v, rfl, hG, b3⟩
  obtain ⟨g, cap, rfl, hn, hm, hc⟩ := Grows.strs (show Grows Value.string 9 w.heap.size v (lnY s) w3 from hG) (by have := HM.out; omega)
  rw [← HM.out] at hn hc ⊢
  have c1 := hc M (by omega)
  rw [HLS.out] at c1
  have HC := Lib.hid hc
  have B3 := Lib.hid b3
  unfold maxLen at hm
  have i1 : M < M + 1 := by omega
  have i2 : (0 : Int) ≤ (M : Int) := by omega
  have i3 : (M : Int) ≤ (cap : Int) := by omega
  clear hc b3 hG CU
  go_wp2_with fail
  go_quiet (fail)
  go_wp2_with fail
  go_ret2
  exact ⟨g, M, cap, HM.out, rfl, fun i hi => HC.out i (by omega), below_drewN B3.out _⟩
end Go.Proofs.YtcgdkjbbdpmmhaaDoor
