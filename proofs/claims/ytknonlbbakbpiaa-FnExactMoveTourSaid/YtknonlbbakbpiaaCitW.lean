/- Ways between cities: the program's side. -/
import Derived.Test.YtknonlbbakbpiaaCitS
import Derived.Test.YtknonlbbakbpiaaRowA
import Derived.Deep.LoopGhost
import Derived.BigRegion
import Derived.Deep.RegionWith
import Derived.Deep.RegionHeld3
namespace Go.Proofs.Ytknonlbbakbpiaa
open Go.RowKit Go.ChangeShapes Go.WideShapes

set_option maxHeartbeats 4000000 in
theorem way_any (k : Nat) (v pv : Value) (L P : List Int) (i j : Nat) (w : World) (hv : IL w v L) (hp : IL w pv P) (hk : k ≤ 10) (hsq : k * k = L.length) (hpl : P.length = k) (hi : i < k) (hj : j < k)
    (hL : 0 ≤ atW L k i j ∧ atW L k i j ≤ 1000) (hP : ∀ a, a < k → -1000000 ≤ P.getD a 0 ∧ P.getD a 0 ≤ 1000000) :
    Calls Try.prog 191 #[.agg #[.int .i64 k, v, pv], .int .i64 i, .int .i64 j] w (SaysI (atW L k i j + P.getD i 0 + P.getD j 0) w) := by
  rcases hv with ⟨hz, -⟩ | ⟨b, off, cap, rfl, hpos, hbl, hcell⟩
  · exfalso
    rw [hz] at hsq
    have := at_lt hi hj
    simp at hsq
    omega
  rcases hp with ⟨hz, -⟩ | ⟨b2, off2, cap2, rfl, hpos2, hbl2, hcell2⟩
  · rw [hz] at hpl; simp at hpl; omega
  obtain ⟨m, hm, p1, p2, p3, p4, p5, p6, p7⟩ := place_facts hi hj hk hsq
  obtain ⟨x, hx⟩ : ∃ x, x = atW L k i j := ⟨_, rfl⟩
  obtain ⟨p, hpp⟩ : ∃ p, p = P.getD i 0 := ⟨_, rfl⟩
  obtain ⟨q, hqq⟩ : ∃ q, q = P.getD j 0 := ⟨_, rfl⟩
  have X : Hid (∀ o, (w.alloc o).cell? ⟨b, off + (m + j), none⟩ = some (.int .i64 x)) := Lib.hid fun o => by
    rw [(below_alloc w o).cell (p := ⟨b, off + (m + j), none⟩) hbl, hx]
    unfold atW
    rw [← hm]
    exact hcell _ p1
  have Y : Hid (∀ o, (w.alloc o).cell? ⟨b2, off2 + i, none⟩ = some (.int .i64 p)) := Lib.hid fun o => by
    rw [(below_alloc w o).cell (p := ⟨b2, off2 + i, none⟩) hbl2, hpp]
    exact hcell2 _ (by omega)
  have Z : Hid (∀ o, (w.alloc o).cell? ⟨b2, off2 + j, none⟩ = some (.int .i64 q)) := Lib.hid fun o => by
    rw [(below_alloc w o).cell (p := ⟨b2, off2 + j, none⟩) hbl2, hqq]
    exact hcell2 _ (by omega)
  have hb1 := hP i hi
  have hb2 := hP j hj
  rw [← hpp] at hb1
  rw [← hqq] at hb2
  rw [← hx] at hL
  rw [← hx, ← hpp, ← hqq]
  have w1 : IntKind.i64.wrap (x + p) = x + p := IntWalk.i64_in _ (by omega)
  have w2 : IntKind.i64.wrap (x + p + q) = x + p + q := IntWalk.i64_in _ (by omega)
  have HB := Lib.hid (below_alloc w)
  have li : (i : Int) < (P.length : Int) := by omega
  have lj : (j : Int) < (P.length : Int) := by omega
  clear hx hpp hqq hcell hcell2 hpl hsq hb1 hb2 hL hP hm p1 p2 hk hi hj
  go_enter Try.func191, Try.ntmps191
  go_wp2_with fail
  have x1 := X.out (.cells #[.int .i64 k, .slice (some ⟨b, off, none⟩) L.length (L.length + cap), .slice (some ⟨b2, off2, none⟩) P.length (P.length + cap2)] 106)
  have y1 := Y.out (.cells #[.int .i64 k, .slice (some ⟨b, off, none⟩) L.length (L.length + cap), .slice (some ⟨b2, off2, none⟩) P.length (P.length + cap2)] 106)
  have z1 := Z.out (.cells #[.int .i64 k, .slice (some ⟨b, off, none⟩) L.length (L.length + cap), .slice (some ⟨b2, off2, none⟩) P.length (P.length + cap2)] 106)
  go_quiet (fail)
  go_wp2_with fail
  go_ret
  exact ⟨ret_int rfl, below_drewN (HB.out _) _⟩
end Go.Proofs.Ytknonlbbakbpiaa
