/- Orders that keep the most jobs on time: the program. -/
import Derived.Test.YtcnfmphokobgiaaOt0
import Derived.Test.YtcnfmphokobgiaaWth
import Derived.Test.YtcnfmphokobgiaaTwo
import Derived.Test.YtcnfmphokobgiaaConN
import Derived.Test.YtcnfmphokobgiaaDueI
import Derived.Deep.RegionWith
namespace Go.Proofs.Ytcnfmphokobgiaa
open Go.RowKit Go.ChangeShapes Go.WideShapes

theorem Grows.turn {B g : Nat} {v : Value} {Y : List Int} {w w' : World} (h : Grows (Value.int .i64) 2 B v Y w) (t : Turned g (g + 1) w w') (ne : v.ownBlock ≠ some g) : Grows (Value.int .i64) 2 B v Y w' := by
  obtain ⟨h1, h2⟩ := h
  refine ⟨h1, ?_⟩
  rcases h2 with h2 | ⟨b, cap, cur, rfl, hB, hg, hr⟩
  · exact Or.inl h2
  · have hlt := (Array.getElem?_eq_some_iff.1 hg).1
    have hne : b ≠ g := fun e => ne (by subst e; rfl)
    exact Or.inr ⟨b, cap, cur, rfl, hB, (t.block b hlt (by omega)).trans hg, hr⟩
theorem TwoAt.cut {w wr w' : World} {v1 v2 y : Value} {Y1 Y2 L : List Int} {g : Nat} (h : TwoAt w v1 v2 Y1 Y2 wr) (hy : Grows (Value.int .i64) 2 w.heap.size y L w') (hb : y.ownBlock = v1.ownBlock) (hg : v1.ownBlock = some g) (t : Turned g (g + 1) wr w') : TwoAt w y v2 L Y2 w' := by
  have hw := h.one.block g hg
  have hlt := (World.ownsRow.lt h.one g hg).2
  refine ⟨h.below.trans ((t.below (by omega)).mono hw), hy, h.two.turn t (h.apart g hg), fun q e => ?_⟩
  rw [hb] at e
  exact h.apart q e
theorem intsN_snoc (K : List Nat) (x : Nat) : intsN (K ++ [x]) = intsN K ++ [(x : Int)] := by unfold intsN; rw [List.map_append]; rfl
/-- The answers. -/
def otY (Z : List Ac) : List Nat := ordN (ltK (dueK Z)) Z.length
def otK (Z : List Ac) : List Nat := (otS Z (otY Z) Z.length).1
def otA (Z : List Ac) : List Nat := (otS Z (otY Z) Z.length).2.1
def otL (Z : List Ac) : List Int := if jobsB Z then intsN (otK Z) ++ intsN (otA Z) else []
def otI (Z : List Ac) : Int := if jobsB Z then ((otK Z).length : Int) else 0
theorem ot_no {Z : List Ac} (h : jobsB Z = false) : otL Z = [] ∧ otI Z = 0 := by unfold otL otI; rw [h]; exact ⟨rfl, rfl⟩
theorem ot_yes {Z : List Ac} (h : jobsB Z = true) : otL Z = intsN (otK Z) ++ intsN (otA Z) ∧ otI Z = ((otK Z).length : Int) := by unfold otL otI; rw [if_pos h, if_pos h]; exact ⟨rfl, rfl⟩
theorem otY_len (Z : List Ac) : (otY Z).length = Z.length := ordN_len _ _
end Go.Proofs.Ytcnfmphokobgiaa
