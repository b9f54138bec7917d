/- Lists that grow by append, of the call's own. -/
import Derived.Test.YtfingpllakbpnaaDoorArr
import Derived.Laws.AppendOwn
namespace Go.Proofs.YtfingpllakbpnaaDoor
open Go.RowKit Go.ChangeShapes Go.WideShapes

section
variable {α : Type} {mk : α → Value} {d : α}
/-- v is nil and Z empty, or v is a row, in a block from B on, that begins with Z and may be appended to. -/
def Grows (mk : α → Value) (E : TypeId) (B : Nat) (v : Value) (Z : List α) (w : World) : Prop := w.ownsRow B E 1 v Z.length (Z.map mk)
theorem Grows.drewN {E B : Nat} {v : Value} {Z : List α} {w : World} (h : Grows mk E B v Z w) (n : Nat) : Grows mk E B v Z (w.drewN n) := h
theorem Grows.alloc {E B : Nat} {v : Value} {Z : List α} {w : World} (h : Grows mk E B v Z w) (o : Obj) : (w.alloc o).ownsRow B E 1 v Z.length (Z.map mk) := World.ownsRow.alloc h o
theorem Grows.nil (mk : α → Value) (E B : Nat) (w : World) : Grows mk E B (.slice none 0 0) [] w := World.ownsRow_nil w B E 1
theorem Grows.empty (mk : α → Value) (E B : Nat) (w : World) (h : B ≤ w.heap.size) : Grows mk E B (.slice (some ⟨w.heap.size, 0, none⟩) 0 0) [] (w.alloc (.cells #[] E)) := World.ownsRow_made w #[] 0 h (Nat.zero_le _) rfl
theorem Grows.more {E B m : Nat} {v : Value} {Z news : List α} {w : World} (hm : news.length = m) (h : w.ownsRow B E 1 v (Z.length + m) (Z.map mk ++ news.map mk)) : Grows mk E B v (Z ++ news) w := by
  unfold Grows
  rw [List.length_append, List.map_append, hm]
  exact h
theorem Grows.si {E B : Nat} {v : Value} {Z : List α} {w : World} (h : Grows mk E B v Z w) : SI mk d B w.heap.size w v Z := by
  have h0 := h
  refine ⟨Nat.le_refl _, ?_⟩
  rcases h.2 with ⟨hv, hn⟩ | ⟨g, cap, cur, rfl, hb, hg, hn, hc, hs, ht⟩
  · exact Or.inl ⟨List.eq_nil_of_length_eq_zero hn, none, 0, by rw [hv]⟩
  · by_cases hz : Z.length = 0
    · have : Z = [] := List.eq_nil_of_length_eq_zero hz
      subst this
      exact Or.inl ⟨rfl, _, _, rfl⟩
    · refine Or.inr ⟨g, 0, cap - Z.length, by rw [Nat.add_sub_cancel' hn], by omega, hb, (Array.getElem?_eq_some_iff.1 hg).1, fun i => ?_, fun i hi => ?_⟩
      · simp [World.frozen?, hg]
      · rw [Nat.zero_add]
        simp only [World.cell?, hg]
        have h1 : (cur.toList.take (Z.length * 1))[i]? = (Z.map mk)[i]? := by rw [ht]
        rw [List.getElem?_take, if_pos (by omega)] at h1
        simp only [Option.isSome_none, Bool.false_eq_true, if_false]
        rw [← Array.getElem?_toList, h1]
        simp [List.getD, hi]
theorem Grows.block {E B : Nat} {v : Value} {Z : List α} {w : World} (h : Grows mk E B v Z w) : ∀ k, v.ownBlock = some k → B ≤ k := fun k hk => (World.ownsRow.lt h k hk).1
theorem one_new {w : World} {o : Value} {T : TypeId} : ∀ j u, [o][j]? = some u → (w.alloc (.cells #[o] T)).cell? ((⟨w.heap.size, 0, none⟩ : Addr).add j) = some u := by
  intro j u hu
  cases j with
  | zero =>
    simp at hu
    subst hu
    exact World.cell?_alloc_new _ _ _ _
  | succ j => simp at hu
end
end Go.Proofs.YtfingpllakbpnaaDoor
