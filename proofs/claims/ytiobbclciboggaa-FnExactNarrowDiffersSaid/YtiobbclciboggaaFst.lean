/- The first choice that was found, where a pointer points to. -/
import Derived.Test.YtiobbclciboggaaEx0
import Derived.Test.YtiobbclciboggaaEx1
import Derived.Test.YtiobbclciboggaaLiI
namespace Go.Proofs.Ytiobbclciboggaa
open Go.RowKit Go.ChangeShapes Go.WideShapes

/-- The first choice that was found, where a pointer points to. -/
structure Fst (p : Nat) (fv : Value) (F : List Int) (w : World) : Prop where
  cell : w.cell? ⟨p, 0, none⟩ = some fv
  free : w.frozen? ⟨p, 0, none⟩ = false
  il : II (p + 1) w.heap.size w fv F
theorem But.ii {p : Nat} {w w' : World} (hb : But (fun k => k = p) w w') {v : Value} {Z : List Int} (h : II (p + 1) w.heap.size w v Z) : II (p + 1) w'.heap.size w' v Z :=
  SI.wide (SI.kept h (⟨hb.os, hb.tape, hb.output, hb.size, fun k hk hl => hb.block k hk (by omega)⟩ : Turned p (p + 1) w w') (Or.inr (Nat.le_refl _))) (Nat.le_refl _) hb.size (Nat.le_refl _)
theorem Fst.below {p : Nat} {fv : Value} {F : List Int} {w w' : World} (h : Fst p fv F w) (hb : Below w.heap.size w w') : Fst p fv F w' :=
  ⟨keep_cell h.cell hb (cell_block h.cell), by rw [hb.frozen (p := ⟨p, 0, none⟩) (cell_block h.cell)]; exact h.free, SI.wide (SI.below h.il hb (Nat.le_refl _)) (Nat.le_refl _) hb.size (Nat.le_refl _)⟩
theorem Fst.put {p : Nat} {fv fv' : Value} {F F' : List Int} {w : World} (h : Fst p fv F w) (hi : II (p + 1) w.heap.size w fv' F') : Fst p fv' F' (w.setCell ⟨p, 0, none⟩ fv') := by
  have hs : (w.setCell ⟨p, 0, none⟩ fv').heap.size = w.heap.size := by simp [World.setCell]
  exact ⟨World.cell?_setCell_same _ _ _ h.cell, by rw [World.frozen?_setCell]; exact h.free, by rw [hs]; exact SI.set hi (Or.inl (by show p < p + 1; omega)) _⟩
theorem But.below {S : Nat → Prop} {w w' : World} (h : Below w.heap.size w w') : But S w w' := ⟨h.os, h.tape, h.output, h.size, fun k hk _ => h.block k hk⟩
theorem But.then {S : Nat → Prop} {a b c : World} (h : But S a b) (k : But S b c) : But S a c :=
  ⟨k.os.trans h.os, k.tape.trans h.tape, k.output.trans h.output, Nat.le_trans h.size k.size, fun i hi hs => (k.block i (Nat.lt_of_lt_of_le hi h.size) hs).trans (h.block i hi hs)⟩
theorem But.put {p : Nat} {w w' : World} (h : But (fun k => k = p) w w') (v : Value) : But (fun k => k = p) w (w'.setCell ⟨p, 0, none⟩ v) :=
  h.then ⟨rfl, rfl, rfl, by simp [World.setCell], fun k _ hn => Below.heap_setCell _ _ _ _ hn⟩
theorem cntW_app (A B : List (List Int)) : cntW (A ++ B) = wrap64 (cntW A + cntW B) := by
  unfold cntW; rw [wrap_add, List.length_append]; simp
theorem lies_ii {lo hi : Nat} {w : World} {ad : Addr} {cap : Nat} {P : List Int} (h : II lo hi w (.slice (some ad) P.length cap) P) {W : World} (hb : Below w.heap.size w W) : LiesI W ad P := by
  intro o j u hu
  have hv := (SI.vl h).below hb (Nat.le_refl _)
  rcases IL.lies hv with ⟨_, c, e⟩ | ⟨ad', c, e, hl⟩
  · cases e
  · injection e with e _ _
    injection e with e
    subst e
    exact hl o j u hu
theorem Fst.made (w : World) (A : Obj) (fv : Value) (F : List Int) (hf : F = [] ∧ ∃ ao cap, fv = .slice ao 0 cap) : Fst (w.heap.size + 1) fv F ((w.alloc A).alloc (.cells #[fv] 24)) := by
  obtain ⟨rfl, ao, cap, rfl⟩ := hf
  have k := World.cell?_alloc_new (w.alloc A) #[.slice ao 0 cap] 24 0
  have f := World.frozen?_alloc_new (w.alloc A) #[.slice ao 0 cap] 24 0
  rw [World.size_alloc] at k f
  exact ⟨k, f, SI.nil _ (Nat.le_refl _) _ _⟩
end Go.Proofs.Ytiobbclciboggaa
