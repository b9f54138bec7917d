/- Four boxes of a call's own. -/
import Derived.Test.YtcgdkjbbdpmmhaaDoorSqI
import Derived.Test.YtcgdkjbbdpmmhaaDoorCnI
import Derived.Test.YtcgdkjbbdpmmhaaDoorOwn
namespace Go.Proofs.YtcgdkjbbdpmmhaaDoor
open Go.RowKit Go.ChangeShapes Go.WideShapes Go.Shelf

/-- Four boxes of the call's own. -/
structure Rs4 (w : World) (g : Nat) (u v x y : Value) (X : World) : Prop where
  c1 : X.cell? ⟨g, 0, none⟩ = some u
  c2 : X.cell? ⟨g + 1, 0, none⟩ = some v
  c3 : X.cell? ⟨g + 1 + 1, 0, none⟩ = some x
  c4 : X.cell? ⟨g + 1 + 1 + 1, 0, none⟩ = some y
  f1 : X.frozen? ⟨g, 0, none⟩ = false
  f2 : X.frozen? ⟨g + 1, 0, none⟩ = false
  f3 : X.frozen? ⟨g + 1 + 1, 0, none⟩ = false
  f4 : X.frozen? ⟨g + 1 + 1 + 1, 0, none⟩ = false
  below : Below w.heap.size w X
theorem Rs4.but {w : World} {g : Nat} {u v x y : Value} {X X' : World} (h : Rs4 w g u v x y X) {S : Nat → Prop} (hb : But S X X') (h1 : ¬ S g) (h2 : ¬ S (g + 1)) (h3 : ¬ S (g + 1 + 1)) (h4 : ¬ S (g + 1 + 1 + 1)) (hs : ∀ k, S k → w.heap.size ≤ k) : Rs4 w g u v x y X' :=
  ⟨hb.cell h.c1 h1, hb.cell h.c2 h2, hb.cell h.c3 h3, hb.cell h.c4 h4, hb.free h.c1 h.f1 h1, hb.free h.c2 h.f2 h2, hb.free h.c3 h.f3 h3, hb.free h.c4 h.f4 h4, h.below.trans (hb.low h.below.size hs)⟩
theorem Rs4.low {w : World} {g B : Nat} {u v x y : Value} {X X' : World} (h : Rs4 w g u v x y X) (hb : Below B X X') (hB : g + 4 ≤ B) (hw : w.heap.size ≤ B) : Rs4 w g u v x y X' :=
  ⟨keep_cell h.c1 hb (by omega), keep_cell h.c2 hb (by omega), keep_cell h.c3 hb (by omega), keep_cell h.c4 hb (by omega), by rw [hb.frozen (p := ⟨g, 0, none⟩) (by show g < _; omega)]; exact h.f1, by rw [hb.frozen (p := ⟨g + 1, 0, none⟩) (by show g + 1 < _; omega)]; exact h.f2, by rw [hb.frozen (p := ⟨g + 1 + 1, 0, none⟩) (by show g + 1 + 1 < _; omega)]; exact h.f3, by rw [hb.frozen (p := ⟨g + 1 + 1 + 1, 0, none⟩) (by show g + 1 + 1 + 1 < _; omega)]; exact h.f4, h.below.trans (hb.mono hw)⟩
theorem Rs4.keep {w : World} {g : Nat} {u v x y : Value} {X X' : World} (h : Rs4 w g u v x y X) (hb : Below X.heap.size X X') : Rs4 w g u v x y X' := by
  have k := cell_block h.c4
  exact h.low hb (by omega) h.below.size
theorem Rs4.put4 {w : World} {g : Nat} {u v x y : Value} {X : World} (h : Rs4 w g u v x y X) (hg : w.heap.size ≤ g) (y' : Value) : Rs4 w g u v x y' (X.setCell ⟨g + 1 + 1 + 1, 0, none⟩ y') := by
  have n1 : (⟨g, 0, none⟩ : Addr) ≠ ⟨g + 1 + 1 + 1, 0, none⟩ := by intro e; injection e with e _ _; omega
  have n2 : (⟨g + 1, 0, none⟩ : Addr) ≠ ⟨g + 1 + 1 + 1, 0, none⟩ := by intro e; injection e with e _ _; omega
  have n3 : (⟨g + 1 + 1, 0, none⟩ : Addr) ≠ ⟨g + 1 + 1 + 1, 0, none⟩ := by intro e; injection e with e _ _; omega
  exact ⟨by rw [World.cell?_setCell_other _ _ _ _ (Ne.symm n1)]; exact h.c1, by rw [World.cell?_setCell_other _ _ _ _ (Ne.symm n2)]; exact h.c2, by rw [World.cell?_setCell_other _ _ _ _ (Ne.symm n3)]; exact h.c3, World.cell?_setCell_same _ _ _ h.c4,
    by rw [World.frozen?_setCell]; exact h.f1, by rw [World.frozen?_setCell]; exact h.f2, by rw [World.frozen?_setCell]; exact h.f3, by rw [World.frozen?_setCell]; exact h.f4, h.below.setCell (p := ⟨g + 1 + 1 + 1, 0, none⟩) (by show _ ≤ g + 1 + 1 + 1; omega) _⟩
theorem Rs4.put23 {w : World} {g : Nat} {u v x y : Value} {X : World} (h : Rs4 w g u v x y X) (hg : w.heap.size ≤ g) (v' x' : Value) : Rs4 w g u v' x' y ((X.setCell ⟨g + 1, 0, none⟩ v').setCell ⟨g + 1 + 1, 0, none⟩ x') := by
  have n1 : (⟨g, 0, none⟩ : Addr) ≠ ⟨g + 1, 0, none⟩ := by intro e; injection e with e _ _; omega
  have n2 : (⟨g, 0, none⟩ : Addr) ≠ ⟨g + 1 + 1, 0, none⟩ := by intro e; injection e with e _ _; omega
  have n3 : (⟨g + 1, 0, none⟩ : Addr) ≠ ⟨g + 1 + 1, 0, none⟩ := by intro e; injection e with e _ _; omega
  have n4 : (⟨g + 1 + 1 + 1, 0, none⟩ : Addr) ≠ ⟨g + 1, 0, none⟩ := by intro e; injection e with e _ _; omega
  have n5 : (⟨g + 1 + 1 + 1, 0, none⟩ : Addr) ≠ ⟨g + 1 + 1, 0, none⟩ := by intro e; injection e with e _ _; omega
  exact ⟨by rw [World.cell?_setCell_other _ _ _ _ (Ne.symm n2), World.cell?_setCell_other _ _ _ _ (Ne.symm n1)]; exact h.c1,
    by rw [World.cell?_setCell_other _ _ _ _ (Ne.symm n3)]; exact World.cell?_setCell_same _ _ _ h.c2,
    World.cell?_setCell_same _ _ _ (by rw [World.cell?_setCell_other _ _ _ _ n3]; exact h.c3),
    by rw [World.cell?_setCell_other _ _ _ _ (Ne.symm n5), World.cell?_setCell_other _ _ _ _ (Ne.symm n4)]; exact h.c4,
    by simp only [World.frozen?_setCell]; exact h.f1, by simp only [World.frozen?_setCell]; exact h.f2, by simp only [World.frozen?_setCell]; exact h.f3, by simp only [World.frozen?_setCell]; exact h.f4,
    (h.below.setCell (p := ⟨g + 1, 0, none⟩) (by show _ ≤ g + 1; omega) _).setCell (p := ⟨g + 1 + 1, 0, none⟩) (by show _ ≤ g + 1 + 1; omega) _⟩
theorem rs4_new (w : World) (u v x y : Value) (t1 t2 t3 t4 : TypeId) : Rs4 w w.heap.size u v x y ((((w.alloc (.cells #[u] t1)).alloc (.cells #[v] t2)).alloc (.cells #[x] t3)).alloc (.cells #[y] t4)) := by
  have k1 := World.cell?_alloc_new w #[u] t1 0
  have f1 := World.frozen?_alloc_new w #[u] t1 0
  obtain ⟨w1, h1⟩ : ∃ w1, w1 = w.alloc (.cells #[u] t1) := ⟨_, rfl⟩
  have z1 : w1.heap.size = w.heap.size + 1 := by rw [h1]; simp
  have b0 : Below w.heap.size w w1 := by rw [h1]; exact below_alloc _ _
  rw [← h1] at k1 f1 ⊢
  have k2 := World.cell?_alloc_new w1 #[v] t2 0
  have f2 := World.frozen?_alloc_new w1 #[v] t2 0
  obtain ⟨w2, h2⟩ : ∃ w2, w2 = w1.alloc (.cells #[v] t2) := ⟨_, rfl⟩
  have z2 : w2.heap.size = w.heap.size + 1 + 1 := by rw [h2]; simp [z1]
  have b1 : Below w1.heap.size w1 w2 := by rw [h2]; exact below_alloc _ _
  rw [← h2] at k2 f2 ⊢
  have k3 := World.cell?_alloc_new w2 #[x] t3 0
  have f3 := World.frozen?_alloc_new w2 #[x] t3 0
  obtain ⟨w3, h3⟩ : ∃ w3, w3 = w2.alloc (.cells #[x] t3) := ⟨_, rfl⟩
  have z3 : w3.heap.size = w.heap.size + 1 + 1 + 1 := by rw [h3]; simp [z2]
  have b2 : Below w2.heap.size w2 w3 := by rw [h3]; exact below_alloc _ _
  rw [← h3] at k3 f3 ⊢
  have k4 := World.cell?_alloc_new w3 #[y] t4 0
  have f4 := World.frozen?_alloc_new w3 #[y] t4 0
  have b3 : Below w3.heap.size w3 (w3.alloc (.cells #[y] t4)) := below_alloc _ _
  rw [z1] at k2 f2
  rw [z2] at k3 f3
  rw [z3] at k4 f4
  have B1 : Below w1.heap.size w1 (w3.alloc (.cells #[y] t4)) := b1.trans ((b2.mono (by omega)).trans (b3.mono (by omega)))
  have B2 : Below w2.heap.size w2 (w3.alloc (.cells #[y] t4)) := b2.trans (b3.mono (by omega))
  exact ⟨keep_cell k1 B1 (by omega), keep_cell k2 B2 (by omega), keep_cell k3 b3 (by omega), k4, by rw [B1.frozen (p := ⟨w.heap.size, 0, none⟩) (by show w.heap.size < _; omega)]; exact f1, by rw [B2.frozen (p := ⟨w.heap.size + 1, 0, none⟩) (by show w.heap.size + 1 < _; omega)]; exact f2, by rw [b3.frozen (p := ⟨w.heap.size + 1 + 1, 0, none⟩) (by show w.heap.size + 1 + 1 < _; omega)]; exact f3, f4, b0.trans (B1.mono (by omega))⟩
theorem Grows.but {α : Type} {mk : α → Value} {E B : Nat} {v : Value} {P : List α} {S : Nat → Prop} {w w' : World} (h : Grows mk E B v P w) (k : But S w w') (hS : ∀ i, S i → i < B) : Grows mk E B v P w' := by
  refine ⟨h.1, ?_⟩
  rcases h.2 with h2 | ⟨g, cap, cur, rfl, hB, hg, hr⟩
  · exact Or.inl h2
  · exact Or.inr ⟨g, cap, cur, rfl, hB, (k.block g (Array.getElem?_eq_some_iff.1 hg).1 (fun hs => by have := hS g hs; omega)).trans hg, hr⟩
theorem two_new (w : World) (o : Obj) (v x : Value) (t2 t3 : TypeId) : (((w.alloc o).alloc (.cells #[v] t2)).alloc (.cells #[x] t3)).cell? ⟨w.heap.size + 1, 0, none⟩ = some v ∧ (((w.alloc o).alloc (.cells #[v] t2)).alloc (.cells #[x] t3)).cell? ⟨w.heap.size + 1 + 1, 0, none⟩ = some x ∧ Below w.heap.size w (((w.alloc o).alloc (.cells #[v] t2)).alloc (.cells #[x] t3)) := by
  have k2 := World.cell?_alloc_new (w.alloc o) #[v] t2 0
  have k3 := World.cell?_alloc_new ((w.alloc o).alloc (.cells #[v] t2)) #[x] t3 0
  simp only [World.size_alloc] at k2 k3
  exact ⟨keep_cell k2 (below_alloc _ _) (by simp), k3, ((below_alloc w o).alloc (by simp) _).alloc (by simp; omega) _⟩
theorem countC_any (s : ByteArray) (w : World) : Calls Tryd.prog 84 #[.string s, .string ⟨#[44]⟩] w fun e w' => e = .returned (.int .i64 ((s.data.toList.count 44 : Nat) : Int)) ∧ w = w' :=
  (Any.strings_Count_one Tryd.lays138 s 44 w).mono fun _ _ ⟨he, hw⟩ => ⟨he, hw.symm⟩
end Go.Proofs.YtcgdkjbbdpmmhaaDoor
