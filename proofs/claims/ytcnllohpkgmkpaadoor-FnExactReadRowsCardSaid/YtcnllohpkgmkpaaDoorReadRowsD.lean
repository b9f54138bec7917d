/- What ReadRows needs: Rs4 Bits Fb4 HxI RnI PiI Frame FrameL FrameP FrameQ FmI DcS FmJ IvI JnI TxI RdI RrI. -/
import Derived.Test.YtcnllohpkgmkpaaDoorReadRowsC
import Derived.Test.YtcnllohpkgmkpaaDoorReadRowsA
import Derived.Test.YtcnllohpkgmkpaaDoorRows
import Derived.Test.YtcnllohpkgmkpaaDoorReadRowsB
import Derived.ProofKit
import Derived.Laws.RangeAny
import Derived.Lib.Hide
import Derived.Maps.AppendAt
import Derived.RangeFuncBox
import Derived.Shelf.SlGeneric
import Derived.Shelf.Strconv.ErrVarParseInt
import Derived.Test.YtcnllohpkgmkpaaDoorChecked
import Derived.SizedLaws
import Derived.WalkSmall
import Derived.Test.YtcnllohpkgmkpaaDoorTie
import Derived.Test.YtcnllohpkgmkpaaDoorCards
import Derived.Lib.LaidTab
import Derived.LaidMore
import Derived.OpenShut
import Derived.Stop.Joined
import Derived.Stop.LaidErr
import Derived.Lib.ItoaNum
import Derived.Shelf.Strconv.Itoa4
import Derived.Laws.IdiomStrings
import Derived.Deep.LoopGhost
import Derived.StillTailTactics
import Derived.Lib.AppendIntMem
import Derived.Deep.QuietTactic
import Derived.BigQuiet
import Derived.Shelf.Strings.OnBuilder
import Derived.Laws.MakeOwn
import Derived.Laws.OwnMore
import Derived.Lib.AtoiErrMem
import Derived.Lib.ParseIntBTie
/- Four boxes of a call's own. -/
namespace Go.Proofs.YtcnllohpkgmkpaaDoor
open Go.RowKit Go.ChangeShapes Go.WideShapes Go.Shelf

/-- Four boxes of the call's own. -/
structure Rs4 (w : World) (g : Nat) (u v x y : Value) (X : World) : Prop where
  c1 : X.cell? ⟨g, 0, none⟩ = some u
  c2 : X.cell? ⟨g + 1, 0, none⟩ = some v
  c3 : X.cell? ⟨g + 1 + 1, 0, none⟩ = some x
  c4 : X.cell? ⟨g + 1 + 1 + 1, 0, none⟩ = some y
  f1 : X.frozen? ⟨g, 0, none⟩ = false
  f2 : X.frozen? ⟨g + 1, 0, none⟩ = false
  f3 : X.frozen? ⟨g + 1 + 1, 0, none⟩ = false
  f4 : X.frozen? ⟨g + 1 + 1 + 1, 0, none⟩ = false
  below : Below w.heap.size w X
theorem Rs4.but {w : World} {g : Nat} {u v x y : Value} {X X' : World} (h : Rs4 w g u v x y X) {S : Nat → Prop} (hb : But S X X') (h1 : ¬ S g) (h2 : ¬ S (g + 1)) (h3 : ¬ S (g + 1 + 1)) (h4 : ¬ S (g + 1 + 1 + 1)) (hs : ∀ k, S k → w.heap.size ≤ k) : Rs4 w g u v x y X' :=
  ⟨hb.cell h.c1 h1, hb.cell h.c2 h2, hb.cell h.c3 h3, hb.cell h.c4 h4, hb.free h.c1 h.f1 h1, hb.free h.c2 h.f2 h2, hb.free h.c3 h.f3 h3, hb.free h.c4 h.f4 h4, h.below.trans (hb.low h.below.size hs)⟩
theorem Rs4.low {w : World} {g B : Nat} {u v x y : Value} {X X' : World} (h : Rs4 w g u v x y X) (hb : Below B X X') (hB : g + 4 ≤ B) (hw : w.heap.size ≤ B) : Rs4 w g u v x y X' :=
  ⟨keep_cell h.c1 hb (by omega), keep_cell h.c2 hb (by omega), keep_cell h.c3 hb (by omega), keep_cell h.c4 hb (by omega), by rw [hb.frozen (p := ⟨g, 0, none⟩) (by show g < _; omega)]; exact h.f1, by rw [hb.frozen (p := ⟨g + 1, 0, none⟩) (by show g + 1 < _; omega)]; exact h.f2, by rw [hb.frozen (p := ⟨g + 1 + 1, 0, none⟩) (by show g + 1 + 1 < _; omega)]; exact h.f3, by rw [hb.frozen (p := ⟨g + 1 + 1 + 1, 0, none⟩) (by show g + 1 + 1 + 1 < _; omega)]; exact h.f4, h.below.trans (hb.mono hw)⟩
theorem Rs4.keep {w : World} {g : Nat} {u v x y : Value} {X X' : World} (h : Rs4 w g u v x y X) (hb : Below X.heap.size X X') : Rs4 w g u v x y X' := by
  have k := cell_block h.c4
  exact h.low hb (by omega) h.below.size
theorem Rs4.put4 {w : World} {g : Nat} {u v x y : Value} {X : World} (h : Rs4 w g u v x y X) (hg : w.heap.size ≤ g) (y' : Value) : Rs4 w g u v x y' (X.setCell ⟨g + 1 + 1 + 1, 0, none⟩ y') := by
  have n1 : (⟨g, 0, none⟩ : Addr) ≠ ⟨g + 1 + 1 + 1, 0, none⟩ := by intro e; injection e with e _ _; omega
  have n2 : (⟨g + 1, 0, none⟩ : Addr) ≠ ⟨g + 1 + 1 + 1, 0, none⟩ := by intro e; injection e with e _ _; omega
  have n3 : (⟨g + 1 + 1, 0, none⟩ : Addr) ≠ ⟨g + 1 + 1 + 1, 0, none⟩ := by intro e; injection e with e _ _; omega
  exact ⟨by rw [World.cell?_setCell_other _ _ _ _ (Ne.symm n1)]; exact h.c1, by rw [World.cell?_setCell_other _ _ _ _ (Ne.symm n2)]; exact h.c2, by rw [World.cell?_setCell_other _ _ _ _ (Ne.symm n3)]; exact h.c3, World.cell?_setCell_same _ _ _ h.c4,
    by rw [World.frozen?_setCell]; exact h.f1, by rw [World.frozen?_setCell]; exact h.f2, by rw [World.frozen?_setCell]; exact h.f3, by rw [World.frozen?_setCell]; exact h.f4, h.below.setCell (p := ⟨g + 1 + 1 + 1, 0, none⟩) (by show _ ≤ g + 1 + 1 + 1; omega) _⟩
theorem Rs4.put23 {w : World} {g : Nat} {u v x y : Value} {X : World} (h : Rs4 w g u v x y X) (hg : w.heap.size ≤ g) (v' x' : Value) : Rs4 w g u v' x' y ((X.setCell ⟨g + 1, 0, none⟩ v').setCell ⟨g + 1 + 1, 0, none⟩ x') := by
  have n1 : (⟨g, 0, none⟩ : Addr) ≠ ⟨g + 1, 0, none⟩ := by intro e; injection e with e _ _; omega
  have n2 : (⟨g, 0, none⟩ : Addr) ≠ ⟨g + 1 + 1, 0, none⟩ := by intro e; injection e with e _ _; omega
  have n3 : (⟨g + 1, 0, none⟩ : Addr) ≠ ⟨g + 1 + 1, 0, none⟩ := by intro e; injection e with e _ _; omega
  have n4 : (⟨g + 1 + 1 + 1, 0, none⟩ : Addr) ≠ ⟨g + 1, 0, none⟩ := by intro e; injection e with e _ _; omega
  have n5 : (⟨g + 1 + 1 + 1, 0, none⟩ : Addr) ≠ ⟨g + 1 + 1, 0, none⟩ := by intro e; injection e with e _ _; omega
  exact ⟨by rw [World.cell?_setCell_other _ _ _ _ (Ne.symm n2), World.cell?_setCell_other _ _ _ _ (Ne.symm n1)]; exact h.c1,
    by rw [World.cell?_setCell_other _ _ _ _ (Ne.symm n3)]; exact World.cell?_setCell_same _ _ _ h.c2,
    World.cell?_setCell_same _ _ _ (by rw [World.cell?_setCell_other _ _ _ _ n3]; exact h.c3),
    by rw [World.cell?_setCell_other _ _ _ _ (Ne.symm n5), World.cell?_setCell_other _ _ _ _ (Ne.symm n4)]; exact h.c4,
    by simp only [World.frozen?_setCell]; exact h.f1, by simp only [World.frozen?_setCell]; exact h.f2, by simp only [World.frozen?_setCell]; exact h.f3, by simp only [World.frozen?_setCell]; exact h.f4,
    (h.below.setCell (p := ⟨g + 1, 0, none⟩) (by show _ ≤ g + 1; omega) _).setCell (p := ⟨g + 1 + 1, 0, none⟩) (by show _ ≤ g + 1 + 1; omega) _⟩
theorem rs4_new (w : World) (u v x y : Value) (t1 t2 t3 t4 : TypeId) : Rs4 w w.heap.size u v x y ((((w.alloc (.cells #[u] t1)).alloc (.cells #[v] t2)).alloc (.cells #[x] t3)).alloc (.cells #[y] t4)) := by
  have k1 := World.cell?_alloc_new w #[u] t1 0
  have f1 := World.frozen?_alloc_new w #[u] t1 0
  obtain ⟨w1, h1⟩ : ∃ w1, w1 = w.alloc (.cells #[u] t1) := ⟨_, rfl⟩
  have z1 : w1.heap.size = w.heap.size + 1 := by rw [h1]; simp
  have b0 : Below w.heap.size w w1 := by rw [h1]; exact below_alloc _ _
  rw [← h1] at k1 f1 ⊢
  have k2 := World.cell?_alloc_new w1 #[v] t2 0
  have f2 := World.frozen?_alloc_new w1 #[v] t2 0
  obtain ⟨w2, h2⟩ : ∃ w2, w2 = w1.alloc (.cells #[v] t2) := ⟨_, rfl⟩
  have z2 : w2.heap.size = w.heap.size + 1 + 1 := by rw [h2]; simp [z1]
  have b1 : Below w1.heap.size w1 w2 := by rw [h2]; exact below_alloc _ _
  rw [← h2] at k2 f2 ⊢
  have k3 := World.cell?_alloc_new w2 #[x] t3 0
  have f3 := World.frozen?_alloc_new w2 #[x] t3 0
  obtain ⟨w3, h3⟩ : ∃ w3, w3 = w2.alloc (.cells #[x] t3) := ⟨_, rfl⟩
  have z3 : w3.heap.size = w.heap.size + 1 + 1 + 1 := by rw [h3]; simp [z2]
  have b2 : Below w2.heap.size w2 w3 := by rw [h3]; exact below_alloc _ _
  rw [← h3] at k3 f3 ⊢
  have k4 := World.cell?_alloc_new w3 #[y] t4 0
  have f4 := World.frozen?_alloc_new w3 #[y] t4 0
  have b3 : Below w3.heap.size w3 (w3.alloc (.cells #[y] t4)) := below_alloc _ _
  rw [z1] at k2 f2
  rw [z2] at k3 f3
  rw [z3] at k4 f4
  have B1 : Below w1.heap.size w1 (w3.alloc (.cells #[y] t4)) := b1.trans ((b2.mono (by omega)).trans (b3.mono (by omega)))
  have B2 : Below w2.heap.size w2 (w3.alloc (.cells #[y] t4)) := b2.trans (b3.mono (by omega))
  exact ⟨keep_cell k1 B1 (by omega), keep_cell k2 B2 (by omega), keep_cell k3 b3 (by omega), k4, by rw [B1.frozen (p := ⟨w.heap.size, 0, none⟩) (by show w.heap.size < _; omega)]; exact f1, by rw [B2.frozen (p := ⟨w.heap.size + 1, 0, none⟩) (by show w.heap.size + 1 < _; omega)]; exact f2, by rw [b3.frozen (p := ⟨w.heap.size + 1 + 1, 0, none⟩) (by show w.heap.size + 1 + 1 < _; omega)]; exact f3, f4, b0.trans (B1.mono (by omega))⟩
theorem Grows.but {α : Type} {mk : α → Value} {E B : Nat} {v : Value} {P : List α} {S : Nat → Prop} {w w' : World} (h : Grows mk E B v P w) (k : But S w w') (hS : ∀ i, S i → i < B) : Grows mk E B v P w' := by
  refine ⟨h.1, ?_⟩
  rcases h.2 with h2 | ⟨g, cap, cur, rfl, hB, hg, hr⟩
  · exact Or.inl h2
  · exact Or.inr ⟨g, cap, cur, rfl, hB, (k.block g (Array.getElem?_eq_some_iff.1 hg).1 (fun hs => by have := hS g hs; omega)).trans hg, hr⟩
theorem two_new (w : World) (o : Obj) (v x : Value) (t2 t3 : TypeId) : (((w.alloc o).alloc (.cells #[v] t2)).alloc (.cells #[x] t3)).cell? ⟨w.heap.size + 1, 0, none⟩ = some v ∧ (((w.alloc o).alloc (.cells #[v] t2)).alloc (.cells #[x] t3)).cell? ⟨w.heap.size + 1 + 1, 0, none⟩ = some x ∧ Below w.heap.size w (((w.alloc o).alloc (.cells #[v] t2)).alloc (.cells #[x] t3)) := by
  have k2 := World.cell?_alloc_new (w.alloc o) #[v] t2 0
  have k3 := World.cell?_alloc_new ((w.alloc o).alloc (.cells #[v] t2)) #[x] t3 0
  simp only [World.size_alloc] at k2 k3
  exact ⟨keep_cell k2 (below_alloc _ _) (by simp), k3, ((below_alloc w o).alloc (by simp) _).alloc (by simp; omega) _⟩
theorem countC_any (s : ByteArray) (w : World) : Calls Tryd.prog 92 #[.string s, .string ⟨#[44]⟩] w fun e w' => e = .returned (.int .i64 ((s.data.toList.count 44 : Nat) : Int)) ∧ w = w' :=
  (Any.strings_Count_one Tryd.lays138 s 44 w).mono fun _ _ ⟨he, hw⟩ => ⟨he, hw.symm⟩
end Go.Proofs.YtcnllohpkgmkpaaDoor
/- The bits of a number, as both sides tell them. -/
namespace Go.Proofs.YtcnllohpkgmkpaaDoor
open Go.RowKit
attribute [local go_sem] call_f32bits

theorem neq_self_nan {x : Nat} (h : (Ieee.single.read x).isNaN = true) : (FloatKind.f32.format.order x x != some Ordering.eq) = true := by
  show (Ieee.single.order x x != some Ordering.eq) = true
  rw [(Fl.ord_nan h x).1]; rfl
theorem neq_self_num {x : Nat} (h : (Ieee.single.read x).isNaN = false) : (FloatKind.f32.format.order x x != some Ordering.eq) = false := by
  show (Ieee.single.order x x != some Ordering.eq) = false
  rw [Fl.ord_self h]; rfl


theorem specBits_any (x : Nat) (hx : x < 4294967296) (w : World) :
    Calls Tryd.prog 91 #[.float .f32 x] w fun e w' => e = .returned (.int .i64 (Fl.told x : Nat)) ∧ w = w' := by
  cases hn : (Ieee.single.read x).isNaN with
  | true =>
    have h1 := neq_self_nan hn
    rw [Fl.told_nan hn]
    clear hn
    go_enter Tryd.func91, Tryd.ntmps91
    go_wp2
    go_ret
    exact ⟨rfl, rfl⟩
  | false =>
    have h1 := neq_self_num hn
    rw [Fl.told_num hn]
    clear hn
    go_enter Tryd.func91, Tryd.ntmps91
    go_wp2
    go_ret
    exact ⟨rfl, rfl⟩

theorem implBits_any (x : Nat) (hx : x < 4294967296) (w : World) :
    Calls Tryd.prog 82 #[.float .f32 x] w fun e w' => e = .returned (.int .i64 (Fl.told x : Nat)) ∧ w = w' := by
  cases hn : (Ieee.single.read x).isNaN with
  | true =>
    have h1 := neq_self_nan hn
    rw [Fl.told_nan hn]
    clear hn
    go_enter Tryd.func82, Tryd.ntmps82
    go_wp2
    go_ret
    exact ⟨rfl, rfl⟩
  | false =>
    have h1 := neq_self_num hn
    rw [Fl.told_num hn]
    clear hn
    go_enter Tryd.func82, Tryd.ntmps82
    go_wp2
    go_ret
    exact ⟨rfl, rfl⟩
end Go.Proofs.YtcnllohpkgmkpaaDoor
/- Numbers of bits: both sides. -/
namespace Go.Proofs.YtcnllohpkgmkpaaDoor
open Go.RowKit
attribute [local go_sem] call_f32bits call_f32from

theorem implFromB_any (n : Nat) (h1 : n ≤ 4294967295) (w : World) :
    Calls Tryd.prog 95 #[.int .i64 (n : Int)] w fun e w' => e = .returned (.tuple #[.float .f32 n, .bool true]) ∧ w = w' := by
  have e : ((n : Int)).toNat = n := rfl
  have d1 : decide ((n : Int) < 0) = false := by simp
  have d2 : decide ((n : Int) > 4294967295) = false := by simp; omega
  have d3 : decide ((n : Int) ≤ 4294967295) = true := by simp; omega
  go_enter Tryd.func95, Tryd.ntmps95
  go_wp2
  go_ret2
  exact ⟨rfl, rfl⟩
theorem l01From_any (n : Nat) (h1 : n ≤ 4294967295) (w : World) :
    Calls Tryd.prog 90 #[.int .i64 (n : Int)] w fun e w' => e = .returned (.float .f32 n) ∧ w = w' := by
  have e : ((n : Int)).toNat = n := rfl
  go_enter Tryd.func90, Tryd.ntmps90
  go_wp2
  go_ret
  exact ⟨rfl, rfl⟩
end Go.Proofs.YtcnllohpkgmkpaaDoor
/- A number with its 8 digits: the program. -/
namespace Go.Proofs.YtcnllohpkgmkpaaDoor
open Go.RowKit Go.ChangeShapes Go.WideShapes

theorem hexDigit_no (r : Int) (w : World) (h : r < 48 ∨ (57 < r ∧ r < 97) ∨ 102 < r) :
    Calls Tryd.prog 94 #[.int .i32 r] w fun e w' => e = .returned (.tuple #[.int .i64 0, .bool false]) ∧ w = w' := by
  rcases h with h | h | h
  · have d1 : decide ((48 : Int) ≤ r) = false := by simp; omega
    have d2 : decide ((97 : Int) ≤ r) = false := by simp; omega
    go_enter Tryd.func94, Tryd.ntmps94
    go_wp2_with fail
    go_ret2
    exact ⟨rfl, rfl⟩
  · obtain ⟨ha, hb⟩ := h
    have d1 : decide ((48 : Int) ≤ r) = true := by simp; omega
    have d3 : decide (r ≤ 57) = false := by simp; omega
    have d2 : decide ((97 : Int) ≤ r) = false := by simp; omega
    go_enter Tryd.func94, Tryd.ntmps94
    go_wp2_with fail
    go_ret2
    exact ⟨rfl, rfl⟩
  · have d1 : decide ((48 : Int) ≤ r) = true := by simp; omega
    have d3 : decide (r ≤ 57) = false := by simp; omega
    have d2 : decide ((97 : Int) ≤ r) = true := by simp; omega
    have d4 : decide (r ≤ 102) = false := by simp; omega
    go_enter Tryd.func94, Tryd.ntmps94
    go_wp2_with fail
    go_ret2
    exact ⟨rfl, rfl⟩
theorem hexDigit_any (c : UInt8) (w : World) :
    Calls Tryd.prog 94 #[.int .i32 (c.toNat : Int)] w fun e w' => e = .returned (.tuple #[.int .i64 ((hxV c : Nat) : Int), .bool (hxB c)]) ∧ w = w' := by
  have hc : c.toNat < 256 := UInt8.toNat_lt c
  by_cases h1 : 48 ≤ c.toNat ∧ c.toNat ≤ 57
  · obtain ⟨e1, e2⟩ := hxB_digit h1
    rw [e1, e2]
    obtain ⟨a, b⟩ := h1
    have w1 : IntKind.i32.wrap ((c.toNat : Int) - 48) = (c.toNat : Int) - 48 := by rw [IntKind.wrap_i32]; omega
    have w2 : IntKind.i64.wrap ((c.toNat : Int) - 48) = (c.toNat : Int) - 48 := by rw [IntKind.wrap_i64]; omega
    have q : ((c.toNat - 48 : Nat) : Int) = (c.toNat : Int) - 48 := by omega
    have Q := Lib.hid q
    clear e1 e2 q
    generalize c.toNat = n at *
    go_enter Tryd.func94, Tryd.ntmps94
    go_wp2_with fail
    go_ret2
    exact ⟨by rw [Q.out]; rfl, rfl⟩
  · by_cases h2 : 97 ≤ c.toNat ∧ c.toNat ≤ 102
    · obtain ⟨e1, e2⟩ := hxB_letter h2
      rw [e1, e2]
      obtain ⟨a, b⟩ := h2
      have w1 : IntKind.i32.wrap ((c.toNat : Int) - 97) = (c.toNat : Int) - 97 := by rw [IntKind.wrap_i32]; omega
      have w2 : IntKind.i64.wrap ((c.toNat : Int) - 97) = (c.toNat : Int) - 97 := by rw [IntKind.wrap_i64]; omega
      have w3 : IntKind.i64.wrap ((c.toNat : Int) - 97 + 10) = (c.toNat : Int) - 97 + 10 := by rw [IntKind.wrap_i64]; omega
      have q : ((c.toNat - 87 : Nat) : Int) = (c.toNat : Int) - 97 + 10 := by omega
      have Q := Lib.hid q
      have d1 : decide ((c.toNat : Int) ≤ 57) = false := by simp; omega
      have d2 : decide ((c.toNat : Int) ≥ 48) = true := by simp; omega
      have d3 : decide ((c.toNat : Int) ≥ 97) = true := by simp; omega
      have d4 : decide ((c.toNat : Int) ≤ 102) = true := by simp; omega
      clear e1 e2 q h1
      generalize c.toNat = n at *
      go_enter Tryd.func94, Tryd.ntmps94
      go_wp2_with fail
      go_ret2
      exact ⟨by rw [Q.out]; rfl, rfl⟩
    · obtain ⟨e1, e2⟩ := hxB_other h1 h2
      rw [e1, e2]
      exact hexDigit_no _ w (by omega)
def SaysHx (n : Nat) (b : Bool) (w : World) (e : Ending) (w' : World) : Prop := e = .returned (.tuple #[.float .f32 n, .bool b]) ∧ Below w.heap.size w w'
def SaysNB (Z : List Nat) (b : Bool) (w : World) (e : Ending) (w' : World) : Prop := ∃ v, e = .returned (.tuple #[v, .bool b]) ∧ SI (Value.float .f32) (0 : Nat) w.heap.size w'.heap.size w' v Z ∧ Below w.heap.size w w'
theorem byte_list {s : ByteArray} {k : Nat} (h : k < s.size) (h2 : k < s.data.toList.length) : s.data.toList[k] = s[k]'h := rfl
set_option maxRecDepth 100000 in
set_option maxHeartbeats 2000000 in
theorem readNumber_any (s : ByteArray) (w : World) :
    Calls Tryd.prog 60 #[.string s] w (SaysHx (hxR s.data.toList) (hxOk s.data.toList) w) := by
  have hsz : s.data.toList.length = s.size := Array.length_toList
  by_cases h8 : s.size = 8
  · have hlt := hxN_8 (S := s.data.toList) (by omega)
    have HGD := Lib.hid (fun h2 h3 => hx_good (S := s.data.toList) (by omega) h2 h3)
    have HTD := Lib.hid (fun h3 => hx_told (S := s.data.toList) h3)
    have HBD := Lib.hid (fun k (hk : k < s.size) (h : hxB (s[k]'hk) = false) => hx_bad (S := s.data.toList) (k := k) (Nat.lt_of_lt_of_eq hk Array.length_toList.symm) h)
    have HBN := Lib.hid (hxN_bound s.data.toList)
    have HTK := Lib.hid (fun k (hk : k < s.size) => (hxN_take (S := s.data.toList) (k := k) (Nat.lt_of_lt_of_eq hk Array.length_toList.symm)))
    have HN0 := Lib.hid (fun h => hxR_no (S := s.data.toList) h)
    have HFU : Hid (hxN (s.data.toList.take 8) = hxN s.data.toList) := Lib.hid (by rw [List.take_of_length_le (by omega)])
    have HSZ := Lib.hid hsz
    have H8 := Lib.hid h8
    have hsb : (s.size : Int) = 8 := by omega
    have L0 : Hid (hxN (s.data.toList.take 0) = 0) := Lib.hid rfl
    clear hsz h8
    go_enter Tryd.func60, Tryd.ntmps60
    go_wp2
    clear hsb
    go_loopw [4, 6, 7, 8] (fun b _ _ _ wr => ∃ pos : Nat, pos ≤ s.size ∧ wr = w.iter s pos ∧ b = .int .i64 ((hxN (s.data.toList.take pos) : Nat) : Int) ∧ Hid (∀ j (hj : j < s.size), j < pos → hxB (s[j]'hj) = true)) (fun _ _ _ _ wr => s.size - wr.iterPos w.heap.size)
    case atStart => exact ⟨0, Nat.zero_le _, rfl, by rw [L0.out]; rfl, Lib.hid fun j hj h => absurd h (Nat.not_lt_zero _)⟩
    case round =>
      obtain ⟨pos, hps, rfl, rfl, hok⟩ := hrel
      have hbel : ∀ k, Below w.heap.size w (w.iter s k) := fun k => (Below.refl _ _).alloc (Nat.le_refl _) _
      have HB := Lib.hid hbel
      clear hbel L0
      by_cases hp : pos < s.size
      · have hpos8 : pos < 8 := by have := H8.out; omega
        by_cases ha : (s[pos]'hp).toNat < 128
        · have hnx := fun ty => run_next_ascii (P := Tryd.prog) w s pos ty hp ha
          have HD := Lib.hid (fun W => hexDigit_any (s[pos]'hp) W)
          cases hq : hxB (s[pos]'hp) with
          | true =>
            have HQ := Lib.hid hq
            rw [hq] at HD
            have hb := HBN.out pos
            have hv := hxV_le (s[pos]'hp)
            have HT2 : Hid (hxN (s.data.toList.take (pos + 1)) = 16 * hxN (s.data.toList.take pos) + hxV (s[pos]'hp)) := Lib.hid (HTK.out pos hp)
            have hb2 : hxN (s.data.toList.take pos) < 268435456 := Nat.lt_of_lt_of_le hb (Nat.le_trans (Nat.pow_le_pow_right (by omega) (show pos ≤ 7 by omega)) (by decide))
            generalize hxN (s.data.toList.take pos) = a at *
            generalize hxV (s[pos]'hp) = v at *
            have w1 : IntKind.i64.wrap (16 * (a : Int)) = 16 * (a : Int) := by rw [IntKind.wrap_i64]; omega
            have w2 : IntKind.i64.wrap (16 * (a : Int) + (v : Int)) = 16 * (a : Int) + (v : Int) := by rw [IntKind.wrap_i64]; omega
            clear hq hb
            go_wp2_with (go_at_call 94; refine (HD.out _).mono ?_; rintro e w' ⟨rfl, rfl⟩)
            go_roundw
            case rel => exact ⟨pos + 1, by omega, rfl, by rw [HT2.out]; go_num, Lib.hid fun j hj h => by
              by_cases e : j = pos
              · subst e; exact HQ.out
              · exact hok.out j hj (by omega)⟩
            case measure => simp; omega
          | false =>
            have HF := Lib.hid (HBD.out pos hp hq)
            rw [hq] at HD
            generalize hxV (s[pos]'hp) = v at *
            clear hq
            go_wp2_with (go_at_call 94; refine (HD.out _).mono ?_; rintro e w' ⟨rfl, rfl⟩)
            go_ret2
            exact ⟨by rw [HF.out, HN0.out HF.out]; rfl, HB.out _⟩
        · have hnx := fun ty => run_next_any (P := Tryd.prog) w s pos ty hp
          have hd := (decode_high s pos hp (by omega)).1
          have HF := Lib.hid (HBD.out pos hp (hxB_other (by omega) (by omega)).1)
          generalize Utf8.decode s pos = d at hnx hd
          have HD := Lib.hid (fun W => hexDigit_no (d.1 : Int) W (Or.inr (Or.inr (by omega))))
          go_wp2_with (go_at_call 94; refine (HD.out _).mono ?_; rintro e w' ⟨rfl, rfl⟩)
          go_ret2
          exact ⟨by rw [HF.out, HN0.out HF.out]; rfl, HB.out _⟩
      · obtain rfl : pos = s.size := by omega
        have hnx := fun ty => run_next_end (P := Tryd.prog) w s s.size ty (by omega)
        have HFF : Hid (hxN (s.data.toList.take s.size) = hxN s.data.toList) := Lib.hid (by rw [List.take_of_length_le (by rw [HSZ.out]; exact Nat.le_refl _)])
        rw [HFF.out]
        have FR := Lib.hid (fun W => implFromB_any (hxN s.data.toList) (by omega) W)
        have BO := Lib.hid (fun W => implBits_any (hxN s.data.toList) hlt W)
        by_cases hq : Fl.told (hxN s.data.toList) = hxN s.data.toList
        · have HF := Lib.hid (HGD.out (fun k hk => hok.out k (by have := HSZ.out; omega) (by have := HSZ.out; omega)) hq)
          rw [hq] at BO
          generalize hxN s.data.toList = a at *
          clear hq
          go_wp2_with (first | (go_at_call 95; refine (FR.out _).mono ?_; rintro e w' ⟨rfl, rfl⟩) | (go_at_call 82; refine (BO.out _).mono ?_; rintro e w' ⟨rfl, rfl⟩))
          go_ret2
          exact ⟨by rw [HF.out.1, HF.out.2]; rfl, HB.out _⟩
        · have HF := Lib.hid (HTD.out hq)
          generalize hxN s.data.toList = a at *
          generalize ht : Fl.told a = t at *
          have d3 : ((t : Int) == (a : Int)) = false := by rw [beq_eq_false_iff_ne]; omega
          clear hq ht
          go_wp2_with (first | (go_at_call 95; refine (FR.out _).mono ?_; rintro e w' ⟨rfl, rfl⟩) | (go_at_call 82; refine (BO.out _).mono ?_; rintro e w' ⟨rfl, rfl⟩))
          go_ret2
          exact ⟨by rw [HF.out, HN0.out HF.out]; rfl, HB.out _⟩
  · have hf := hx_len (S := s.data.toList) (by omega)
    have HF := Lib.hid (And.intro hf (hxR_no hf))
    have d1 : ((s.size : Int) == 8) = false := by rw [beq_eq_false_iff_ne]; omega
    clear hf hsz h8
    go_enter Tryd.func60, Tryd.ntmps60
    go_wp2_with fail
    go_ret2
    exact ⟨by rw [HF.out.1, HF.out.2]; rfl, Below.refl _ _⟩
end Go.Proofs.YtcnllohpkgmkpaaDoor
/- A list of numbers with digits of bits that is read: the program. -/
namespace Go.Proofs.YtcnllohpkgmkpaaDoor
open Go.RowKit Go.ChangeShapes Go.WideShapes Go.Shelf
attribute [local go_sem] Oper.semAt_some

abbrev readN : Value := .func (.func 60) #[] #[]
set_option maxRecDepth 100000 in
theorem listOfN_none (w : World) :
    Calls Tryd.prog 59 #[.string noneS, .int .i64 256, readN] w (SaysNB [] true w) := by
  have K := two_new w (.cells #[readN] 82) (.slice none 0 0) (.bool true) 28 4
  have e1 : noneS.toList = [110, 111, 110, 101] := (none_iff _).2 rfl
  have HK := Lib.hid K
  clear K
  go_enter Tryd.func59, Tryd.ntmps59
  go_wp2_with fail
  refine bodyPost_ret (v := .tuple #[.slice none 0 0, .bool true]) (by simp [results, Tryd.results59, go_sem, HK.out.1, HK.out.2.1]) rfl ?_
  exact ⟨_, rfl, SI.nil _ (Nat.le_refl _) _ _, HK.out.2.2⟩
set_option maxRecDepth 100000 in
theorem listOfN_long (s : ByteArray) (w : World) (h : s ≠ noneS) (hl : 256 < (ptY 44 s).length) :
    Calls Tryd.prog 59 #[.string s, .int .i64 256, readN] w (SaysNB [] false w) := by
  have K := two_new w (.cells #[readN] 82) (.slice none 0 0) (.bool false) 28 4
  have e1 : ¬ s.toList = [110, 111, 110, 101] := fun q => h ((none_iff _).1 q)
  have e2 : (s.toList == [110, 111, 110, 101]) = false := by rw [beq_eq_false_iff_ne]; exact e1
  have CN := Lib.hid (fun w => countC_any s w)
  have hle := ptY_le 44 s
  rw [ptY_len] at hl hle
  obtain ⟨n, hn⟩ : ∃ n, n = s.data.toList.count 44 := ⟨_, rfl⟩
  rw [← hn] at CN hl hle
  have d1 : decide ((n : Int) ≥ 256) = true := by simp; omega
  have HK := Lib.hid K
  clear K hn h
  go_enter Tryd.func59, Tryd.ntmps59
  go_wp2_with fail
  go_at_call 92; refine (CN.out _).mono ?_; rintro e w2 ⟨rfl, rfl⟩
  go_wp2_with fail
  refine bodyPost_ret (v := .tuple #[.slice none 0 0, .bool false]) (by simp [results, Tryd.results59, go_sem, HK.out.1, HK.out.2.1]) rfl ?_
  exact ⟨_, rfl, SI.nil _ (Nat.le_refl _) _ _, HK.out.2.2⟩
theorem Tryd.infoRn : (Tryd.prog.info? 70).map (fun i => (i.zero, i.size, i.bytes)) = some (some (.float .f32 0), 1, 4) := by kernel_rfl
/-- What the boxes hold behind k numbers. -/
structure RnS (w : World) (Z : List Nat) (v : Value) (X : World) : Prop where
  box : Rs4 w w.heap.size readN (.slice none 0 0) (.bool false) v X
  row : Grows (Value.float .f32) 70 (w.heap.size + 9) v Z X
theorem RnS.but {w : World} {Z : List Nat} {v : Value} {X X' : World} (h : RnS w Z v X) {S : Nat → Prop} (hb : But S X X') (hs : ∀ i, S i → w.heap.size + 4 ≤ i ∧ i < w.heap.size + 9) : RnS w Z v X' :=
  ⟨h.box.but hb (fun q => by have := hs _ q; omega) (fun q => by have := hs _ q; omega) (fun q => by have := hs _ q; omega) (fun q => by have := hs _ q; omega) (fun i q => by have := hs _ q; omega), h.row.but hb fun i q => (hs i q).2⟩
theorem RnS.keep {w : World} {Z : List Nat} {v : Value} {X X' : World} (h : RnS w Z v X) (hb : Below X.heap.size X X') : RnS w Z v X' := ⟨h.box.keep hb, h.row.below hb (Nat.le_refl _)⟩
structure RnS2 (w : World) (Z : List Nat) (v : Value) (X : World) : Prop where
  box : Rs4 w w.heap.size readN v (.bool true) v X
  row : Grows (Value.float .f32) 70 (w.heap.size + 9) v Z X
theorem RnS2.of {w : World} {Z : List Nat} {v : Value} {X : World} {N : Nat} (h : RnS w Z v X) (hN : w.heap.size + 4 ≤ N ∧ N < w.heap.size + 9) : RnS2 w Z v (((X.setCell ⟨w.heap.size + 1, 0, none⟩ v).setCell ⟨w.heap.size + 1 + 1, 0, none⟩ (.bool true)).putObj N (.deferred none)) :=
  ⟨(h.box.put23 (Nat.le_refl _) _ _).but (But.putObj (S := fun k => k = N) _ rfl) (by omega) (by omega) (by omega) (by omega) (fun i hi => by omega),
    h.row.but (S := fun i => i < w.heap.size + 9) ((((But.refl _ X).setCell (p := ⟨w.heap.size + 1, 0, none⟩) (by show w.heap.size + 1 < _; omega) _).setCell (p := ⟨w.heap.size + 1 + 1, 0, none⟩) (by show w.heap.size + 1 + 1 < _; omega) _).trans (But.putObj _ (by show N < _; omega))) fun i hi => hi⟩
set_option maxRecDepth 100000 in
set_option maxHeartbeats 4000000 in
theorem listOfN_main (s : ByteArray) (w : World) (h : s ≠ noneS) (hl : (ptY 44 s).length ≤ 256) (hs : s.size ≤ 1048576) :
    Calls Tryd.prog 59 #[.string s, .int .i64 256, readN] w (SaysNB (rnL s) (rnB s) w) := by
  have e1 : ¬ s.toList = [110, 111, 110, 101] := fun q => h ((none_iff _).1 q)
  have e2 : (s.toList == [110, 111, 110, 101]) = false := by rw [beq_eq_false_iff_ne]; exact e1
  have CN := Lib.hid (fun w => countC_any s w)
  have hle := ptY_le 44 s
  have HL := Lib.hid hl
  have hl2 := hl
  rw [ptY_len] at hl2 hle
  obtain ⟨n, hn⟩ : ∃ n, n = s.data.toList.count 44 := ⟨_, rfl⟩
  rw [← hn] at CN hl2 hle
  have d1 : decide ((n : Int) ≥ 256) = false := by simp; omega
  have HNN := Lib.hid h
  clear hn h hl
  refine (callsIn_wide (n := 5)).1 ?_
  refine callsIn_of_wp_marks Tryd.func59 rfl trivial ?_ rfl
  simp only [Tryd.ntmps59, List.size_toArray, List.length_cons, List.length_nil, Nat.reduceAdd, Nat.reduceSub, Array.replicate_succ, Array.replicate_zero, List.push_toArray, List.append_toArray, List.nil_append, List.cons_append]
  gi_wp2_with (first
    | (refine ⟨trivial, ?_⟩; gi_at_call 92; refine (callsIn_wide.2 (CN.out _)).mono ?_; rintro e w2 ⟨rfl, rfl⟩)
    | (refine ⟨trivial, ?_⟩; gi_at_call 93; refine (callsIn_wide.2 (splitSeqF_any _ _)).mono ?_; rintro e w' ⟨rfl, rfl⟩))
  obtain ⟨W4, hW4⟩ : ∃ W4, W4 = (((w.alloc (.cells #[readN] 82)).alloc (.cells #[.slice none 0 0] 28)).alloc (.cells #[.bool false] 4)).alloc (.cells #[.slice none 0 0] 28) := ⟨_, rfl⟩
  have hr4 : Rs4 w w.heap.size readN (.slice none 0 0) (.bool false) (.slice none 0 0) W4 := by rw [hW4]; exact rs4_new _ _ _ _ _ _ _ _ _
  have hz4 : W4.heap.size = w.heap.size + 1 + 1 + 1 + 1 := by rw [hW4]; simp
  rw [← hW4]
  clear hW4
  obtain ⟨W, hW⟩ : ∃ W, W = ((W4.alloc (.cells #[.string s] 9)).alloc (.cells #[.string ⟨#[44]⟩] 9)).alloc (.cells #[.int .i64 0] 3) := ⟨_, rfl⟩
  have hz : W.heap.size = w.heap.size + 7 := by rw [hW]; simp [hz4]
  have hb4 : Below W4.heap.size W4 W := by rw [hW]; exact ((below_alloc W4 _).alloc (by simp) _).alloc (by simp; omega) _
  have hbx : BoxT (w.heap.size + 1 + 1 + 1 + 1) s W ∧ SepT (w.heap.size + 1 + 1 + 1 + 1) W := by
    have k1 := World.cell?_alloc_new W4 #[.string s] 9 0
    have f1 := World.frozen?_alloc_new W4 #[.string s] 9 0
    have K := two_new W4 (.cells #[.string s] 9) (.string ⟨#[44]⟩) (.int .i64 0) 9 3
    rw [← hW, hz4] at K
    rw [hz4] at k1 f1
    have b1 : Below (W4.heap.size + 1) (W4.alloc (.cells #[.string s] 9)) W := by rw [hW]; exact ((Below.refl _ _).alloc (by simp) _).alloc (by simp) _
    exact ⟨⟨keep_cell k1 b1 (by omega), by rw [b1.frozen (p := ⟨w.heap.size + 1 + 1 + 1 + 1, 0, none⟩) (by show w.heap.size + 1 + 1 + 1 + 1 < _; omega)]; exact f1⟩, K.1, K.2.1⟩
  rw [← hW]
  have hR0 : RnS w (rnK s 0) (.slice none 0 0) W := ⟨hr4.keep hb4, Grows.nil _ _ _ _⟩
  clear hW hr4 hb4 hz4 W4
  have HB := Lib.hid hR0.box.below
  have HX := Lib.hid hbx
  have HR0 := Lib.hid hR0
  clear hbx hR0
  refine rangeS (c := w.heap.size + 1 + 1 + 1 + 1) (w0 := w) 5 144 _ (by rfl) rfl (enters_of Tryd.func144 (by kernel_rfl) rfl)
    (fun i => i = w.heap.size + 1 ∨ i = w.heap.size + 1 + 1 ∨ i = w.heap.size + 1 + 1 + 1 ∨ w.heap.size + 9 ≤ i)
    (fun pre X => ∃ v, (∀ j, j < pre.length → hxOk (ptK s j).data.toList = true) ∧ RnS w (rnK s pre.length) v X)
    (fun d _ X => d = .ret ∧ rnB s = false ∧ ∃ v, Rs4 w w.heap.size readN (.slice none 0 0) (.bool false) v X)
    (spm 44 s.data.toList) (fun X => BoxT (w.heap.size + 1 + 1 + 1 + 1) s X ∧ SepT (w.heap.size + 1 + 1 + 1 + 1) X)
    (fun n l S' J Jx hn0 T X hn hJ hX => split1_any w n l _ S' J Jx s T (by omega) X hn hJ hX.1 hX.2 (by omega))
    (fun X hb => ⟨⟨keep_cell HX.out.1.1 hb (by omega), by rw [hb.frozen (p := ⟨w.heap.size + 1 + 1 + 1 + 1, 0, none⟩) (by show w.heap.size + 1 + 1 + 1 + 1 < _; omega)]; exact HX.out.1.2⟩, keep_cell HX.out.2.1 hb (by omega), keep_cell HX.out.2.2 hb (by omega)⟩)
    HB.out (by omega) (by omega) (by omega) (by omega) (fun k h1 h2 => by omega) ?keep ?keepx ?low ⟨_, fun j hj => absurd hj (Nat.not_lt_zero _), HR0.out⟩ ?round ?done ?stop
  case keep =>
    rintro pre X X' ⟨v, h1, h2⟩ hb
    exact ⟨v, h1, h2.but hb fun i hi => by omega⟩
  case keepx =>
    rintro d q X X' ⟨h1, h2, v, h3⟩ hb
    exact ⟨h1, h2, v, h3.but hb (by omega) (by omega) (by omega) (by omega) (fun i hi => by omega)⟩
  case low =>
    rintro pre X ⟨v, -, h2⟩
    exact h2.box.below
  case round =>
    rintro pre C X hpre hI hzX
    refine ⟨_, fun K hK => by gi_wp2; exact hK, fun X2 hb2 hI2 hz2 => ?_⟩
    clear hI hzX hb2 X
    obtain ⟨v, hg, hS⟩ := hI2
    have HS := Lib.hid hS
    have HG := Lib.hid hg
    obtain ⟨hlt, hC⟩ := ptY_at hpre
    obtain ⟨k, hkk⟩ : ∃ k, k = pre.length := ⟨_, rfl⟩
    rw [← hkk] at HS HG hlt hC
    have HK1 : Hid ((pre ++ [C]).length = k + 1) := Lib.hid (by rw [List.length_append, ← hkk]; rfl)
    clear hS hg hkk hpre
    have hCs : bsOf C = ptK s k := by rw [hC]; exact bs_eq' _

    have RD := Lib.hid (fun W => readNumber_any (ptK s k) W)
    have hk256 : k < 256 := by have := HL.out; omega
    have HLB := Lib.hid (fun (h2 : hxOk (ptK s k).data.toList = false) => rn_bad HNN.out hlt h2)
    have HL1 := Lib.hid (rnK_succ s k)
    have hll : (rnK s k).length = k := rnK_len _ _
    have H6 := Lib.hid (fun w3 (b : Below X2.heap.size X2 w3) => (show w.heap.size + 9 ≤ w3.heap.size from by have := b.size; omega))
    rw [hCs]
    unfold SaysHx at RD
    have HT := Lib.hid (fun j (hj : j < k + 1) (hk : hxOk (ptK s k).data.toList = true) => (show hxOk (ptK s j).data.toList = true from by
      by_cases e : j = k
      · rw [e]; exact hk
      · exact HG.out j (by omega)))
    clear HG
    generalize ptK s k = y at *
    generalize hxR y.data.toList = z at *
    generalize hq : hxOk y.data.toList = q at *
    clear hC hCs hlt
    obtain ⟨i0, hi, hz0, hz1, hze⟩ := info_parts Tryd.infoRn
    have hm1 : (rnK s k).length + 1 ≤ maxLen := by unfold maxLen; omega
    have hm2 : ((rnK s k).length + 1) * 4 ≤ 140737488355328 := by omega
    have kc := HS.out.box.c1
    clear hll
    cases q with
    | false =>
      have HLL := Lib.hid (HLB.out rfl)
      clear HLB HT hm1 hm2 hi hz0 hz1 hze i0 hq
      gi_wp2_with (refine ⟨trivial, ?_⟩; gi_at_call 60; refine (CallsIn.inRound _ (callsIn_wide.2 (RD.out _))).mono ?_; rintro e w3 ⟨rfl, b3⟩; have B3 := Lib.hid b3; have S3 := Lib.hid (HS.out.keep b3); have k2 := S3.out.box.c2; have k3 := S3.out.box.c3; have k5 := S3.out.box.f2; have k6 := S3.out.box.f3; clear b3)
      exact ⟨((But.of_below B3.out).setCell (p := ⟨w.heap.size + 1, 0, none⟩) (Or.inl rfl) _).setCell (p := ⟨w.heap.size + 1 + 1, 0, none⟩) (Or.inr (Or.inl rfl)) _, rfl, HLL.out.1, v, S3.out.box.put23 (Nat.le_refl _) _ _⟩
    | true =>
      have HTT := Lib.hid (fun j hj => HT.out j hj rfl)
      clear HLB HT hq
      gi_wp2_with (first
        | (refine ⟨trivial, ?_⟩; gi_at_call 60; refine (CallsIn.inRound _ (callsIn_wide.2 (RD.out _))).mono ?_; rintro e w3 ⟨rfl, b3⟩; have B3 := Lib.hid b3; have S3 := Lib.hid (HS.out.keep b3); have k4 := S3.out.box.c4; have k7 := S3.out.box.f4; have h6 := H6.out _ b3; clear b3)
        | (gi_at_builtin; refine wpListIn_append_own _ rfl _ _ 28 rfl (w.heap.size + 9) 70 i0 (.float .f32 0) 1 4 Tryd.underlying28 hi hz0 hz1 hze rfl (by decide) _ _ _ rfl (Grows.alloc S3.out.row _) ⟨w3.heap.size, 0, none⟩ 1 1 [.float .f32 z] rfl rfl (cell_one_new _ _ _) (by simp [Value.oneCell']) hm1 hm2 (by simp; omega) ?_; intro v' w4 hown hgrow _; obtain ⟨g', cap', rfl⟩ := ownsRow_succ hown; have B4 := Lib.hid (((Below.refl (w.heap.size + 9) w3).alloc h6 _).grown hgrow (by simp; omega) (fun i hi => S3.out.row.block i hi)); have GN := Lib.hid (Grows.more (news := [z]) rfl hown); have R4 := Lib.hid (S3.out.box.low B4.out (by omega) (by omega)); have j4 := R4.out.c4; have j7 := R4.out.f4; clear k4 k7 hown hgrow))
      have BF : But (fun i => i < w.heap.size + 9) w4 (w4.setCell ⟨w.heap.size + 1 + 1 + 1, 0, none⟩ (.slice (some ⟨g', 0, none⟩) ((rnK s k).length + 1) cap')) :=
        (But.refl _ w4).setCell (p := ⟨w.heap.size + 1 + 1 + 1, 0, none⟩) (by show w.heap.size + 1 + 1 + 1 < _; omega) _
      have B34 : But (fun i => i = w.heap.size + 1 ∨ i = w.heap.size + 1 + 1 ∨ i = w.heap.size + 1 + 1 + 1 ∨ w.heap.size + 9 ≤ i) w3 w4 := ⟨B4.out.os, B4.out.tape, B4.out.output, B4.out.size, fun i _ hs => B4.out.block i (by omega)⟩
      refine ⟨((But.of_below B3.out).trans B34).setCell (p := ⟨w.heap.size + 1 + 1 + 1, 0, none⟩) (Or.inr (Or.inr (Or.inl rfl))) _, .slice (some ⟨g', 0, none⟩) ((rnK s k).length + 1) cap', fun j hj => ?_, ?_⟩
      · rw [HK1.out] at hj
        exact HTT.out j hj
      · rw [HK1.out, HL1.out]
        exact ⟨R4.out.put4 (Nat.le_refl _) _, GN.out.but BF fun i hi => hi⟩
  case done =>
    rintro X ⟨v, h1, h3⟩ hK
    have hlY : (spm 44 s.data.toList).length = (ptY 44 s).length := by rw [← ptY_spm, List.length_map]
    rw [hlY] at h1 h3
    have HF := Lib.hid (rn_good HNN.out HL.out h1)
    obtain ⟨va, vc, rfl⟩ := SI.len (d := (0 : Nat)) h3.row.si
    have H3 := Lib.hid h3
    have HKK := Lib.hid hK
    have c2 := h3.box.c2
    have c3 := h3.box.c3
    have c4 := h3.box.c4
    have f2 := h3.box.f2
    have f3 := h3.box.f3
    clear h1 h3 hK hlY
    obtain ⟨n, hn⟩ : ∃ n, n = (rnK s (ptY 44 s).length).length := ⟨_, rfl⟩
    rw [← hn] at c4
    have HNE := Lib.hid hn
    clear hn
    gi_wp2
    have hF : RnS2 w (rnK s (ptY 44 s).length) (.slice va n vc) (((X.setCell ⟨w.heap.size + 1, 0, none⟩ (.slice va n vc)).setCell ⟨w.heap.size + 1 + 1, 0, none⟩ (.bool true)).putObj W.heap.size (.deferred none)) :=
      RnS2.of (HNE.out ▸ H3.out) (by omega)
    refine ⟨by simp, .inl ⟨_, _, rfl, run_takeDeferred (ds := []) (((Below.heap_setCell _ _ _ _ (by show _ ≠ w.heap.size + 1 + 1; omega)).trans (Below.heap_setCell _ _ _ _ (by show _ ≠ w.heap.size + 1; omega))).trans HKK.out), ?_⟩⟩
    obtain ⟨q1, q2⟩ := And.intro hF.box.c2 hF.box.c3
    refine ⟨.tuple #[.slice va n vc, .bool true], by simp [results, Tryd.results59, go_sem, q1, q2], ?_⟩
    rw [HF.out.1, HF.out.2]
    exact ⟨_, rfl, SI.wide hF.row.si (by omega) (Nat.le_refl _) (Nat.le_refl _), hF.box.below⟩
  case stop =>
    rintro d q X - - ⟨rfl, h2, v, h3⟩ hK
    have HF := Lib.hid (And.intro h2 (rn_no HNN.out h2))
    have H3 := Lib.hid h3
    have HKK := Lib.hid hK
    have c2 := h3.c2
    have c3 := h3.c3
    clear h2 h3 hK
    gi_wp2
    have hF : Rs4 w w.heap.size readN (.slice none 0 0) (.bool false) v (X.putObj W.heap.size (.deferred none)) :=
      H3.out.but (But.putObj (S := fun k => k = W.heap.size) _ rfl) (by omega) (by omega) (by omega) (by omega) (fun i hi => by omega)
    refine ⟨by simp, .inl ⟨_, _, rfl, run_takeDeferred (ds := []) HKK.out, ?_⟩⟩
    obtain ⟨q1, q2⟩ := And.intro hF.c2 hF.c3
    refine ⟨.tuple #[.slice none 0 0, .bool false], by simp [results, Tryd.results59, go_sem, q1, q2], ?_⟩
    rw [HF.out.1, HF.out.2]
    exact ⟨_, rfl, SI.nil _ (Nat.le_refl _) _ _, hF.below⟩
-- the list that is read, and whether it is one
set_option maxRecDepth 100000 in
theorem implReadNumbers_any (s : ByteArray) (w : World) (hs : s.size ≤ 1048576) :
    Calls Tryd.prog 25 #[.string s] w (SaysNB (rnL s) (rnB s) w) := by
  have H : Calls Tryd.prog 59 #[.string s, .int .i64 256, readN] w (SaysNB (rnL s) (rnB s) w) := by
    by_cases h : s = noneS
    · rw [(rn_none h).1, (rn_none h).2, h]
      exact listOfN_none w
    · by_cases hl : (ptY 44 s).length ≤ 256
      · exact listOfN_main s w h hl hs
      · rw [(rn_long h (by omega)).1, (rn_long h (by omega)).2]
        exact listOfN_long s w h (by omega)
  have HH := Lib.hid H
  clear H
  go_enter Tryd.func25, Tryd.ntmps25
  go_wp2_with fail
  go_at_call 59; refine HH.out.mono ?_; rintro e w2 ⟨v, rfl, i2, b2⟩
  have I2 := Lib.hid i2
  have B2 := Lib.hid b2
  clear i2 b2
  go_wp2_with fail
  go_ret2
  exact ⟨_, rfl, I2.out, B2.out⟩
end Go.Proofs.YtcnllohpkgmkpaaDoor
/- strconv.ParseInt laid at this program: its code is the shelf's own, number by number. -/
namespace Go.Proofs.YtcnllohpkgmkpaaDoor
open Go.Shelf
def Tryd.lays174_ren : Go.Shelf.Ren := ⟨fun | 174 => 97 | 247 => 125 | 245 => 126 | 287 => 146 | 279 => 147 | 280 => 148 | 281 => 149 | 282 => 150 | 321 => 162 | 322 => 163 | 316 => 164 | 171 => 166 | 205 => 165 | 243 => 170 | 246 => 113 | 283 => 136 | 284 => 137 | 285 => 138 | 286 => 139 | 129 => 155 | 317 => 154 | 318 => 156 | 319 => 157 | 320 => 158 | 337 => 167 | 338 => 168 | n => n, fun | 9 => 9 | 3 => 3 | 2 => 2 | 75 => 117 | 85 => 118 | 4 => 4 | 167 => 162 | 5 => 5 | 53 => 150 | 175 => 163 | 46 => 126 | 168 => 165 | 37 => 100 | 0 => 0 | 210 => 181 | 21 => 21 | 127 => 148 | 145 => 191 | 143 => 189 | 171 => 149 | 173 => 153 | 212 => 173 | 51 => 134 | 20 => 20 | 213 => 174 | 232 => 192 | 233 => 193 | 80 => 133 | n => n, fun | 15 => 3 | 16 => 4 | 17 => 2 | 18 => 7 | 19 => 8 | n => n⟩
theorem Tryd.lays174 : Go.Proofs.LaysC.n174 Tryd.prog Tryd.lays174_ren := {
  mixed := by kernel_rfl
  f129 := Tryd.func155.trans (congrArg some (by kernel_rfl))
  f171 := Tryd.func166.trans (congrArg some (by kernel_rfl))
  f174 := Tryd.func97.trans (congrArg some (by kernel_rfl))
  f205 := Tryd.func165.trans (congrArg some (by kernel_rfl))
  f243 := Tryd.func170.trans (congrArg some (by kernel_rfl))
  f245 := Tryd.func126.trans (congrArg some (by kernel_rfl))
  f246 := Tryd.func113.trans (congrArg some (by kernel_rfl))
  f247 := Tryd.func125.trans (congrArg some (by kernel_rfl))
  f279 := Tryd.func147.trans (congrArg some (by kernel_rfl))
  f280 := Tryd.func148.trans (congrArg some (by kernel_rfl))
  f281 := Tryd.func149.trans (congrArg some (by kernel_rfl))
  f282 := Tryd.func150.trans (congrArg some (by kernel_rfl))
  f283 := Tryd.func136.trans (congrArg some (by kernel_rfl))
  f284 := Tryd.func137.trans (congrArg some (by kernel_rfl))
  f285 := Tryd.func138.trans (congrArg some (by kernel_rfl))
  f286 := Tryd.func139.trans (congrArg some (by kernel_rfl))
  f287 := Tryd.func146.trans (congrArg some (by kernel_rfl))
  f316 := Tryd.func164.trans (congrArg some (by kernel_rfl))
  f317 := Tryd.func154.trans (congrArg some (by kernel_rfl))
  f318 := Tryd.func156.trans (congrArg some (by kernel_rfl))
  f319 := Tryd.func157.trans (congrArg some (by kernel_rfl))
  f320 := Tryd.func158.trans (congrArg some (by kernel_rfl))
  f321 := Tryd.func162.trans (congrArg some (by kernel_rfl))
  f322 := Tryd.func163.trans (congrArg some (by kernel_rfl))
  f337 := Tryd.func167.trans (congrArg some (by kernel_rfl))
  f338 := Tryd.func168.trans (congrArg some (by kernel_rfl))
  t0 := Tryd.underlying0
  a0 := Tryd.isAgg0
  z0 := Tryd.sizeOf0
  v0 := Tryd.zeroValue0
  t2 := Tryd.underlying2
  a2 := Tryd.isAgg2
  z2 := Tryd.sizeOf2
  v2 := Tryd.zeroValue2
  t3 := Tryd.underlying3
  a3 := Tryd.isAgg3
  z3 := Tryd.sizeOf3
  v3 := Tryd.zeroValue3
  t4 := Tryd.underlying4
  a4 := Tryd.isAgg4
  z4 := Tryd.sizeOf4
  v4 := Tryd.zeroValue4
  t5 := Tryd.underlying5
  a5 := Tryd.isAgg5
  z5 := Tryd.sizeOf5
  v5 := Tryd.zeroValue5
  t9 := Tryd.underlying9
  a9 := Tryd.isAgg9
  z9 := Tryd.sizeOf9
  v9 := Tryd.zeroValue9
  t20 := Tryd.underlying20
  a20 := Tryd.isAgg20
  z20 := Tryd.sizeOf20
  v20 := Tryd.zeroValue20
  t21 := Tryd.underlying21
  a21 := Tryd.isAgg21
  z21 := Tryd.sizeOf21
  v21 := Tryd.zeroValue21
  t37 := Tryd.underlying100
  a37 := Tryd.isAgg100
  z37 := Tryd.sizeOf100
  v37 := Tryd.zeroValue100
  t46 := Tryd.underlying126
  a46 := Tryd.isAgg126
  z46 := Tryd.sizeOf126
  v46 := Tryd.zeroValue126
  t51 := Tryd.underlying134
  a51 := Tryd.isAgg134
  z51 := Tryd.sizeOf134
  v51 := Tryd.zeroValue134
  t53 := Tryd.underlying150
  a53 := Tryd.isAgg150
  z53 := Tryd.sizeOf150
  v53 := Tryd.zeroValue150
  t75 := Tryd.underlying117
  a75 := Tryd.isAgg117
  z75 := Tryd.sizeOf117
  v75 := Tryd.zeroValue117
  t85 := Tryd.underlying118
  a85 := Tryd.isAgg118
  z85 := Tryd.sizeOf118
  v85 := Tryd.zeroValue118
  t127 := Tryd.underlying148
  a127 := Tryd.isAgg148
  z127 := Tryd.sizeOf148
  v127 := Tryd.zeroValue148
  t143 := Tryd.underlying189
  a143 := Tryd.isAgg189
  z143 := Tryd.sizeOf189
  v143 := Tryd.zeroValue189
  t145 := Tryd.underlying191
  a145 := Tryd.isAgg191
  z145 := Tryd.sizeOf191
  v145 := Tryd.zeroValue191
  t167 := Tryd.underlying162
  a167 := Tryd.isAgg162
  z167 := Tryd.sizeOf162
  v167 := Tryd.zeroValue162
  t168 := Tryd.underlying165
  a168 := Tryd.isAgg165
  z168 := Tryd.sizeOf165
  v168 := Tryd.zeroValue165
  t171 := Tryd.underlying149
  a171 := Tryd.isAgg149
  z171 := Tryd.sizeOf149
  v171 := Tryd.zeroValue149
  t173 := Tryd.underlying153
  a173 := Tryd.isAgg153
  z173 := Tryd.sizeOf153
  v173 := Tryd.zeroValue153
  t175 := Tryd.underlying163
  a175 := Tryd.isAgg163
  z175 := Tryd.sizeOf163
  v175 := Tryd.zeroValue163
  t210 := Tryd.underlying181
  a210 := Tryd.isAgg181
  z210 := Tryd.sizeOf181
  v210 := Tryd.zeroValue181
  t212 := Tryd.underlying173
  a212 := Tryd.isAgg173
  z212 := Tryd.sizeOf173
  v212 := Tryd.zeroValue173
  t213 := Tryd.underlying174
  a213 := Tryd.isAgg174
  z213 := Tryd.sizeOf174
  t232 := Tryd.underlying192
  a232 := Tryd.isAgg192
  z232 := Tryd.sizeOf192
  v232 := Tryd.zeroValue192
  t233 := Tryd.underlying193
  a233 := Tryd.isAgg193
  z233 := Tryd.sizeOf193
  v233 := Tryd.zeroValue193
  g15 := by kernel_rfl
  g16 := by kernel_rfl
  g17 := by kernel_rfl
  g18 := by kernel_rfl
  g19 := by kernel_rfl
  t80 := Tryd.underlying133
  a80 := Tryd.isAgg133
  z80 := Tryd.sizeOf133
  v80 := Tryd.zeroValue133
  i0 := by kernel_rfl
  i2 := by kernel_rfl
  i3 := by kernel_rfl
  i4 := by kernel_rfl
  i5 := by kernel_rfl
  i9 := by kernel_rfl
  i20 := by kernel_rfl
  i21 := by kernel_rfl
  i37 := by kernel_rfl
  i46 := by kernel_rfl
  i51 := by kernel_rfl
  i53 := by kernel_rfl
  i75 := by kernel_rfl
  i80 := by kernel_rfl
  i85 := by kernel_rfl
  i127 := by kernel_rfl
  i143 := by kernel_rfl
  i145 := by kernel_rfl
  i167 := by kernel_rfl
  i168 := by kernel_rfl
  i171 := by kernel_rfl
  i173 := by kernel_rfl
  i175 := by kernel_rfl
  i210 := by kernel_rfl
  i212 := by kernel_rfl
  i232 := by kernel_rfl
  i233 := by kernel_rfl
  m15 := by kernel_rfl
  m16 := by kernel_rfl
  m17 := by kernel_rfl
  m18 := by kernel_rfl
  m19 := by kernel_rfl
  c0 := by kernel_rfl
  c2 := by kernel_rfl
  c3 := by kernel_rfl
  c4 := by kernel_rfl
  c5 := by kernel_rfl
  c9 := by kernel_rfl
  c20 := by kernel_rfl
  c21 := by kernel_rfl
  c37 := by kernel_rfl
  c46 := by kernel_rfl
  c51 := by kernel_rfl
  c53 := by kernel_rfl
  c75 := by kernel_rfl
  c80 := by kernel_rfl
  c85 := by kernel_rfl
  c127 := by kernel_rfl
  c143 := by kernel_rfl
  c145 := by kernel_rfl
  c167 := by kernel_rfl
  c168 := by kernel_rfl
  c171 := by kernel_rfl
  c173 := by kernel_rfl
  c175 := by kernel_rfl
  c210 := by kernel_rfl
  c212 := by kernel_rfl
  c213 := by kernel_rfl
  c232 := by kernel_rfl
  c233 := by kernel_rfl }
end Go.Proofs.YtcnllohpkgmkpaaDoor
/- A law that returns true and lets the old memory be: its row, from its walk. -/
namespace Go.Proofs.YtcnllohpkgmkpaaDoor.Frame
open Go.ChangeShapes Go.WideShapes Go.ChangeAt Go.RowKit

theorem trodAll_below {H : Type} {enc : TypeId × Value → H} {P : Program} (hl : laidOutB P = true) {W W' : World} (hb : Below W.heap.size W W') :
    ∀ {ts : List TypeId} {vs : List Value} {ds : List (DataW H)} {ps : List MemPlace}, (∀ t ∈ ts, P.readableRec t = true ∧ t < P.types.size) →
      DataW.TrodAll enc P W 0 (fun _ => true) true ts vs ds ps → (∀ x ∈ ps, x.block < W.heap.size) →
      DataW.TrodAll enc P W' 0 (fun b => decide (b < W.heap.size)) true ts vs ds ps
  | [], [], [], ps, _, h, _ => h
  | t :: ts, v :: vs, d :: ds, ps, hr, h, hlt => by
    obtain ⟨p, q, h1, h2, rfl⟩ := h
    exact ⟨p, q, Below.trod hl (hr t (by simp)).1 (hr t (by simp)).2 h1 hb (fun x hx => hlt x (by simp [hx])), trodAll_below hl hb (fun t' ht' => hr t' (by simp [ht'])) h2 (fun x hx => hlt x (by simp [hx])), rfl⟩
  | [], _ :: _, _, _, _, h, _ => h.elim
  | [], [], _ :: _, _, _, h, _ => h.elim
  | _ :: _, [], _, _, _, h, _ => h.elim
  | _ :: _, _ :: _, [], _, _, h, _ => h.elim

section
variable {H : Type} {enc : TypeId × Value → H} {P : Program}
/-- The end of a law's proof: it returned true, and below the old heap nothing has turned. -/
theorem law_post {f : Func} {s : ChangeSpec} {W W' : World} {args : Array Value} {ds gs : List (DataW H)} {before : List MemPlace} {tb : TypeId}
    (hW : DataW.Whole enc P f.params.toList s.vars false W args.toList ds gs before)
    (hl : laidOutB P = true) (hread : ∀ t ∈ f.params.toList, P.readableRec t = true ∧ t < P.types.size)
    (hvars : s.vars = []) (hres : f.resultTypes = #[tb]) (htb : P.underlying tb = some .bool)
    (hspec : (s.fn H (ds ++ [])).results = [.lit (.bool true)] ∧ (s.fn H (ds ++ [])).args = ds ∧ (s.fn H (ds ++ [])).vars = [])
    (hb : Below W.heap.size W W') : s.post enc P f false true false false W args (.bool true) W' := by
  have hlt : ∀ p ∈ before, p.block < W.heap.size := fun p hp => hW.lt p hp
  have hW0 := hW
  obtain ⟨p, q, hA, hV, hpq, hz, hn⟩ := hW
  rw [hvars] at hV
  obtain ⟨rfl, rfl⟩ := trodVars_none hV
  rw [List.append_nil] at hpq
  subst hpq
  refine ⟨ds, [], before, [], before, [], hW0, ?_, ?_, ?_, World.keptBut_mono (fun p hp => ⟨hp, ?_⟩) (hb.frame (· ∈ before)), fun hg => by cases hg⟩
  · rw [hspec.1, hres]
    exact trodAll_mk1 (shut_bool htb _)
  · rw [hspec.2.1]
    exact trodAll_below hl hb hread hA hlt
  · rw [hspec.2.2, hvars]; exact rfl
  · simpa using hp
end

theorem length_of_trodAll {H : Type} {enc : TypeId × Value → H} {P : Program} {W : World} {base : Nat} {sp : Nat → Bool} {hd : Bool} : ∀ {ts : List TypeId} {vs : List Value} {ds : List (DataW H)} {ps : List MemPlace}, DataW.TrodAll enc P W base sp hd ts vs ds ps → ds.length = ts.length
  | [], [], [], _, _ => rfl
  | _ :: ts, _ :: vs, _ :: ds, _, ⟨_, _, _, h, _⟩ => by simp [length_of_trodAll h]
  | [], _ :: _, _, _, h => h.elim
  | [], [], _ :: _, _, h => h.elim
  | _ :: _, [], _, _, h => h.elim
  | _ :: _, _ :: _, [], _, h => h.elim

/-- A LAW's ROW, FROM ITS WALK. 'n': how many parameters. -/
theorem law_lifted {H : Type} {enc : TypeId × Value → H} {C : Checked} {os : Os} {f : FuncId} {fn : Func} {s : ChangeSpec} {tb : TypeId}
    (own : ownKnob C.prog.godebug = none) (started : os.Started) (noInit : C.prog.inits.idxOf? f = none) (hfn : C.prog.funcs[f]? = some fn)
    (witness : ∃ (w : World) (tape : Tape) (i : Input), w.os = os ∧ (w.forCall tape i).Shaped C.prog ∧ i.vars = [] ∧ Input.okWide C.prog (w.forCall tape i) .any w.heap.size f i ∧
      s.pre6 enc C.prog fn [] false (w.forCall tape i).memory i.args ∧ ({} : Assume).holds C.prog (lone (Frame.enter C.prog f i.args .normal) [] (w.forCall tape i)))
    (hl : laidOutB C.prog = true) (hread : (fn.params.toList.all fun t => C.prog.readableRec t && decide (t < C.prog.types.size)) = true)
    (hvars : s.vars = []) (hres : fn.resultTypes = #[tb]) (htb : C.prog.underlying tb = some .bool)
    (hspec : ∀ ds : List (DataW H), ds.length = fn.params.toList.length → (s.fn H (ds ++ [])).results = [.lit (.bool true)] ∧ (s.fn H (ds ++ [])).args = ds ∧ (s.fn H (ds ++ [])).vars = [])
    (walk : ∀ (W : World) (base : Nat) (args : Array Value) (ds : List (DataW H)) (p : List MemPlace),
      (∀ (j : Nat) t v, fn.params[j]? = some t → args[j]? = some v → Value.okWide C.prog W .any base t v) →
      DataW.TrodAll enc C.prog W 0 (fun _ => true) true fn.params.toList args.toList ds p → (∀ x ∈ p, x.block < W.heap.size) →
      (DataW.weightsEach C.prog fn.params.toList ds).all (· ≤ reachBytes) = true →
      Calls C.prog f args W fun e W' => e = .returned (.bool true) ∧ Below W.heap.size W W') :
    ReturnsInHanded {} C os f .any (s.pre6 enc C.prog fn [] false) (s.post enc C.prog fn false true false false) := by
  refine returnsInHanded_of_change_sized own started noInit hfn witness ?_
  intro W base args ds gs before hval hW _ hsz _
  have hlt : ∀ x ∈ before, x.block < W.heap.size := fun x hx => hW.lt x hx
  have hW0 := hW
  obtain ⟨p, q, hA, hV, hpq, hz, hn⟩ := hW
  have hgs : gs = [] := by
    rw [hvars] at hV
    exact (trodVars_none hV).1
  have hq : q = [] := by
    rw [hvars] at hV
    exact (trodVars_none hV).2
  subst hgs; subst hq
  rw [List.append_nil] at hpq
  subst hpq
  have hty : s.plain.varTypes C.prog = [] := by
    have : s.plain.vars = [] := hvars
    unfold DataSpec.varTypes
    rw [this]; rfl
  rw [hty, List.append_nil, List.append_nil] at hsz
  refine (walk W base args ds before hval hA hlt hsz).mono fun e W' ⟨he, hb⟩ => ⟨_, he, ?_⟩
  refine law_post hW0 hl (fun t ht => ?_) hvars hres htb (hspec ds (length_of_trodAll hA)) hb
  have := List.all_eq_true.1 hread t ht
  simpa using this
end Go.Proofs.YtcnllohpkgmkpaaDoor.Frame
/- A law that returns true and lets the old memory be: its row, from its walk, where the library's tables are laid: the general part. -/
namespace Go.Proofs.YtcnllohpkgmkpaaDoor.Frame
open Go.ChangeShapes Go.WideShapes Go.ChangeAt Go.RowKit

theorem law_lifted_laid {H : Type} {enc : TypeId × Value → H} {C : Checked} {os : Os} {f : FuncId} {fn : Func} {s : ChangeSpec} {tb : TypeId} {X : World → Prop}
    (hX : ∀ (w w' : World), w.heap = w'.heap → X w → X w')
    (own : ownKnob C.prog.godebug = none) (started : os.Started) (noInit : C.prog.inits.idxOf? f = none) (hfn : C.prog.funcs[f]? = some fn)
    (witness : ∃ (w : World) (tape : Tape) (i : Input), w.os = os ∧ (w.forCall tape i).Shaped C.prog ∧ i.vars = [] ∧ Input.okWide C.prog (w.forCall tape i) .any w.heap.size f i ∧
      ((s.pre enc C.prog fn [] false (w.forCall tape i).memory i.args ∧ X (w.forCall tape i).memory) ∧ sizedMet enc C.prog fn (OpenSpec.ofChange s) false (w.forCall tape i).memory i.args) ∧ ({} : Assume).holds C.prog (lone (Frame.enter C.prog f i.args .normal) [] (w.forCall tape i)))
    (hl : laidOutB C.prog = true) (hread : (fn.params.toList.all fun t => C.prog.readableRec t && decide (t < C.prog.types.size)) = true)
    (hvars : s.vars = []) (hres : fn.resultTypes = #[tb]) (htb : C.prog.underlying tb = some .bool)
    (hspec : ∀ ds : List (DataW H), ds.length = fn.params.toList.length → (s.fn H (ds ++ [])).results = [.lit (.bool true)] ∧ (s.fn H (ds ++ [])).args = ds ∧ (s.fn H (ds ++ [])).vars = [])
    (walk : ∀ (W : World) (base : Nat) (args : Array Value) (ds : List (DataW H)) (p : List MemPlace),
      (∀ (j : Nat) t v, fn.params[j]? = some t → args[j]? = some v → Value.okWide C.prog W .any base t v) →
      DataW.TrodAll enc C.prog W 0 (fun _ => true) true fn.params.toList args.toList ds p → (∀ x ∈ p, x.block < W.heap.size) →
      (DataW.weightsEach C.prog fn.params.toList ds).all (· ≤ reachBytes) = true → X W →
      Calls C.prog f args W fun e W' => e = .returned (.bool true) ∧ Below W.heap.size W W') :
    ReturnsInHanded {} C os f .any (fun w args => (s.pre enc C.prog fn [] false w args ∧ X w) ∧ sizedMet enc C.prog fn (OpenSpec.ofChange s) false w args) (s.post enc C.prog fn false true false false) := by
  refine returnsInHanded_of_change_and (C := C) (X := fun w _ => X w) (fun w w' _ hh h => hX w w' hh h) own started noInit hfn witness ?_
  intro W base args ds gs before hval hW _ hsz hXW _
  have hlt : ∀ x ∈ before, x.block < W.heap.size := fun x hx => hW.lt x hx
  have hW0 := hW
  obtain ⟨p, q, hA, hV, hpq, hz, hn⟩ := hW
  have hgs : gs = [] := by
    rw [hvars] at hV
    exact (trodVars_none hV).1
  have hq : q = [] := by
    rw [hvars] at hV
    exact (trodVars_none hV).2
  subst hgs; subst hq
  rw [List.append_nil] at hpq
  subst hpq
  have hty : s.plain.varTypes C.prog = [] := by
    have : s.plain.vars = [] := hvars
    unfold DataSpec.varTypes
    rw [this]; rfl
  rw [hty, List.append_nil, List.append_nil] at hsz
  refine (walk W base args ds before hval hA hlt hsz hXW).mono fun e W' ⟨he, hb⟩ => ⟨_, he, ?_⟩
  refine law_post hW0 hl (fun t ht => ?_) hvars hres htb (hspec ds (length_of_trodAll hA)) hb
  have := List.all_eq_true.1 hread t ht
  simpa using this
end Go.Proofs.YtcnllohpkgmkpaaDoor.Frame
/- The door of the laws that write decimal texts: the library's table of powers of ten is laid. -/
namespace Go.Proofs.YtcnllohpkgmkpaaDoor
open Go.ChangeShapes Go.WideShapes Go.ChangeAt Go.RowKit

abbrev laid3 : List (String × DataW Unit) := [("math/bits.deBruijn32tab", Rows.laid_math_bits_deBruijn32tab), ("math/bits.deBruijn64tab", Rows.laid_math_bits_deBruijn64tab), ("internal/strconv.uint64pow10", Rows.laid_internal_strconv_uint64pow10)]
/-- What the library's table of powers of ten holds. -/
def PowTab (w : World) : Prop := Lib.TabIs Tryd.prog w "internal/strconv.uint64pow10" .u64 Lib.pow10Tab
theorem pow_data : (Rows.laid_internal_strconv_uint64pow10 : DataW Unit) = Lib.tabData .u64 Lib.pow10Tab := by kernel_rfl
theorem pow_of_laid {W : World} (h : laidMetH Tryd.prog laid3 W) : PowTab W := by
  rw [MakeChecks.laidMetH_plain _ _ _ (by kernel_rfl)] at h
  have h2 := h.tail.tail
  rw [pow_data] at h2
  exact Lib.tabIs_of_head (g := 2) (t := 173) (e := 150) (n := 20) (by kernel_rfl) (by kernel_rfl) Tryd.underlying173 Tryd.underlying150 (by kernel_rfl) (by kernel_rfl) h2
set_option maxRecDepth 100000 in
theorem door3_met (os : Os) (args : Array Value) : laidMetH Tryd.prog laid3 ((World.doorLaid Tryd.prog 400 os).forCall (fun _ _ => 0) ⟨#[], args, []⟩).memory :=
  laidMetH_of_parts3 (fuel := 8) (laidMet_of_run' 8 (by kernel_rfl) (by kernel_rfl)) (by kernel_rfl) (by kernel_rfl)
end Go.Proofs.YtcnllohpkgmkpaaDoor
/- The door of the laws that read decimal texts: the library's table of powers of ten and its two errors are laid. -/
namespace Go.Proofs.YtcnllohpkgmkpaaDoor
open Go.ChangeShapes Go.WideShapes Go.ChangeAt Go.RowKit

abbrev laid5 : List (String × DataW Unit) := [("math/bits.deBruijn32tab", Rows.laid_math_bits_deBruijn32tab), ("math/bits.deBruijn64tab", Rows.laid_math_bits_deBruijn64tab), ("internal/strconv.uint64pow10", Rows.laid_internal_strconv_uint64pow10), ("strconv.ErrRange", Rows.laid_strconv_ErrRange), ("strconv.ErrSyntax", Rows.laid_strconv_ErrSyntax)]
/-- What the library's variables hold. -/
def ErrTab (w : World) : Prop := PowTab w ∧ (∃ tp p, w.var? Tryd.prog "strconv.ErrSyntax" = some #[.iface tp p]) ∧ (∃ tp p, w.var? Tryd.prog "strconv.ErrRange" = some #[.iface tp p])
theorem star_err : "*" ++ "errors.errorString" = "*errors.errorString" := by decide
theorem row_err (u : TypeId) (h : Tryd.prog.typeName? 3 u = some "*errors.errorString") : u = 189 :=
  typeName_ptr_named (nm := "errors.errorString") (by rw [star_err]; kernel_rfl) (by kernel_rfl) (by decide) u (by rw [star_err]; exact h)
theorem err_of_laid {W : World} (h : laidMetH Tryd.prog laid5 W) : ErrTab W := by
  rw [MakeChecks.laidMetH_plain _ _ _ (by kernel_rfl)] at h
  have h2 := h.tail.tail
  have h3 := h2.tail
  have h4 := h3.tail
  rw [pow_data] at h2
  obtain ⟨a0, s0, hv0, -, -, -⟩ := laid_sentinel h3 (g := 4) (ti := 117) (tp := 189) (te := 191) (ts := 9) (by kernel_rfl) (by kernel_rfl) Tryd.underlying117 row_err Tryd.underlying189 Tryd.underlying191 rfl rfl Tryd.underlying9 (by kernel_rfl) (by kernel_rfl)
  obtain ⟨a1, s1, hv1, -, -, -⟩ := laid_sentinel h4 (g := 3) (ti := 117) (tp := 189) (te := 191) (ts := 9) (by kernel_rfl) (by kernel_rfl) Tryd.underlying117 row_err Tryd.underlying189 Tryd.underlying191 rfl rfl Tryd.underlying9 (by kernel_rfl) (by kernel_rfl)
  exact ⟨Lib.tabIs_of_head (g := 2) (t := 173) (e := 150) (n := 20) (by kernel_rfl) (by kernel_rfl) Tryd.underlying173 Tryd.underlying150 (by kernel_rfl) (by kernel_rfl) h2, ⟨_, _, hv1⟩, ⟨_, _, hv0⟩⟩
set_option maxRecDepth 100000 in
theorem door5_met (os : Os) (args : Array Value) : laidMetH Tryd.prog laid5 ((World.doorLaid Tryd.prog 400 os).forCall (fun _ _ => 0) ⟨#[], args, []⟩).memory :=
  laidMetH_of_parts3 (fuel := 8) (laidMet_of_run' 8 (by kernel_rfl) (by kernel_rfl)) (by kernel_rfl) (by kernel_rfl)
end Go.Proofs.YtcnllohpkgmkpaaDoor
/- strconv.FormatInt laid at this program: its code is the shelf's own, number by number. -/
namespace Go.Proofs.YtcnllohpkgmkpaaDoor
open Go.Shelf
def Tryd.lays173_ren : Go.Shelf.Ren := ⟨fun | 173 => 81 | 246 => 113 | 283 => 136 | 284 => 137 | 285 => 138 | 286 => 139 | 129 => 155 | 317 => 154 | 318 => 156 | 319 => 157 | 320 => 158 | 337 => 167 | 338 => 168 | n => n, fun | 2 => 2 | 3 => 3 | 9 => 9 | 4 => 4 | 171 => 149 | 0 => 0 | 53 => 150 | 37 => 100 | 5 => 5 | 173 => 153 | 212 => 173 | 51 => 134 | 20 => 20 | 213 => 174 | 46 => 126 | 232 => 192 | 233 => 193 | n => n, fun | 17 => 2 | 18 => 7 | 19 => 8 | n => n⟩
theorem Tryd.lays173 : Go.Proofs.LaysM.n173 Tryd.prog Tryd.lays173_ren := {
  mixed := by kernel_rfl
  f129 := Tryd.func155.trans (congrArg some (by kernel_rfl))
  f173 := Tryd.func81.trans (congrArg some (by kernel_rfl))
  f246 := Tryd.func113.trans (congrArg some (by kernel_rfl))
  f283 := Tryd.func136.trans (congrArg some (by kernel_rfl))
  f284 := Tryd.func137.trans (congrArg some (by kernel_rfl))
  f285 := Tryd.func138.trans (congrArg some (by kernel_rfl))
  f286 := Tryd.func139.trans (congrArg some (by kernel_rfl))
  f317 := Tryd.func154.trans (congrArg some (by kernel_rfl))
  f318 := Tryd.func156.trans (congrArg some (by kernel_rfl))
  f319 := Tryd.func157.trans (congrArg some (by kernel_rfl))
  f320 := Tryd.func158.trans (congrArg some (by kernel_rfl))
  f337 := Tryd.func167.trans (congrArg some (by kernel_rfl))
  f338 := Tryd.func168.trans (congrArg some (by kernel_rfl))
  t0 := Tryd.underlying0
  a0 := Tryd.isAgg0
  z0 := Tryd.sizeOf0
  v0 := Tryd.zeroValue0
  t2 := Tryd.underlying2
  a2 := Tryd.isAgg2
  z2 := Tryd.sizeOf2
  v2 := Tryd.zeroValue2
  t3 := Tryd.underlying3
  a3 := Tryd.isAgg3
  z3 := Tryd.sizeOf3
  v3 := Tryd.zeroValue3
  t4 := Tryd.underlying4
  a4 := Tryd.isAgg4
  z4 := Tryd.sizeOf4
  v4 := Tryd.zeroValue4
  t5 := Tryd.underlying5
  a5 := Tryd.isAgg5
  z5 := Tryd.sizeOf5
  v5 := Tryd.zeroValue5
  t9 := Tryd.underlying9
  a9 := Tryd.isAgg9
  z9 := Tryd.sizeOf9
  v9 := Tryd.zeroValue9
  t20 := Tryd.underlying20
  a20 := Tryd.isAgg20
  z20 := Tryd.sizeOf20
  v20 := Tryd.zeroValue20
  t37 := Tryd.underlying100
  a37 := Tryd.isAgg100
  z37 := Tryd.sizeOf100
  v37 := Tryd.zeroValue100
  t46 := Tryd.underlying126
  a46 := Tryd.isAgg126
  z46 := Tryd.sizeOf126
  v46 := Tryd.zeroValue126
  t51 := Tryd.underlying134
  a51 := Tryd.isAgg134
  z51 := Tryd.sizeOf134
  v51 := Tryd.zeroValue134
  t53 := Tryd.underlying150
  a53 := Tryd.isAgg150
  z53 := Tryd.sizeOf150
  v53 := Tryd.zeroValue150
  t171 := Tryd.underlying149
  a171 := Tryd.isAgg149
  z171 := Tryd.sizeOf149
  v171 := Tryd.zeroValue149
  t173 := Tryd.underlying153
  a173 := Tryd.isAgg153
  z173 := Tryd.sizeOf153
  v173 := Tryd.zeroValue153
  t212 := Tryd.underlying173
  a212 := Tryd.isAgg173
  z212 := Tryd.sizeOf173
  v212 := Tryd.zeroValue173
  t213 := Tryd.underlying174
  a213 := Tryd.isAgg174
  z213 := Tryd.sizeOf174
  t232 := Tryd.underlying192
  a232 := Tryd.isAgg192
  z232 := Tryd.sizeOf192
  v232 := Tryd.zeroValue192
  t233 := Tryd.underlying193
  a233 := Tryd.isAgg193
  z233 := Tryd.sizeOf193
  v233 := Tryd.zeroValue193
  g17 := by kernel_rfl
  g18 := by kernel_rfl
  g19 := by kernel_rfl
  i0 := by kernel_rfl
  i2 := by kernel_rfl
  i3 := by kernel_rfl
  i4 := by kernel_rfl
  i5 := by kernel_rfl
  i9 := by kernel_rfl
  i20 := by kernel_rfl
  i37 := by kernel_rfl
  i46 := by kernel_rfl
  i51 := by kernel_rfl
  i53 := by kernel_rfl
  i171 := by kernel_rfl
  i173 := by kernel_rfl
  i212 := by kernel_rfl
  i232 := by kernel_rfl
  i233 := by kernel_rfl
  m17 := by kernel_rfl
  m18 := by kernel_rfl
  m19 := by kernel_rfl }
end Go.Proofs.YtcnllohpkgmkpaaDoor
/- The decimal text of a number: the model. -/
namespace Go.Proofs.YtcnllohpkgmkpaaDoor
open Go.RowKit Go.ChangeShapes Go.WideShapes

/-- A value of a byte. -/
def byV (b : UInt8) : Value := .int .u8 (b.toNat : Int)
/-- A slice that holds bytes. -/
def ByAt (D : List UInt8) (v : Value) (w : World) : Prop := ∃ g c, v = .slice (some ⟨g, 0, none⟩) D.length c ∧ g < w.heap.size ∧ ∀ j (hj : j < D.length), w.cell? ⟨g, j, none⟩ = some (.int .u8 (D[j].toNat : Int))
theorem ByAt.below {D : List UInt8} {v : Value} {w w' : World} (h : ByAt D v w) (hb : Below w.heap.size w w') : ByAt D v w' := by
  obtain ⟨g, c, rfl, hg, hc⟩ := h
  exact ⟨g, c, rfl, Nat.lt_of_lt_of_le hg hb.size, fun j hj => by rw [hb.cell (p := ⟨g, j, none⟩) hg]; exact hc j hj⟩
theorem ByAt.of {D : List UInt8} {v : Value} {w : World} {B : Nat} (h : Grows byV 5 B v D w) (h0 : D ≠ []) : ByAt D v w := by
  have hc := fun g hg => World.ownsRow.cells (g := g) h hg
  have hl : 0 < D.length := List.length_pos_iff.2 h0
  obtain ⟨-, ⟨-, h1⟩ | ⟨g, cap, cur, rfl, hB, hg, hn, hm, -, -⟩⟩ := h
  · omega
  · refine ⟨g, cap, rfl, (Array.getElem?_eq_some_iff.1 hg).1, fun j hj => ?_⟩
    have h1 := hc g rfl j (byV D[j]) (by simp [hj])
    rw [Addr.add_lit] at h1
    simpa [byV] using h1
theorem ByAt.vals {D : List UInt8} {g : Nat} {w : World} (h : ∀ j (hj : j < D.length), w.cell? ⟨g, j, none⟩ = some (.int .u8 (D[j].toNat : Int))) : ∀ j u, (D.map byV)[j]? = some u → w.cell? ((⟨g, 0, none⟩ : Addr).add j) = some u := by
  intro j u hu
  rw [List.getElem?_map] at hu
  have hj : j < D.length := by
    rcases Nat.lt_or_ge j D.length with h1 | h1
    · exact h1
    · rw [List.getElem?_eq_none h1] at hu; cases hu
  rw [List.getElem?_eq_getElem hj] at hu
  injection hu with hu
  rw [Go.WideShapes.add_plain, Nat.zero_add, h j hj, ← hu]; rfl
theorem byV_one (D : List UInt8) : ∀ u ∈ D.map byV, u.oneCell' = true := fun u hu => by
  obtain ⟨b, -, rfl⟩ := List.mem_map.1 hu
  rfl
theorem Tryd.infoBy : (Tryd.prog.info? 5).map (fun i => (i.zero, i.size, i.bytes)) = some (some (.int .u8 0), 1, 1) := by kernel_rfl
theorem dcAt_q {u q : Nat} {D : List UInt8} (h : DcAt u q D) : q ≤ u := by
  have h1 : q * 1 ≤ q * 10 ^ D.length := Nat.mul_le_mul_left _ (Nat.pow_pos (by omega))
  have := h.le
  omega
theorem byte_dig (q : Nat) : ((UInt8.ofNat (48 + q % 10)).toNat : Int) = 48 + ((q % 10 : Nat) : Int) := by
  have : (48 + q % 10) % 256 = 48 + q % 10 := by omega
  rw [UInt8.toNat_ofNat', show (2 ^ 8 : Nat) = 256 from rfl, this]; omega
/-- The number that is still to be written, with the sign of n. -/
def Sgn (n r : Int) (q : Nat) : Prop := r.natAbs = q ∧ (0 ≤ n → 0 ≤ r) ∧ (n < 0 → r ≤ 0)
theorem sign_step {n r t z : Int} {q m : Nat} (h : Sgn n r q) (ht : t = Int.tdiv r 10) (hz : z = Int.tmod r 10) (hm : m = q % 10) : Sgn n t (q / 10) ∧ z.natAbs = m := by
  obtain ⟨h1, h2, h3⟩ := h
  subst ht hz hm h1
  refine ⟨⟨by rw [Int.natAbs_tdiv]; rfl, fun h => Int.tdiv_nonneg (h2 h) (by omega), fun h => ?_⟩, by rw [Int.natAbs_tmod]; rfl⟩
  have := h3 h
  have h4 : Int.tdiv (-r) 10 = -Int.tdiv r 10 := Int.neg_tdiv ..
  have h5 : 0 ≤ Int.tdiv (-r) 10 := Int.tdiv_nonneg (by omega) (by omega)
  omega
theorem sign_bound {n r t : Int} {q : Nat} (h : Sgn n r q) (hq : q ≤ 9223372036854775808) (ht : t = Int.tdiv r 10) : -9223372036854775808 ≤ t ∧ t ≤ 9223372036854775807 := by
  have h1 : t.natAbs = q / 10 := (sign_step h ht rfl rfl).1.1
  omega
def SaysS (D : List UInt8) (w : World) (e : Ending) (w' : World) : Prop := e = .returned (.string ⟨D.toArray⟩) ∧ Below w.heap.size w w'
set_option maxRecDepth 100000 in
set_option maxHeartbeats 4000000 in
theorem l01Dec_any (n : Int) (w : World) (h0 : -9223372036854775808 ≤ n) (h1 : n ≤ 9223372036854775807) :
    Calls Tryd.prog 73 #[.int .i64 n] w (SaysS (Lib.itoa n) w) := by
  obtain ⟨i0, hi, hz0, hz1, hz2⟩ := info_parts Tryd.infoBy
  have hu : n.natAbs ≤ 9223372036854775808 := by omega
  have S0 : Hid (Sgn n n n.natAbs) := Lib.hid ⟨rfl, fun h => h, fun h => by omega⟩
  have HIN : Hid (n < 0 → Lib.itoa n = 45 :: Lib.decDigits n.natAbs) := Lib.hid itoa_neg
  have HIP : Hid (¬ n < 0 → Lib.itoa n = Lib.decDigits n.natAbs) := Lib.hid itoa_pos
  generalize n.natAbs = u at *
  have HU : Hid (u ≤ 9223372036854775808) := Lib.hid hu
  have ND := Lib.hid (show Lib.decDigits u ≠ [] from by rw [Lib.decDigits_eq]; have := Lib.nDigits_pos u; intro h; have h2 := congrArg List.length h; simp at h2; omega)
  have A0 : Hid (ByAt [] (.slice (some ⟨w.heap.size, 0, none⟩) 0 0) (w.alloc (.cells #[] 5))) := Lib.hid ⟨_, _, rfl, by simp, fun j hj => by simp at hj⟩
  have B0 := Lib.hid (below_alloc w (.cells #[] 5))
  clear hu
  go_enter Tryd.func73, Tryd.ntmps73
  go_wp2_with fail
  go_loopg [3, 4] 25 (fun gk s rv wr => ∃ (q : Nat) (D : List UInt8) (r : Int), gk + D.length = 25 ∧ rv = .int .i64 r ∧ Sgn n r q ∧ DcAt u q D ∧ ByAt D s wr ∧ Below w.heap.size w wr)
  case atStart => exact ⟨u, [], n, rfl, rfl, S0.out, dcAt_start u, A0.out, B0.out⟩
  case round =>
    obtain ⟨q, D, r, hgk, rfl, hSG, hDC, hBy, hB⟩ := hrel
    clear A0 B0 S0
    have HSG := Lib.hid hSG
    have HDC := Lib.hid hDC
    have HB := Lib.hid hB
    obtain ⟨g, c, rfl, hg, hcd⟩ := hBy
    have HCD := Lib.hid hcd
    have hr0 := hSG.1
    obtain ⟨N, hN⟩ : ∃ N, D.length = N := ⟨_, rfl⟩
    rw [hN] at hgk ⊢
    have HN := Lib.hid hN
    clear hSG hDC hB hcd
    by_cases hq : q ≠ 0 ∨ D = []
    · have HQ := Lib.hid hq
      by_cases hD : N = 0
      · have d1 : ((N : Int) == 0) = true := by rw [beq_iff_eq]; omega
        have HD := Lib.hid hD
        clear hD hq hr0 hN
        obtain ⟨m, hm⟩ : ∃ m, m = q % 10 := ⟨_, rfl⟩
        obtain ⟨t, htd⟩ : ∃ t : Int, t = Int.tdiv r 10 := ⟨_, rfl⟩
        obtain ⟨z, hz⟩ : ∃ z : Int, z = Int.tmod r 10 := ⟨_, rfl⟩
        have m10 : m < 10 := by omega
        have NX := Lib.hid (dcAt_step HDC.out HQ.out)
        have LEN : N ≤ 18 := by rw [← HN.out]; exact dcAt_len HDC.out HU.out HQ.out
        obtain ⟨b, hb⟩ : ∃ b, b = UInt8.ofNat (48 + q % 10) := ⟨_, rfl⟩
        have hb2 : (b.toNat : Int) = 48 + (m : Int) := by rw [hb, hm]; exact byte_dig _
        rw [← hb] at NX
        have sg := sign_step HSG.out htd hz hm
        have TN := Lib.hid sg.1
        have zc := sg.2
        have ft : Int.tmod r 10 = z := hz.symm
        have fq : Int.tdiv r 10 = t := htd.symm
        have tb : -9223372036854775808 ≤ t ∧ t ≤ 9223372036854775807 := sign_bound HSG.out (Nat.le_trans (dcAt_q HDC.out) HU.out) htd
        have wq : IntKind.i64.wrap t = t := by rw [IntKind.wrap_i64]; omega
        have wb : IntKind.u8.wrap (48 + (m : Int)) = 48 + (m : Int) := by rw [IntKind.wrap_u8]; omega
        have G1 : Hid ((wr.alloc (.cells #[.int .u8 (48 + (m : Int))] 5)).ownsRow w.heap.size 5 1 (.slice (some ⟨wr.heap.size, 0, none⟩) 1 1) 1 ([b].map byV)) := Lib.hid (by
          have h := Grows.one (mk := byV) 5 w.heap.size wr b HB.out.size
          have e : byV b = .int .u8 (48 + (m : Int)) := by unfold byV; rw [hb2]
          rw [e] at h
          exact h)
        have CD := Lib.hid (fun j (hj : j < D.length) => keep_cell (HCD.out j hj) (below_alloc wr (.cells #[.int .u8 (48 + (m : Int))] 5)) hg)
        have HGK := Lib.hid hgk
        have HZ := Lib.hid zc
        clear hm hb hb2 htd hz sg zc tb hgk
        by_cases hs : z < 0
        · have wz : IntKind.i64.wrap (-z) = (m : Int) := by have := HZ.out; rw [IntKind.wrap_i64]; omega
          have dz : decide (z < 0) = true := by simp [hs]
          clear hs
          go_wp2_with (at_builtin; refine wpList_append_own _ rfl _ _ 100 rfl w.heap.size 5 i0 (.int .u8 0) 1 1 Tryd.underlying100 hi hz0 hz1 hz2 rfl (by decide) _ _ _ rfl G1.out ⟨g, 0, none⟩ N c (D.map byV) rfl (by rw [List.length_map, HN.out, Nat.mul_one]) (ByAt.vals CD.out) (byV_one D) (by unfold maxLen; omega) (by omega) (by have := HB.out.size; simp; omega) ?_)
          intro v' w' hown hgrow _
          have GN := Grows.more (mk := byV) (Z := [b]) (news := D) HN.out hown
          have BN : Hid (Below w.heap.size w w') := Lib.hid ((HB.out.alloc HB.out.size _).grown hgrow (by have := HB.out.size; simp; omega) (fun q hq => (World.ownsRow.lt G1.out q hq).1))
          have AN := Lib.hid (ByAt.of GN (by simp))
          clear hown hgrow GN
          go_wp2_with fail
          go_roundg (gk - 1)
          case measure => have := HGK.out; omega
          case rel => exact ⟨q / 10, b :: D, t, by have := HGK.out; rw [List.length_cons, HN.out]; omega, rfl, TN.out, NX.out, AN.out, BN.out⟩
        · obtain rfl : z = (m : Int) := by have := HZ.out; omega
          have dz : decide ((m : Int) < 0) = false := by simp
          clear hs
          go_wp2_with (at_builtin; refine wpList_append_own _ rfl _ _ 100 rfl w.heap.size 5 i0 (.int .u8 0) 1 1 Tryd.underlying100 hi hz0 hz1 hz2 rfl (by decide) _ _ _ rfl G1.out ⟨g, 0, none⟩ N c (D.map byV) rfl (by rw [List.length_map, HN.out, Nat.mul_one]) (ByAt.vals CD.out) (byV_one D) (by unfold maxLen; omega) (by omega) (by have := HB.out.size; simp; omega) ?_)
          intro v' w' hown hgrow _
          have GN := Grows.more (mk := byV) (Z := [b]) (news := D) HN.out hown
          have BN : Hid (Below w.heap.size w w') := Lib.hid ((HB.out.alloc HB.out.size _).grown hgrow (by have := HB.out.size; simp; omega) (fun q hq => (World.ownsRow.lt G1.out q hq).1))
          have AN := Lib.hid (ByAt.of GN (by simp))
          clear hown hgrow GN
          go_wp2_with fail
          go_roundg (gk - 1)
          case measure => have := HGK.out; omega
          case rel => exact ⟨q / 10, b :: D, t, by have := HGK.out; rw [List.length_cons, HN.out]; omega, rfl, TN.out, NX.out, AN.out, BN.out⟩
      · have d1 : ((N : Int) == 0) = false := by rw [beq_eq_false_iff_ne]; omega
        have hq2 : q ≠ 0 := by
          rcases hq with h | h
          · exact h
          · subst h; simp at hN; omega
        have d2 : (r != 0) = true := by rw [bne_iff_ne]; omega
        clear hD hq hr0 hq2 hN
        obtain ⟨m, hm⟩ : ∃ m, m = q % 10 := ⟨_, rfl⟩
        obtain ⟨t, htd⟩ : ∃ t : Int, t = Int.tdiv r 10 := ⟨_, rfl⟩
        obtain ⟨z, hz⟩ : ∃ z : Int, z = Int.tmod r 10 := ⟨_, rfl⟩
        have m10 : m < 10 := by omega
        have NX := Lib.hid (dcAt_step HDC.out HQ.out)
        have LEN : N ≤ 18 := by rw [← HN.out]; exact dcAt_len HDC.out HU.out HQ.out
        obtain ⟨b, hb⟩ : ∃ b, b = UInt8.ofNat (48 + q % 10) := ⟨_, rfl⟩
        have hb2 : (b.toNat : Int) = 48 + (m : Int) := by rw [hb, hm]; exact byte_dig _
        rw [← hb] at NX
        have sg := sign_step HSG.out htd hz hm
        have TN := Lib.hid sg.1
        have zc := sg.2
        have ft : Int.tmod r 10 = z := hz.symm
        have fq : Int.tdiv r 10 = t := htd.symm
        have tb : -9223372036854775808 ≤ t ∧ t ≤ 9223372036854775807 := sign_bound HSG.out (Nat.le_trans (dcAt_q HDC.out) HU.out) htd
        have wq : IntKind.i64.wrap t = t := by rw [IntKind.wrap_i64]; omega
        have wb : IntKind.u8.wrap (48 + (m : Int)) = 48 + (m : Int) := by rw [IntKind.wrap_u8]; omega
        have G1 : Hid ((wr.alloc (.cells #[.int .u8 (48 + (m : Int))] 5)).ownsRow w.heap.size 5 1 (.slice (some ⟨wr.heap.size, 0, none⟩) 1 1) 1 ([b].map byV)) := Lib.hid (by
          have h := Grows.one (mk := byV) 5 w.heap.size wr b HB.out.size
          have e : byV b = .int .u8 (48 + (m : Int)) := by unfold byV; rw [hb2]
          rw [e] at h
          exact h)
        have CD := Lib.hid (fun j (hj : j < D.length) => keep_cell (HCD.out j hj) (below_alloc wr (.cells #[.int .u8 (48 + (m : Int))] 5)) hg)
        have HGK := Lib.hid hgk
        have HZ := Lib.hid zc
        clear hm hb hb2 htd hz sg zc tb hgk
        by_cases hs : z < 0
        · have wz : IntKind.i64.wrap (-z) = (m : Int) := by have := HZ.out; rw [IntKind.wrap_i64]; omega
          have dz : decide (z < 0) = true := by simp [hs]
          clear hs
          go_wp2_with (at_builtin; refine wpList_append_own _ rfl _ _ 100 rfl w.heap.size 5 i0 (.int .u8 0) 1 1 Tryd.underlying100 hi hz0 hz1 hz2 rfl (by decide) _ _ _ rfl G1.out ⟨g, 0, none⟩ N c (D.map byV) rfl (by rw [List.length_map, HN.out, Nat.mul_one]) (ByAt.vals CD.out) (byV_one D) (by unfold maxLen; omega) (by omega) (by have := HB.out.size; simp; omega) ?_)
          intro v' w' hown hgrow _
          have GN := Grows.more (mk := byV) (Z := [b]) (news := D) HN.out hown
          have BN : Hid (Below w.heap.size w w') := Lib.hid ((HB.out.alloc HB.out.size _).grown hgrow (by have := HB.out.size; simp; omega) (fun q hq => (World.ownsRow.lt G1.out q hq).1))
          have AN := Lib.hid (ByAt.of GN (by simp))
          clear hown hgrow GN
          go_wp2_with fail
          go_roundg (gk - 1)
          case measure => have := HGK.out; omega
          case rel => exact ⟨q / 10, b :: D, t, by have := HGK.out; rw [List.length_cons, HN.out]; omega, rfl, TN.out, NX.out, AN.out, BN.out⟩
        · obtain rfl : z = (m : Int) := by have := HZ.out; omega
          have dz : decide ((m : Int) < 0) = false := by simp
          clear hs
          go_wp2_with (at_builtin; refine wpList_append_own _ rfl _ _ 100 rfl w.heap.size 5 i0 (.int .u8 0) 1 1 Tryd.underlying100 hi hz0 hz1 hz2 rfl (by decide) _ _ _ rfl G1.out ⟨g, 0, none⟩ N c (D.map byV) rfl (by rw [List.length_map, HN.out, Nat.mul_one]) (ByAt.vals CD.out) (byV_one D) (by unfold maxLen; omega) (by omega) (by have := HB.out.size; simp; omega) ?_)
          intro v' w' hown hgrow _
          have GN := Grows.more (mk := byV) (Z := [b]) (news := D) HN.out hown
          have BN : Hid (Below w.heap.size w w') := Lib.hid ((HB.out.alloc HB.out.size _).grown hgrow (by have := HB.out.size; simp; omega) (fun q hq => (World.ownsRow.lt G1.out q hq).1))
          have AN := Lib.hid (ByAt.of GN (by simp))
          clear hown hgrow GN
          go_wp2_with fail
          go_roundg (gk - 1)
          case measure => have := HGK.out; omega
          case rel => exact ⟨q / 10, b :: D, t, by have := HGK.out; rw [List.length_cons, HN.out]; omega, rfl, TN.out, NX.out, AN.out, BN.out⟩
    · have hq0 : q = 0 := by
        rcases Nat.eq_zero_or_pos q with h | h
        · exact h
        · exact absurd (Or.inl (by omega)) hq
      have hD : D ≠ [] := fun h => hq (Or.inr h)
      subst hq0
      have hN0 := List.length_pos_iff.2 hD
      have d1 : ((N : Int) == 0) = false := by rw [beq_eq_false_iff_ne]; omega
      obtain rfl : r = 0 := by omega
      have HE := Lib.hid (dcAt_end HDC.out hD)
      have LEN : N ≤ 19 ∨ (0 : Nat) ≠ 0 := by rw [← HN.out]; exact dcAt_len2 HDC.out HU.out
      have hl19 : N ≤ 19 := by omega
      clear hq hr0 LEN hD hgk hN hN0
      by_cases hn : n < 0
      · have HEQ := Lib.hid (HIN.out hn)
        have dn : decide (n < 0) = true := by simp [hn]
        have G1 : Hid ((wr.alloc (.cells #[.int .u8 45] 5)).ownsRow w.heap.size 5 1 (.slice (some ⟨wr.heap.size, 0, none⟩) 1 1) 1 ([(45 : UInt8)].map byV)) := Lib.hid (Grows.one (mk := byV) 5 w.heap.size wr 45 HB.out.size)
        have CD := Lib.hid (fun j (hj : j < D.length) => keep_cell (HCD.out j hj) (below_alloc wr (.cells #[.int .u8 45] 5)) hg)
        clear hn
        go_wp2_with (at_builtin; refine wpList_append_own _ rfl _ _ 100 rfl w.heap.size 5 i0 (.int .u8 0) 1 1 Tryd.underlying100 hi hz0 hz1 hz2 rfl (by decide) _ _ _ rfl G1.out ⟨g, 0, none⟩ N c (D.map byV) rfl (by rw [List.length_map, HN.out, Nat.mul_one]) (ByAt.vals CD.out) (byV_one D) (by unfold maxLen; omega) (by omega) (by have := HB.out.size; simp; omega) ?_)
        intro v' w' hown hgrow _
        have GN := Grows.more (mk := byV) (Z := [45]) (news := D) HN.out hown
        have BN : Hid (Below w.heap.size w w') := Lib.hid ((HB.out.alloc HB.out.size _).grown hgrow (by have := HB.out.size; simp; omega) (fun q hq => (World.ownsRow.lt G1.out q hq).1))
        obtain ⟨g2, c2, rfl, hg2, hc2⟩ := ByAt.of GN (by simp)
        have hback := run_convert_bytes_back (P := Tryd.prog) w' 100 9 5 ⟨g2, 0, none⟩ c2 (45 :: D) Tryd.underlying100 Tryd.underlying5 Tryd.underlying9 (fun j hj => by rw [Addr.add_lit, Nat.zero_add]; exact hc2 j hj)
        rw [show (45 :: D).length = N + 1 by rw [List.length_cons, HN.out]] at hback
        rw [show ([(45 : UInt8)] ++ D).length = N + 1 by rw [List.length_append, HN.out]; show 1 + N = N + 1; omega]
        clear hown hgrow GN hc2
        go_wp2_with fail
        go_ret
        exact ⟨by rw [HEQ.out, HE.out]; rfl, BN.out⟩
      · have HEQ := Lib.hid (HIP.out (by first | exact hn | omega))
        have dn : decide (n < 0) = false := by simp [hn]
        have hback := run_convert_bytes_back (P := Tryd.prog) wr 100 9 5 ⟨g, 0, none⟩ c D Tryd.underlying100 Tryd.underlying5 Tryd.underlying9 (fun j hj => by rw [Addr.add_lit, Nat.zero_add]; exact HCD.out j hj)
        rw [HN.out] at hback
        clear hn
        go_wp2_with fail
        go_ret
        exact ⟨by rw [HEQ.out, HE.out]; rfl, HB.out⟩
end Go.Proofs.YtcnllohpkgmkpaaDoor
/- The decimal text of a number: the program. -/
namespace Go.Proofs.YtcnllohpkgmkpaaDoor
open Go.RowKit Go.ChangeShapes Go.WideShapes Go.Shelf

theorem PowTab.below {B : Nat} {w w' : World} (h : PowTab w) (hb : Below B w w') (hB : w.heap.size ≤ B) : PowTab w' := by
  have hgn : Tryd.prog.globalNamed "internal/strconv.uint64pow10" = some 2 := by kernel_rfl
  unfold PowTab Lib.TabIs World.var? at h ⊢
  rw [hgn] at h ⊢
  simp only [Option.bind_some] at h ⊢
  have hlt : 2 < w.heap.size := by
    rcases Nat.lt_or_ge 2 w.heap.size with h' | h'
    · exact h'
    · rw [Array.getElem?_eq_none h'] at h; cases h
  rw [show w'.heap[2]? = w.heap[2]? from hb.block _ (by omega)]
  exact h
theorem PowTab.below' {w w' : World} (h : PowTab w) (hb : Below w.heap.size w w') : PowTab w' := h.below hb (Nat.le_refl _)
theorem formatInt_any (n : Int) (w : World) (h0 : -9223372036854775808 ≤ n) (h1 : n ≤ 9223372036854775807) (hp : PowTab w) :
    Calls Tryd.prog 81 #[.int .i64 n, .int .i64 10] w (SaysS (Lib.itoa n) w) :=
  (Any.strconv_FormatInt_10 Tryd.lays173 n h0 h1 w hp).mono fun _ _ ⟨he, k, os, hw⟩ => ⟨he, by subst hw; exact Lib.below_grow _ w (Nat.le_refl _) k os⟩
theorem implDecimal_any (n : Int) (w : World) (h0 : -9223372036854775808 ≤ n) (h1 : n ≤ 9223372036854775807) (hp : PowTab w) :
    Calls Tryd.prog 57 #[.int .i64 n] w (SaysS (Lib.itoa n) w) := by
  have HP := Lib.hid hp
  clear hp
  go_enter Tryd.func57, Tryd.ntmps57
  go_wp2_with fail
  go_at_call 81; refine (formatInt_any n _ h0 h1 HP.out).mono ?_; rintro e w' ⟨rfl, b⟩
  have B := Lib.hid b
  clear b
  go_wp2_with fail
  go_ret
  exact ⟨rfl, B.out⟩
end Go.Proofs.YtcnllohpkgmkpaaDoor
/- Is a number a value? -/
namespace Go.Proofs.YtcnllohpkgmkpaaDoor
open Go.RowKit Go.ChangeShapes Go.WideShapes

theorem isValue_is (t : Bool) (n : Int) (w : World) (ht : inB n (-1000000000000000) 1000000000000000 = t) : Calls Tryd.prog 98 #[.int .i64 n] w (Tells t w) := by
  have h : (decide (-1000000000000000 ≤ n) && decide (n ≤ 1000000000000000)) = t := ht
  clear ht
  obtain ⟨a, ha⟩ : ∃ a, decide (-1000000000000000 ≤ n) = a := ⟨_, rfl⟩
  obtain ⟨b, hb⟩ : ∃ b, decide (n ≤ 1000000000000000) = b := ⟨_, rfl⟩
  rw [ha, hb] at h
  have H := Lib.hid h
  clear h
  cases a <;> cases b
  all_goals
    go_enter Tryd.func98, Tryd.ntmps98
    go_wp2
    go_ret
    exact tells 0 H.out
end Go.Proofs.YtcnllohpkgmkpaaDoor
/- strings.Join laid at this program: its code is the shelf's own, number by number. -/
namespace Go.Proofs.YtcnllohpkgmkpaaDoor
open Go.Shelf
def Tryd.lays156_ren : Go.Shelf.Ren := ⟨fun | 156 => 80 | 165 => 110 | 166 => 111 | 169 => 112 | 240 => 134 | 241 => 135 | 276 => 152 | 277 => 153 | n => n, fun | 31 => 22 | 9 => 9 | 3 => 3 | 4 => 4 | 0 => 0 | 20 => 20 | 72 => 129 | 76 => 131 | 70 => 127 | 37 => 100 | 75 => 117 | 127 => 148 | 164 => 169 | 5 => 5 | 80 => 133 | n => n, fun | n => n⟩
theorem Tryd.lays156 : Go.Proofs.Lays.n156 Tryd.prog Tryd.lays156_ren := {
  mixed := by kernel_rfl
  f156 := Tryd.func80.trans (congrArg some (by kernel_rfl))
  f165 := Tryd.func110.trans (congrArg some (by kernel_rfl))
  f166 := Tryd.func111.trans (congrArg some (by kernel_rfl))
  f169 := Tryd.func112.trans (congrArg some (by kernel_rfl))
  f240 := Tryd.func134.trans (congrArg some (by kernel_rfl))
  f241 := Tryd.func135.trans (congrArg some (by kernel_rfl))
  f276 := Tryd.func152.trans (congrArg some (by kernel_rfl))
  f277 := Tryd.func153.trans (congrArg some (by kernel_rfl))
  t0 := Tryd.underlying0
  a0 := Tryd.isAgg0
  z0 := Tryd.sizeOf0
  v0 := Tryd.zeroValue0
  t3 := Tryd.underlying3
  a3 := Tryd.isAgg3
  z3 := Tryd.sizeOf3
  v3 := Tryd.zeroValue3
  t4 := Tryd.underlying4
  a4 := Tryd.isAgg4
  z4 := Tryd.sizeOf4
  v4 := Tryd.zeroValue4
  t9 := Tryd.underlying9
  a9 := Tryd.isAgg9
  z9 := Tryd.sizeOf9
  v9 := Tryd.zeroValue9
  t20 := Tryd.underlying20
  a20 := Tryd.isAgg20
  z20 := Tryd.sizeOf20
  v20 := Tryd.zeroValue20
  t31 := Tryd.underlying22
  a31 := Tryd.isAgg22
  z31 := Tryd.sizeOf22
  v31 := Tryd.zeroValue22
  t37 := Tryd.underlying100
  a37 := Tryd.isAgg100
  z37 := Tryd.sizeOf100
  v37 := Tryd.zeroValue100
  t70 := Tryd.underlying127
  a70 := Tryd.isAgg127
  z70 := Tryd.sizeOf127
  v70 := Tryd.zeroValue127
  t72 := Tryd.underlying129
  a72 := Tryd.isAgg129
  z72 := Tryd.sizeOf129
  v72 := Tryd.zeroValue129
  t75 := Tryd.underlying117
  a75 := Tryd.isAgg117
  z75 := Tryd.sizeOf117
  v75 := Tryd.zeroValue117
  t76 := Tryd.underlying131
  a76 := Tryd.isAgg131
  z76 := Tryd.sizeOf131
  v76 := Tryd.zeroValue131
  t127 := Tryd.underlying148
  a127 := Tryd.isAgg148
  z127 := Tryd.sizeOf148
  v127 := Tryd.zeroValue148
  t164 := Tryd.underlying169
  a164 := Tryd.isAgg169
  z164 := Tryd.sizeOf169
  v164 := Tryd.zeroValue169 }
end Go.Proofs.YtcnllohpkgmkpaaDoor
/- The texts of lists of numbers: the program. -/
namespace Go.Proofs.YtcnllohpkgmkpaaDoor
open Go.RowKit Go.ChangeShapes Go.WideShapes Go.Shelf

theorem Tryd.extra156 : Builder.Extra Tryd.prog Tryd.lays156_ren where
  sizeBuilder := by kernel_rfl
  liesBuilder := by kernel_rfl
  t5 := Tryd.underlying5
  a5 := Tryd.isAgg5
  z5 := Tryd.sizeOf5
  v5 := Tryd.zeroValue5
  infoByte := by kernel_rfl
  cellsByte := by kernel_rfl
  sizeByte := by kernel_rfl
  neB5 := by decide
theorem join_any (g : Nat) (xs : List ByteArray) (w : World) (hA : Arr Value.string (bsOf []) w g 0 xs) (hg : g < w.heap.size) (hN : xs.length ≤ 1048576) (hlen : (Lib.join (xs.map (·.data.toList)) [44]).length ≤ 140737488355328) :
    Calls Tryd.prog 80 #[.slice (some ⟨g, 0, none⟩) xs.length xs.length, .string ⟨#[44]⟩] w (SaysS (Lib.join (xs.map (·.data.toList)) [44]) w) :=
  Any.strings_Join Tryd.lays156 Tryd.extra156 g 0 xs.length xs ⟨#[44]⟩ w (fun j x hj => by
    obtain ⟨h1, h2⟩ := getD_tail xs (bsOf []) hj
    rw [hA.cells j h1, h2]) hg (by omega) (Nat.le_refl _) hlen
theorem Arr.made_s {w : World} {n B e : Nat} (h : w.ownsRow B e 1 (.slice (some ⟨B, 0, none⟩) n n) n (madeCells (Value.string (bsOf [])).cells (n * 1)).toList) : Arr Value.string (bsOf []) w B 0 (List.replicate n (bsOf [])) := by
  refine ⟨fun i hi => ?_, h.frozenAt⟩
  rw [List.length_replicate] at hi
  rw [Nat.zero_add, h.cellAt i (by omega)]
  rcases made_one (.string (bsOf [])) n hi with h1 | h1
  · rw [h1]; simp [Value.cells, List.getD, hi]
  · exact absurd rfl h1
theorem Tryd.infoStr : (Tryd.prog.info? 9).map (fun i => (i.zero, i.size, i.bytes)) = some (some (.string (bsOf [])), 1, 16) := by kernel_rfl
/-- A list whose numbers are of 64 bits. -/
def Few64 (L : List Int) : Prop := ∀ i, i < L.length → -9223372036854775808 ≤ L.getD i 0 ∧ L.getD i 0 ≤ 9223372036854775807
end Go.Proofs.YtcnllohpkgmkpaaDoor
/- The number with a decimal text: the program. -/
namespace Go.Proofs.YtcnllohpkgmkpaaDoor
open Go.RowKit Go.ChangeShapes Go.WideShapes Go.Shelf

theorem var_below {P : Program} {B : Nat} {w w' : World} {nm : String} {cs : Array Value} (h : w.var? P nm = some cs) (hb : Below B w w') (hB : w.heap.size ≤ B) : w'.var? P nm = some cs := by
  unfold World.var? at h ⊢
  cases hg : P.globalNamed nm with
  | none => rw [hg] at h; cases h
  | some g =>
    rw [hg] at h
    simp only [Option.bind_some] at h ⊢
    have hlt : g < w.heap.size := by
      rcases Nat.lt_or_ge g w.heap.size with h' | h'
      · exact h'
      · rw [Array.getElem?_eq_none h'] at h; cases h
    rw [show w'.heap[g]? = w.heap[g]? from hb.block _ (by omega)]
    exact h
theorem ErrTab.below' {w w' : World} (h : ErrTab w) (hb : Below w.heap.size w w') : ErrTab w' := by
  obtain ⟨h1, ⟨a, b, h2⟩, ⟨c, d, h3⟩⟩ := h
  exact ⟨h1.below' hb, ⟨a, b, var_below h2 hb (Nat.le_refl _)⟩, ⟨c, d, var_below h3 hb (Nat.le_refl _)⟩⟩
theorem parse_ok (s : ByteArray) (n : Int) (w : World) (hs : s.size ≤ 1048576) (h : Lib.parseIntB 64 s.data.toList = .ok n) :
    Calls Tryd.prog 97 #[.string s, .int .i64 10, .int .i64 64] w fun e w' => e = .returned (.tuple #[.int .i64 n, .nilIface]) ∧ Below w.heap.size w w' :=
  (Any.strconv_ParseInt_10_at64_ok Tryd.lays174 s (by omega) n h w).mono fun _ _ ⟨he, hw⟩ => ⟨he, by
    rcases hw with rfl | ⟨t, rfl⟩
    · exact Below.refl _ _
    · exact Lib.bytesWorld_below _ _ _⟩
def ParseBad (w : World) (e : Ending) (w' : World) : Prop := ∃ n N, e = .returned (.tuple #[.int .i64 n, .iface 165 (.pointer (some ⟨N, 0, none⟩))]) ∧ Below w.heap.size w w'
theorem parse_bad (s : ByteArray) (w : World) (hs : s.size ≤ 1048576) (h : ∀ n, Lib.parseIntB 64 s.data.toList ≠ .ok n) (hE : ErrTab w) :
    Calls Tryd.prog 97 #[.string s, .int .i64 10, .int .i64 64] w (ParseBad w) := by
  obtain ⟨-, ⟨a, b, h2⟩, ⟨c, d, h3⟩⟩ := hE
  rcases hp : Lib.parseIntB 64 s.data.toList with n | _ | _
  · exact absurd hp (h n)
  · exact (Any.strconv_ParseInt_10_at64_syntax_var Tryd.lays174 s (by omega) hp a b w h2).mono fun _ _ ⟨N, he, _, _, hb⟩ => ⟨_, N, he, hb⟩
  · exact (Any.strconv_ParseInt_10_at64_range_var Tryd.lays174 s (by omega) hp c d w h3).mono fun _ _ ⟨N, he, _, _, hb⟩ => ⟨_, N, he, hb⟩
theorem ba_of {s : ByteArray} {D : List UInt8} (h : D = s.data.toList) : s = bsOf D := by
  subst h
  apply ByteArray.ext
  simp [bsOf]
def SaysRd (n : Int) (b : Bool) (w : World) (e : Ending) (w' : World) : Prop := e = .returned (.tuple #[.int .i64 n, .bool b]) ∧ Below w.heap.size w w'
set_option maxRecDepth 100000 in
set_option maxHeartbeats 4000000 in
theorem implReadDecimal_any (s : ByteArray) (w : World) (hs : s.size ≤ 1048576) (hE : ErrTab w) :
    Calls Tryd.prog 63 #[.string s] w (SaysRd (rdN s.data.toList) (rdB s.data.toList) w) := by
  have HE := Lib.hid hE
  by_cases hb : ∃ n, Lib.parseIntB 64 s.data.toList = .ok n
  · obtain ⟨n, hn⟩ := hb
    have hbd : -9223372036854775808 ≤ n ∧ n ≤ 9223372036854775807 := by
      have := Lib.parseIntB_bounds hn
      have e63 : ((2 ^ (64 - 1) : Nat) : Int) = 9223372036854775808 := by decide
      rw [e63] at this; omega
    have PO := Lib.hid (fun w => parse_ok s n w hs hn)
    have DEC := Lib.hid (fun W hp => implDecimal_any n W hbd.1 hbd.2 hp)
    cases hv : inB n (-1000000000000000) 1000000000000000 with
    | false =>
      have e := rd_out hn hv
      rw [e, rdN_no e]
      have T := Lib.hid hv
      clear hE hn hbd hv e DEC
      go_enter Tryd.func63, Tryd.ntmps63
      go_wp2_with fail
      go_at_call 97; refine (PO.out _).mono ?_; rintro e w2 ⟨rfl, b2⟩
      have B2 := Lib.hid b2
      clear b2
      go_wp2_with fail
      go_at_call 98; refine (isValue_is _ n _ T.out).mono ?_; rintro e w' ⟨rfl, m, rfl⟩
      go_wp2_with fail
      go_ret2
      exact ⟨rfl, below_drewN B2.out _⟩
    | true =>
      have T := Lib.hid hv
      by_cases hd : Lib.itoa n = s.data.toList
      · obtain ⟨e1, e2⟩ := rd_ok hn hv hd
        rw [e1, e2]
        obtain rfl := ba_of hd
        have HX : Hid ((⟨(Lib.itoa n).toArray⟩ : ByteArray) = bsOf (Lib.itoa n)) := Lib.hid rfl
        have DEC := Lib.hid (fun W hp => (show Calls Tryd.prog 57 #[.int .i64 n] W (fun e w' => e = .returned (.string (bsOf (Lib.itoa n))) ∧ Below W.heap.size W w') from DEC.out W hp))
        generalize bsOf (Lib.itoa n) = x at *
        clear hE hn hbd hv e1 e2 hd
        go_enter Tryd.func63, Tryd.ntmps63
        go_wp2_with fail
        go_at_call 97; refine (PO.out _).mono ?_; rintro e w2 ⟨rfl, b2⟩
        have B2 := Lib.hid b2
        clear b2
        go_wp2_with fail
        go_at_call 98; refine (isValue_is _ n _ T.out).mono ?_; rintro e w' ⟨rfl, m, rfl⟩
        have B3 := Lib.hid (below_drewN B2.out m)
        go_wp2_with fail
        go_at_call 57; refine (DEC.out _ (HE.out.below' B3.out).1).mono ?_; rintro e w4 ⟨rfl, b4⟩
        have B4 := Lib.hid (B3.out.trans (b4.mono B3.out.size))
        clear b4
        go_wp2_with fail
        go_ret2
        exact ⟨rfl, B4.out⟩
      · have e := rd_other hn hd
        rw [e, rdN_no e]
        have hne : ¬ bsOf (Lib.itoa n) = s := fun h => hd (by rw [← h, bs_list])
        have DEC := Lib.hid (fun W hp => (show Calls Tryd.prog 57 #[.int .i64 n] W (fun e w' => e = .returned (.string (bsOf (Lib.itoa n))) ∧ Below W.heap.size W w') from DEC.out W hp))
        generalize bsOf (Lib.itoa n) = x at *
        have hs1 : (x.toList == s.toList) = false := by simpa [ByteArray.toList_eq, ByteArray.ext_iff] using hne
        have hs2 : (x.toList != s.toList) = true := by rw [bne, hs1]; rfl
        clear hE hn hbd hv e hd hne
        go_enter Tryd.func63, Tryd.ntmps63
        go_wp2_with fail
        go_at_call 97; refine (PO.out _).mono ?_; rintro e w2 ⟨rfl, b2⟩
        have B2 := Lib.hid b2
        clear b2
        go_wp2_with fail
        go_at_call 98; refine (isValue_is _ n _ T.out).mono ?_; rintro e w' ⟨rfl, m, rfl⟩
        have B3 := Lib.hid (below_drewN B2.out m)
        go_wp2_with fail
        go_at_call 57; refine (DEC.out _ (HE.out.below' B3.out).1).mono ?_; rintro e w4 ⟨rfl, b4⟩
        have B4 := Lib.hid (B3.out.trans (b4.mono B3.out.size))
        clear b4
        go_wp2_with fail
        go_ret2
        exact ⟨rfl, B4.out⟩
  · have hb' : ∀ n, Lib.parseIntB 64 s.data.toList ≠ .ok n := fun n h => hb ⟨n, h⟩
    have e := rd_err hb'
    rw [e, rdN_no e]
    have PB := Lib.hid (fun w hE => parse_bad s w hs hb' hE)
    clear hE hb hb' e
    go_enter Tryd.func63, Tryd.ntmps63
    go_wp2_with fail
    go_at_call 97; refine (PB.out _ HE.out).mono ?_; rintro e w2 ⟨n, N, rfl, b2⟩
    have B2 := Lib.hid b2
    clear b2
    go_wp2_with fail
    go_ret2
    exact ⟨rfl, B2.out⟩
end Go.Proofs.YtcnllohpkgmkpaaDoor
/- Rows that are read: the program. -/
namespace Go.Proofs.YtcnllohpkgmkpaaDoor
open Go.RowKit Go.ChangeShapes Go.WideShapes Go.Shelf

/-- The library's variable holds some number. -/
def MaxV (w : World) : Prop := ∃ m : Int, w.cell? ⟨0, 0, none⟩ = some (.int .i64 m)
theorem MaxV.below' {w w' : World} (h : MaxV w) (hb : Below w.heap.size w w') : MaxV w' := by
  obtain ⟨m, hm⟩ := h
  exact ⟨m, keep_cell hm hb (cell_block hm)⟩
theorem maxV_of {w : World} (h : w.ShapedOpen Tryd.prog) : MaxV w := Tryd.lays146.s1_3 w h
def Parted (s : ByteArray) (w : World) (e : Ending) (w' : World) : Prop := ∃ g, e = .returned (.slice (some ⟨g, 0, none⟩) (ptY 59 s).length (ptY 59 s).length) ∧ (∀ i, i < (ptY 59 s).length → w'.cell? ⟨g, i, none⟩ = some (.string ((ptY 59 s).getD i (bsOf [])))) ∧ Below w.heap.size w w'
theorem split_any (s : ByteArray) (w : World) (hs : s.size ≤ 1048576) (hm : MaxV w) :
    Calls Tryd.prog 69 #[.string s, .string ⟨#[59]⟩] w (Parted s w) := by
  obtain ⟨m, hm⟩ := hm
  have hz : (⟨#[59]⟩ : ByteArray).size = 1 := rfl
  have hl := Lib.splitB_all ⟨#[59]⟩ (by rw [hz]; exact Nat.le_refl _) 0 (Lib.countB s ⟨#[59]⟩) s rfl
  have hY : Lib.splitB ⟨#[59]⟩ 0 (Lib.countB s ⟨#[59]⟩) s = ptY 59 s := split_cutk s
  rw [hY] at hl
  refine (Any.strings_Split { Tryd.lays146 with } Tryd.lays146.i9 s ⟨#[59]⟩ m w (by omega) hm (by rw [hz]; exact Nat.le_refl _)).mono fun e w' ⟨he, hw⟩ => ?_
  subst hw
  rw [← hl] at he
  rw [hY]
  refine ⟨w.heap.size, he, fun i hi => ?_, below_alloc _ _⟩
  rw [World.cell?_alloc_new]
  simp [List.getD, hi]
theorem split_four (s : ByteArray) (w : World) (hs : s.size ≤ 1048576) (h : (ptY 59 s).length = 4) (hm : MaxV w) :
    Calls Tryd.prog 69 #[.string s, .string ⟨#[59]⟩] w (Cut4 (rrP s 0) (rrP s 1) (rrP s 2) (rrP s 3) w) :=
  (split_any s w hs hm).mono fun e w' ⟨g, he, hc, hb⟩ => by
    rw [h] at he hc
    exact ⟨g, _, he, hc 0 (by omega), hc 1 (by omega), hc 2 (by omega), hc 3 (by omega), hb⟩
theorem split_n (s : ByteArray) (w : World) (hs : s.size ≤ 1048576) (hm : MaxV w) :
    Calls Tryd.prog 69 #[.string s, .string ⟨#[59]⟩] w (CutN (ptY 59 s).length w) :=
  (split_any s w hs hm).mono fun _ _ ⟨g, he, _, hb⟩ => ⟨g, _, he, hb⟩
/-- What the library holds that rows are read with. -/
def RrTab (w : World) : Prop := ErrTab w ∧ MaxV w
set_option maxRecDepth 100000 in
set_option maxHeartbeats 8000000 in
theorem implReadRows_any (s : ByteArray) (w : World) (hs : s.size ≤ 1048576) (hT : RrTab w) :
    Calls Tryd.prog 39 #[.string s] w (SaysRw (rrA s) (rrB s) w) := by
  have HE := Lib.hid hT.1
  have HM := Lib.hid hT.2
  have HB := Lib.hid (below_alloc w)
  have HR : Hid (∀ a b c d, Res4 (w.alloc (.cells #[a, b, c, d] 38)) w.heap.size) := Lib.hid fun a b c d => ⟨⟨a, by go_simp⟩, ⟨b, by go_simp⟩, ⟨c, by go_simp⟩, ⟨d, by go_simp⟩, fun i => by go_simp⟩
  have HZ0 : Hid (∀ A, w.heap.size < (w.alloc A).heap.size) := Lib.hid fun A => by simp
  have hle := ptY_le 59 s
  by_cases h4 : (ptY 59 s).length = 4
  · obtain ⟨b0, hb0⟩ : ∃ b, rdB (rrP s 0).data.toList = b := ⟨_, rfl⟩
    obtain ⟨b1, hb1⟩ : ∃ b, rnB (rrP s 1) = b := ⟨_, rfl⟩
    obtain ⟨b2, hb2⟩ : ∃ b, rnB (rrP s 2) = b := ⟨_, rfl⟩
    obtain ⟨b3, hb3⟩ : ∃ b, rnB (rrP s 3) = b := ⟨_, rfl⟩
    obtain ⟨t, ht⟩ : ∃ b, okR (rrR s) = b := ⟨_, rfl⟩
    have OF := rr_of h4 hb0 hb1 hb2 hb3 ht
    have HBAD := Lib.hid (rr_bad (s := s))
    have HGOOD := Lib.hid (rr_good (s := s))
    have CU := Lib.hid (fun W hm => split_four s W hs h4 hm)
    have DC := Lib.hid (fun W he => implReadDecimal_any (rrP s 0) W (Nat.le_trans (ptY_size 59 s 0) hs) he)
    have N1 := Lib.hid (fun W => implReadNumbers_any (rrP s 1) W (Nat.le_trans (ptY_size 59 s 1) hs))
    have N2 := Lib.hid (fun W => implReadNumbers_any (rrP s 2) W (Nat.le_trans (ptY_size 59 s 2) hs))
    have N3 := Lib.hid (fun W => implReadNumbers_any (rrP s 3) W (Nat.le_trans (ptY_size 59 s 3) hs))
    have GV := Lib.hid (fun v W h => implGive_is t v (rrR s) W h (by have := rr_size s; omega) ht)
    rw [hb0] at DC
    rw [hb1] at N1
    rw [hb2] at N2
    rw [hb3] at N3
    rw [OF] at HBAD HGOOD ⊢
    unfold rrR at HGOOD GV
    clear OF hb0 hb1 hb2 hb3 ht h4 hle
    generalize rrA s = A at *
    generalize rdN (rrP s 0).data.toList = n at *
    generalize rnL (rrP s 1) = L1 at *
    generalize rnL (rrP s 2) = L2 at *
    generalize rnL (rrP s 3) = L3 at *
    generalize rrP s 0 = p0 at *
    generalize rrP s 1 = p1 at *
    generalize rrP s 2 = p2 at *
    generalize rrP s 3 = p3 at *
    go_enter Tryd.func39, Tryd.ntmps39
    go_wp2_with fail
    go_at_call 69; refine (CU.out _ (HM.out.below' (HB.out _))).mono ?_; rintro e w2 ⟨g, cap, rfl, e0, e1, e2, e3, b⟩
    have B2 := Lib.hid ((HB.out _).trans (b.mono (HB.out _).size))
    have R2 := Lib.hid ((HR.out _ _ _ _).keep b (HZ0.out _))
    have hz2 := Nat.lt_of_lt_of_le (HZ0.out _) b.size
    have hg2 := cell_block e0
    clear b HR HB HZ0
    go_wp2_with fail
    go_at_call 63; refine (DC.out _ (HE.out.below' B2.out)).mono ?_; rintro e w3 ⟨rfl, b⟩
    have B3 := Lib.hid (B2.out.trans (b.mono B2.out.size))
    have R3 := Lib.hid (R2.out.keep b hz2)
    have hz3 := Nat.lt_of_lt_of_le hz2 b.size
    have hg3 := Nat.lt_of_lt_of_le hg2 b.size
    have e1 := keep_cell e1 b hg2
    have e2 := keep_cell e2 b hg2
    have e3 := keep_cell e3 b hg2
    clear b R2 B2 e0 CU DC
    go_wp2_with fail
    go_at_call 25; refine (N1.out _).mono ?_; rintro e w4 ⟨v1, rfl, i1, b⟩
    obtain ⟨x1, y1, rfl⟩ := SI.len i1
    have I1 := Lib.hid i1
    have B4 := Lib.hid (B3.out.trans (b.mono B3.out.size))
    have R4 := Lib.hid (R3.out.keep b hz3)
    have hz4 := Nat.lt_of_lt_of_le hz3 b.size
    have hg4 := Nat.lt_of_lt_of_le hg3 b.size
    have E1 := Lib.hid b.size
    have e2 := keep_cell e2 b hg3
    have e3 := keep_cell e3 b hg3
    clear b i1 R3 B3 e1 N1
    go_wp2_with fail
    go_at_call 25; refine (N2.out _).mono ?_; rintro e w5 ⟨v2, rfl, i2, b⟩
    obtain ⟨x2, y2, rfl⟩ := SI.len i2
    have I2 := Lib.hid i2
    have B5 := Lib.hid (B4.out.trans (b.mono B4.out.size))
    have R5 := Lib.hid (R4.out.keep b hz4)
    have hz5 := Nat.lt_of_lt_of_le hz4 b.size
    have hg5 := Nat.lt_of_lt_of_le hg4 b.size
    have K4 := Lib.hid b
    have e3 := keep_cell e3 b hg4
    clear b i2 R4 B4 e2 N2
    go_wp2_with fail
    go_at_call 25; refine (N3.out _).mono ?_; rintro e w6 ⟨v3, rfl, i3, b⟩
    obtain ⟨x3, y3, rfl⟩ := SI.len i3
    have I3 := Lib.hid i3
    have B6 := Lib.hid (B5.out.trans (b.mono B5.out.size))
    have R6 := Lib.hid (R5.out.keep b hz5)
    have hz6 := Nat.lt_of_lt_of_le hz5 b.size
    have K5 := Lib.hid b
    clear b i3 R5 B5 e3 N3 hz4 hz5 hg2 hg3 hg4 hg5
    cases b0 with
    | false =>
      obtain ⟨⟨u0, g0⟩, ⟨u1, g1⟩, ⟨u2, g2⟩, ⟨u3, g3⟩, hf⟩ := R6.out
      have f0 := hf 0
      have f1 := hf 1
      have f2 := hf 2
      have f3 := hf 3
      clear hf
      go_wp2_with fail
      refine bodyPost_ret (v := .tuple #[zeroR, .bool false]) (by simp [results, Tryd.results39, g0, g1, g2, g3, go_sem, zeroR]) rfl ?_
      generalize hX : World.setCell _ _ _ = Y
      have hT : Turned w.heap.size (w.heap.size + 1) w6 Y := by
        rw [← hX]
        repeat (refine Turned.setCell ?_ (by simp) (by simp) _)
        exact Turned.refl _ _ _
      clear hX
      have hsz := hT.size
      have hz := B6.out.size
      rw [HBAD.out rfl]
      exact ⟨_, rfl, zeroR_rd (by omega), B6.out.trans (hT.below hz)⟩
    | true =>
    cases b1 with
    | false =>
      obtain ⟨⟨u0, g0⟩, ⟨u1, g1⟩, ⟨u2, g2⟩, ⟨u3, g3⟩, hf⟩ := R6.out
      have f0 := hf 0
      have f1 := hf 1
      have f2 := hf 2
      have f3 := hf 3
      clear hf
      go_wp2_with fail
      refine bodyPost_ret (v := .tuple #[zeroR, .bool false]) (by simp [results, Tryd.results39, g0, g1, g2, g3, go_sem, zeroR]) rfl ?_
      generalize hX : World.setCell _ _ _ = Y
      have hT : Turned w.heap.size (w.heap.size + 1) w6 Y := by
        rw [← hX]
        repeat (refine Turned.setCell ?_ (by simp) (by simp) _)
        exact Turned.refl _ _ _
      clear hX
      have hsz := hT.size
      have hz := B6.out.size
      rw [HBAD.out rfl]
      exact ⟨_, rfl, zeroR_rd (by omega), B6.out.trans (hT.below hz)⟩
    | true =>
    cases b2 with
    | false =>
      obtain ⟨⟨u0, g0⟩, ⟨u1, g1⟩, ⟨u2, g2⟩, ⟨u3, g3⟩, hf⟩ := R6.out
      have f0 := hf 0
      have f1 := hf 1
      have f2 := hf 2
      have f3 := hf 3
      clear hf
      go_wp2_with fail
      refine bodyPost_ret (v := .tuple #[zeroR, .bool false]) (by simp [results, Tryd.results39, g0, g1, g2, g3, go_sem, zeroR]) rfl ?_
      generalize hX : World.setCell _ _ _ = Y
      have hT : Turned w.heap.size (w.heap.size + 1) w6 Y := by
        rw [← hX]
        repeat (refine Turned.setCell ?_ (by simp) (by simp) _)
        exact Turned.refl _ _ _
      clear hX
      have hsz := hT.size
      have hz := B6.out.size
      rw [HBAD.out rfl]
      exact ⟨_, rfl, zeroR_rd (by omega), B6.out.trans (hT.below hz)⟩
    | true =>
    cases b3 with
    | false =>
      obtain ⟨⟨u0, g0⟩, ⟨u1, g1⟩, ⟨u2, g2⟩, ⟨u3, g3⟩, hf⟩ := R6.out
      have f0 := hf 0
      have f1 := hf 1
      have f2 := hf 2
      have f3 := hf 3
      clear hf
      go_wp2_with fail
      refine bodyPost_ret (v := .tuple #[zeroR, .bool false]) (by simp [results, Tryd.results39, g0, g1, g2, g3, go_sem, zeroR]) rfl ?_
      generalize hX : World.setCell _ _ _ = Y
      have hT : Turned w.heap.size (w.heap.size + 1) w6 Y := by
        rw [← hX]
        repeat (refine Turned.setCell ?_ (by simp) (by simp) _)
        exact Turned.refl _ _ _
      clear hX
      have hsz := hT.size
      have hz := B6.out.size
      rw [HBAD.out rfl]
      exact ⟨_, rfl, zeroR_rd (by omega), B6.out.trans (hT.below hz)⟩
    | true =>
    have RV6 : Hid (RV w6 (.agg #[.int .i64 n, .slice x1 L1.length y1, .slice x2 L2.length y2, .slice x3 L3.length y3]) ⟨n, L1, L2, L3⟩) := Lib.hid ⟨_, _, _, rfl, FI.sl (SI.below I1.out (K4.out.trans (K5.out.mono K4.out.size)) (Nat.le_refl _)), FI.sl (SI.below I2.out K5.out (Nat.le_refl _)), FI.sl I3.out⟩
    cases t with
    | false =>
      go_wp2_with fail
      go_at_call 70; refine (GivesR.no (GV.out _ _ RV6.out)).mono ?_; rintro e w7 ⟨rfl, b⟩
      have B7 := Lib.hid (B6.out.trans (b.mono B6.out.size))
      obtain ⟨⟨u0, g0⟩, ⟨u1, g1⟩, ⟨u2, g2⟩, ⟨u3, g3⟩, hf⟩ := R6.out.keep b hz6
      have f0 := hf 0
      have f1 := hf 1
      have f2 := hf 2
      have f3 := hf 3
      clear b hf
      go_wp2_with fail
      refine bodyPost_ret (v := .tuple #[zeroR, .bool false]) (by simp [results, Tryd.results39, g0, g1, g2, g3, go_sem, zeroR]) rfl ?_
      generalize hX : World.setCell _ _ _ = Y
      have hT : Turned w.heap.size (w.heap.size + 1) w7 Y := by
        rw [← hX]
        repeat (refine Turned.setCell ?_ (by simp) (by simp) _)
        exact Turned.refl _ _ _
      clear hX
      have hsz := hT.size
      have hz := B7.out.size
      rw [HBAD.out rfl]
      exact ⟨_, rfl, zeroR_rd (by omega), B7.out.trans (hT.below hz)⟩
    | true =>
      go_wp2_with fail
      go_at_call 70; refine (GivesR.yes (GV.out _ _ RV6.out)).mono ?_; rintro e w7 ⟨rfl, b⟩
      have B7 := Lib.hid (B6.out.trans (b.mono B6.out.size))
      have K6 := Lib.hid b
      obtain ⟨⟨u0, g0⟩, ⟨u1, g1⟩, ⟨u2, g2⟩, ⟨u3, g3⟩, hf⟩ := R6.out.keep b hz6
      have f0 := hf 0
      have f1 := hf 1
      have f2 := hf 2
      have f3 := hf 3
      clear b hf
      go_wp2_with fail
      refine bodyPost_ret (v := .tuple #[.agg #[.int .i64 n, .slice x1 L1.length y1, .slice x2 L2.length y2, .slice x3 L3.length y3], .bool true]) (by simp [results, Tryd.results39, g0, g1, g2, g3, go_sem]) rfl ?_
      generalize hX : World.setCell _ _ _ = Y
      have hT : Turned w.heap.size (w.heap.size + 1) w7 Y := by
        rw [← hX]
        repeat (refine Turned.setCell ?_ (by simp) (by simp) _)
        exact Turned.refl _ _ _
      clear hX
      rw [HGOOD.out rfl]
      exact ⟨_, rfl, rd_three I1.out I2.out I3.out K4.out K5.out hz3 (Nat.le_refl _) E1.out w7 K6.out hT, B7.out.trans (hT.below B7.out.size)⟩
  · have CU := Lib.hid (fun W hm => split_n s W hs hm)
    obtain ⟨n, hn⟩ : ∃ n, n = (ptY 59 s).length := ⟨_, rfl⟩
    rw [← hn] at CU h4
    have dn : ((n : Int) == 4) = false := by rw [beq_eq_false_iff_ne]; omega
    have hb := rr_n (s := s) (by rw [← hn]; exact h4)
    rw [rr_bad hb, hb]
    clear hb hn hle
    go_enter Tryd.func39, Tryd.ntmps39
    go_wp2_with fail
    go_at_call 69; refine (CU.out _ (HM.out.below' (HB.out _))).mono ?_; rintro e w2 ⟨g, cap, rfl, b⟩
    have B2 := Lib.hid ((HB.out _).trans (b.mono (HB.out _).size))
    obtain ⟨⟨u0, g0⟩, ⟨u1, g1⟩, ⟨u2, g2⟩, ⟨u3, g3⟩, hf⟩ := (HR.out _ _ _ _).keep b (HZ0.out _)
    have hz2 := Nat.lt_of_lt_of_le (HZ0.out _) b.size
    have f0 := hf 0
    have f1 := hf 1
    have f2 := hf 2
    have f3 := hf 3
    clear b hf HR HB HZ0
    go_wp2_with fail
    refine bodyPost_ret (v := .tuple #[zeroR, .bool false]) (by simp [results, Tryd.results39, g0, g1, g2, g3, go_sem, zeroR]) rfl ?_
    generalize hX : World.setCell _ _ _ = Y
    have hT : Turned w.heap.size (w.heap.size + 1) w2 Y := by
      rw [← hX]
      repeat (refine Turned.setCell ?_ (by simp) (by simp) _)
      exact Turned.refl _ _ _
    clear hX
    have hsz := hT.size
    have hz := B2.out.size
    exact ⟨_, rfl, zeroR_rd (by omega), B2.out.trans (hT.below hz)⟩
end Go.Proofs.YtcnllohpkgmkpaaDoor
