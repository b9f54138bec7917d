/- A row more: what the program's way to its end wants. -/
import Derived.Test.YtajekehidofkiaaAddI
import Derived.Test.YtajekehidofkiaaConc
import Derived.Deep.RegionHeld3
namespace Go.Proofs.Ytajekehidofkiaa
open Go.RowKit Go.ChangeShapes Go.WideShapes

theorem GivesR.no {P : Program} {f : FuncId} {xs : Array Value} {W : World} {v : Value} (h : Calls P f xs W (GivesR v false W)) : Calls P f xs W (fun e w' => e = .returned (.tuple #[.agg #[.int .i64 0, .slice none 0 0, .slice none 0 0, .slice none 0 0], .bool false]) ∧ Below W.heap.size W w') := h
theorem GivesR.yes {P : Program} {f : FuncId} {xs : Array Value} {W : World} {v : Value} (h : Calls P f xs W (GivesR v true W)) : Calls P f xs W (fun e w' => e = .returned (.tuple #[v, .bool true]) ∧ Below W.heap.size W w') := h
theorem BT1 {a W : World} (h : Below a.heap.size a W) (o : Obj) : Below a.heap.size a (W.alloc o) := h.alloc h.size o
theorem BT2 {a W : World} (h : Below a.heap.size a W) (o o2 : Obj) : Below a.heap.size a ((W.alloc o).alloc o2) := BT1 (BT1 h o) o2
theorem BT3 {a W : World} (h : Below a.heap.size a W) (o o2 o3 : Obj) : Below a.heap.size a (((W.alloc o).alloc o2).alloc o3) := BT1 (BT2 h o o2) o3
theorem LiesC.below {w W : World} {ad : Addr} {Z : List Nat} (h : LiesC w ad Z) (hb : Below w.heap.size w W) : LiesC W ad Z := fun w' hw => h w' (hb.trans (hw.mono hb.size))
theorem liesC_one {W : World} {g y : Nat} (h : W.cell? ⟨g, 0, none⟩ = some (.float .f32 y)) : LiesC W ⟨g, 0, none⟩ [y] := fun w' hb j u hu => by
  have hg := cell_block h
  cases j with
  | zero =>
    simp at hu
    subst hu
    rw [Go.WideShapes.add_plain]
    exact keep_cell h hb hg
  | succ j => simp at hu
theorem concat2_y (g : Nat) (ad : Addr) (cap : Nat) (Y : List Nat) (y : Nat) (W : World) (h0 : W.cell? ⟨g, 0, none⟩ = some (.slice (some ad) Y.length cap)) (h1 : ∃ gy, W.cell? ⟨g, 1, none⟩ = some (.slice (some ⟨gy, 0, none⟩) 1 1) ∧ W.cell? ⟨gy, 0, none⟩ = some (.float .f32 y)) (hY : LiesC W ad Y) (nY : Y.length ≤ 524288) (hp : 0 < Y.length) :
    Calls Try.prog 59 #[.slice (some ⟨g, 0, none⟩) 2 2] W (MadeF (Y ++ [y]) W) := by
  obtain ⟨gy, h2, h3⟩ := h1
  exact concat2_any g ad ⟨gy, 0, none⟩ cap 1 Y [y] W ⟨h0, h2⟩ hY (liesC_one h3) nY (by simp) (by omega)
theorem add_lens {R : Rw} {X : List Nat} (hf : okR R = true) (hp : finN R.vars X = true) : (0 < R.N.length ∧ R.N.length ≤ 64) ∧ (0 < R.B.length ∧ R.B.length ≤ 8) ∧ (0 < R.G.length ∧ R.G.length ≤ 8) ∧ (0 < X.length ∧ X.length ≤ 8) := by
  obtain ⟨v1, v2, b1, b2, g, n, -, -, -⟩ := (okR_iff R).1 hf
  unfold finN at hp
  rw [Bool.and_eq_true, decide_eq_true_eq] at hp
  have hx := hp.1
  have hb : (R.B.length : Int) ≤ 8 := by omega
  have h1 : R.vars * (R.B.length : Int) ≤ 8 * 8 := Int.le_trans (Int.mul_le_mul_of_nonneg_right v2 (by omega)) (by omega)
  have h2 : 1 * 1 ≤ R.vars * (R.B.length : Int) := Int.mul_le_mul v1 (by omega) (by omega) (by omega)
  rw [← n] at h1 h2
  omega
theorem rd_made {w2 w4 w5 w6 : World} {n : Int} {v1 v2 v3 : Value} {L1 L2 L3 : List Nat} (i1 : SI (Value.float .f32) (0 : Nat) w2.heap.size w4.heap.size w4 v1 L1) (i2 : SI (Value.float .f32) (0 : Nat) w4.heap.size w5.heap.size w5 v2 L2) (i3 : SI (Value.float .f32) (0 : Nat) w5.heap.size w6.heap.size w6 v3 L3)
    (h24 : w2.heap.size ≤ w4.heap.size) (b5 : Below w4.heap.size w4 w5) (b6 : Below w5.heap.size w5 w6) : RD w2.heap.size w6.heap.size w6 (.agg #[.int .i64 n, v1, v2, v3]) ⟨n, L1, L2, L3⟩ :=
  ⟨v1, v2, v3, w4.heap.size, w5.heap.size, h24, b5.size, b6.size, rfl, SI.below i1 (b5.trans (b6.mono b5.size)) (Nat.le_refl _), SI.below i2 b6 (Nat.le_refl _), i3⟩
end Go.Proofs.Ytajekehidofkiaa
