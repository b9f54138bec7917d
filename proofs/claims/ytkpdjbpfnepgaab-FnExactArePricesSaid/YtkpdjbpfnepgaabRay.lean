/- Rays: what they are; the greatest number of a list. -/
import Derived.Test.YtkpdjbpfnepgaabGainI
import Derived.Test.YtkpdjbpfnepgaabNeg
import Derived.Test.YtkpdjbpfnepgaabUse
import Derived.Test.YtkpdjbpfnepgaabRow
import Derived.Test.YtkpdjbpfnepgaabPriced
namespace Go.Proofs.Ytkpdjbpfnepgaab
open Go.RowKit Go.ChangeShapes Go.WideShapes
attribute [local go_sem] run_negF

def leB (x y : Nat) : Bool := FloatKind.f32.format.order x y == some Ordering.lt || FloatKind.f32.format.order x y == some Ordering.eq
theorem leB_iff {x y : Nat} (hx : fin32 x = true) (hy : fin32 y = true) : leB x y = true ↔ Fl.sv Ieee.single x ≤ Fl.sv Ieee.single y := by
  have ho := Fl.order_fin (fin_of hx) (fin_of hy)
  unfold leB
  show (Ieee.single.order x y == some Ordering.lt || Ieee.single.order x y == some Ordering.eq) = true ↔ _
  by_cases hl : Fl.sv Ieee.single x < Fl.sv Ieee.single y
  · rw [ho.1.2 hl]; simp; grind
  · by_cases he : Fl.sv Ieee.single x = Fl.sv Ieee.single y
    · rw [ho.2.1.2 he]; simp; grind
    · rw [ho.2.2.2 (by grind)]; simp; grind
theorem gt_le {x y : Nat} (hx : fin32 x = true) (hy : fin32 y = true) : gtB x y = !leB x y := by
  have ho := Fl.order_fin (fin_of hx) (fin_of hy)
  unfold leB gtB
  show (Ieee.single.order x y == some Ordering.gt) = !(Ieee.single.order x y == some Ordering.lt || Ieee.single.order x y == some Ordering.eq)
  by_cases hl : Fl.sv Ieee.single x < Fl.sv Ieee.single y
  · rw [ho.1.2 hl]; rfl
  · by_cases he : Fl.sv Ieee.single x = Fl.sv Ieee.single y
    · rw [ho.2.1.2 he]; rfl
    · rw [ho.2.2.2 (by grind)]; rfl
/-- The greater one of two, as the builtin has it. -/
def maxV (x y : Nat) : Nat := match FloatKind.f32.format.order x y with
  | some .lt => y
  | some .gt => x
  | some .eq => if (FloatKind.f32.decode x).neg then y else x
  | none => 0
theorem run_maxV {P : Program} (ts : Array TypeId) (t : TypeId) (x y : Nat) (w : World) (h : (FloatKind.f32.format.order x y).isSome = true) : (Builtin.max_ ts t #[.float .f32 x, .float .f32 y]).run P w = .ok (.float .f32 (maxV x y)) w := by
  unfold maxV
  cases h' : FloatKind.f32.format.order x y with
  | none => rw [h'] at h; cases h
  | some c => cases c <;> simp [Builtin.max_, Builtin.max2, h']
theorem some_order {x y : Nat} (hx : fin32 x = true) (hy : fin32 y = true) : (FloatKind.f32.format.order x y).isSome = true := by
  have ho := Fl.order_fin (fin_of hx) (fin_of hy)
  show (Ieee.single.order x y).isSome = true
  by_cases hl : Fl.sv Ieee.single x < Fl.sv Ieee.single y
  · rw [ho.1.2 hl]; rfl
  · by_cases he : Fl.sv Ieee.single x = Fl.sv Ieee.single y
    · rw [ho.2.1.2 he]; rfl
    · rw [ho.2.2.2 (by grind)]; rfl
theorem maxV_or (x y : Nat) (hx : fin32 x = true) (hy : fin32 y = true) : (maxV x y = x ∧ Fl.sv Ieee.single y ≤ Fl.sv Ieee.single x) ∨ (maxV x y = y ∧ Fl.sv Ieee.single x ≤ Fl.sv Ieee.single y) := by
  have ho := Fl.order_fin (fin_of hx) (fin_of hy)
  unfold maxV
  show ((match Ieee.single.order x y with | some .lt => y | some .gt => x | some .eq => _ | none => 0) = x ∧ _) ∨ ((match Ieee.single.order x y with | some .lt => y | some .gt => x | some .eq => _ | none => 0) = y ∧ _)
  by_cases hl : Fl.sv Ieee.single x < Fl.sv Ieee.single y
  · rw [ho.1.2 hl]; exact Or.inr ⟨rfl, by grind⟩
  · by_cases he : Fl.sv Ieee.single x = Fl.sv Ieee.single y
    · rw [ho.2.1.2 he]
      dsimp only
      split
      · exact Or.inr ⟨rfl, by grind⟩
      · exact Or.inl ⟨rfl, by grind⟩
    · rw [ho.2.2.2 (by grind)]; exact Or.inl ⟨rfl, by grind⟩
/-- The greatest one of the first k numbers of a list. -/
structure MaxAt (Z : List Nat) (k r : Nat) : Prop where
  fin : fin32 r = true
  ge : ∀ j, j < k → Fl.sv Ieee.single (Z.getD j 0) ≤ Fl.sv Ieee.single r
  mem : ∃ j, j < k ∧ Z.getD j 0 = r
theorem MaxAt.step {Z : List Nat} {k r : Nat} (h : MaxAt Z k r) (hy : fin32 (Z.getD k 0) = true) : MaxAt Z (k + 1) (maxV r (Z.getD k 0)) := by
  rcases maxV_or r (Z.getD k 0) h.fin hy with ⟨e, hl⟩ | ⟨e, hl⟩
  · rw [e]
    refine ⟨h.fin, fun j hj => ?_, ?_⟩
    · by_cases hjk : j = k
      · subst hjk; exact hl
      · exact h.ge j (by omega)
    · obtain ⟨j, hj, hm⟩ := h.mem
      exact ⟨j, by omega, hm⟩
  · rw [e]
    refine ⟨hy, fun j hj => ?_, ⟨k, by omega, rfl⟩⟩
    by_cases hjk : j = k
    · subst hjk; exact Rat.le_refl
    · exact Rat.le_trans (h.ge j (by omega)) hl
theorem MaxAt.le {Z : List Nat} {r a : Nat} (h : MaxAt Z Z.length r) (hZ : finAll Z = true) (ha : fin32 a = true) : leB r a = Z.all fun x => leB x a := by
  rw [Bool.eq_iff_iff, leB_iff h.fin ha, List.all_eq_true]
  constructor
  · intro hr x hx
    obtain ⟨j, hj, rfl⟩ := List.getElem_of_mem hx
    have hf := List.all_eq_true.1 hZ _ hx
    rw [leB_iff hf ha]
    have := h.ge j hj
    rw [getD_at hj] at this
    exact Rat.le_trans this hr
  · intro hall
    obtain ⟨j, hj, rfl⟩ := h.mem
    rw [getD_at hj] at *
    have hm := List.getElem_mem hj
    exact (leB_iff (List.all_eq_true.1 hZ _ hm) ha).1 (hall _ hm)
/-- A call that answers the greatest one. -/
def MaxOf (Z : List Nat) (w : World) (e : Ending) (w' : World) : Prop := ∃ r, e = .returned (.float .f32 r) ∧ MaxAt Z Z.length r ∧ w = w'
section
attribute [local go_sem] run_maxV
set_option maxHeartbeats 1000000 in
theorem maxF_any (v : Value) (Z : List Nat) (w : World) (hv : SL w v Z) (hp : 0 < Z.length) (hn : Z.length ≤ 1048576) (hZ : finAll Z = true) :
    Calls Try.prog 65 #[v] w (MaxOf Z w) := by
  rcases hv with ⟨rfl, -⟩ | ⟨b, off, cap, rfl, hpos, hbl, hcell⟩
  · exact absurd hp (by simp)
  have HC := Lib.hid hcell
  have HF : Hid (∀ k, k < Z.length → fin32 (Z.getD k 0) = true) := Lib.hid (fun k hk => by rw [getD_at hk]; exact List.all_eq_true.1 hZ _ (List.getElem_mem hk))
  have c0 : w.cell? ⟨b, off, none⟩ = some (.float .f32 (Z.getD 0 0)) := by have := hcell 0 hp; simpa using this
  have hge : decide ((Z.length : Int) < 1) = false := by simp; omega
  have hp2 : (0 : Int) < (Z.length : Int) := by omega
  have H0 : Hid (MaxAt Z 1 (Z.getD 0 0)) := Lib.hid ⟨HF.out 0 hp, fun j hj => by rw [show j = 0 by omega]; exact Rat.le_refl, 0, by omega, rfl⟩
  obtain ⟨y0, hy0⟩ : ∃ y, y = Z.getD 0 0 := ⟨_, rfl⟩
  rw [← hy0] at c0
  have HY0 := Lib.hid hy0
  clear hcell hy0 hZ
  go_enter Try.func65, Try.ntmps65
  go_wp2_with fail
  clear c0
  go_loop [3, 4] (fun m i => ∃ k r : Nat, 1 ≤ k ∧ k ≤ Z.length ∧ i = .int .i64 k ∧ m = .float .f32 r ∧ MaxAt Z k r) (fun _ i => Z.length - (intOf i).toNat)
  case atStart => exact ⟨1, y0, Nat.le_refl _, hp, rfl, rfl, by rw [HY0.out]; exact H0.out⟩
  case round =>
    obtain ⟨k, r, hk1, hk, rfl, rfl, hm⟩ := hrel
    have HM := Lib.hid hm
    by_cases hlt : k < Z.length
    · have c1 := HC.out k hlt
      have hq := some_order hm.fin (HF.out k hlt)
      have HN := Lib.hid (hm.step (HF.out k hlt))
      clear hm
      generalize Z.getD k 0 = y at c1 hq HN
      go_wp2_with fail
      go_round
      case rel => exact ⟨k + 1, _, by omega, by omega, by go_num, rfl, HN.out⟩
      case measure => simp [intOf]; omega
    · obtain rfl : k = Z.length := by omega
      clear hm
      go_wp2_with fail
      go_ret
      exact ⟨_, rfl, HM.out, rfl⟩
end

def leC (C : Option Nat) (a : Nat) : Bool := match C with
  | some x => leB x a
  | none => false
def gtC (C : Option Nat) (a : Nat) : Bool := match C with
  | some x => gtB x a
  | none => false
def sumG (R : Rw) (X : List Nat) : Option Nat := dotC R.G X R.G.length
def rayRow (R : Rw) (X : List Nat) (a i : Nat) : Bool := finC (useC R X i) && leC (useC R X i) a
def rayRows (R : Rw) (X : List Nat) (a : Nat) : Bool := (List.range R.B.length).all fun i => rayRow R X a i
def rayB (R : Rw) (X : List Nat) (a : Nat) : Bool := fitB R X && (leastB a && (noLess (negF a) X && (rayRows R X a && (finC (sumG R X) && gtC (sumG R X) a))))
theorem cls_fin {r : Nat} {C : Option Nat} (h : Fl.cls .f32 r = C) (hC : finC C = true) : C = some r ∧ fin32 r = true := by
  have hf : fin32 r = true := by rw [fin_cls h]; exact hC
  have hn : (Ieee.single.read r).isNaN = false := by
    cases hn : (Ieee.single.read r).isNaN with
    | false => rfl
    | true => rw [fin_nan32 hn] at hf; cases hf
  exact ⟨by rw [← h]; exact Fl.cls_some (k := .f32) hn, hf⟩
theorem leC_of {r a : Nat} {C : Option Nat} (h : Fl.cls .f32 r = C) : (finC C && leC C a) = (fin32 r && leB r a) := by
  cases hC : finC C with
  | false => rw [fin_cls h, hC]; rfl
  | true => obtain ⟨e, hf⟩ := cls_fin h hC; rw [hf, e]; rfl
theorem gtC_of {r a : Nat} {C : Option Nat} (h : Fl.cls .f32 r = C) : (finC C && gtC C a) = (fin32 r && gtB r a) := by
  cases hC : finC C with
  | false => rw [fin_cls h, hC]; rfl
  | true => obtain ⟨e, hf⟩ := cls_fin h hC; rw [hf, e]; rfl
theorem rows_all {R : Rw} {X Z : List Nat} {a : Nat} (hl : Z.length = R.B.length) (h : Cls (useC R X) R.B.length Z) : rayRows R X a = (finAll Z && Z.all fun x => leB x a) := by
  rw [Bool.eq_iff_iff]
  unfold rayRows rayRow finAll
  simp only [Bool.and_eq_true, List.all_eq_true, List.mem_range]
  constructor
  · intro hh
    have key : ∀ x ∈ Z, fin32 x = true ∧ leB x a = true := by
      intro x hx
      obtain ⟨j, hj, rfl⟩ := List.getElem_of_mem hx
      have h1 := hh j (by omega)
      have hc := h j (by omega)
      rw [getD_at hj] at hc
      rw [← Bool.and_eq_true, leC_of hc, Bool.and_eq_true] at h1
      exact h1
    exact ⟨fun x hx => (key x hx).1, fun x hx => (key x hx).2⟩
  · rintro ⟨h1, h2⟩ j hj
    have hj' : j < Z.length := by omega
    have hc := h j hj
    rw [getD_at hj'] at hc
    rw [← Bool.and_eq_true, leC_of hc, Bool.and_eq_true]
    exact ⟨h1 _ (List.getElem_mem hj'), h2 _ (List.getElem_mem hj')⟩
end Go.Proofs.Ytkpdjbpfnepgaab
