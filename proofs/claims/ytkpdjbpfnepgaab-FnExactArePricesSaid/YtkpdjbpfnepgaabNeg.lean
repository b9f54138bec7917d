/- Opposites of singles; how near is near enough. -/
import Derived.Test.YtkpdjbpfnepgaabGain0
import Derived.ChangeAlike
namespace Go.Proofs.Ytkpdjbpfnepgaab
open Go.RowKit Go.ChangeShapes Go.WideShapes

def negF (x : Nat) : Nat := Op.negFloat .f32 x
theorem run_negF {P : Program} (w : World) (x : Nat) : (Op.unary .neg (.float .f32 x)).run P w = .ok (.float .f32 (negF x)) w := by simp [Op.unary, negF]
attribute [local go_sem] run_negF
theorem neg_rg32 (x : Nat) : Fl.rg Ieee.single (negF x) = Fl.rg Ieee.single x := by
  have e : negF x = x ^^^ 2 ^ 31 := rfl
  rw [e]
  show (x ^^^ 2 ^ 31) % 2 ^ 31 = x % 2 ^ 31
  rw [Nat.xor_mod_two_pow]
  simp
theorem fin_neg {x : Nat} (h : fin32 x = true) : fin32 (negF x) = true := by
  unfold fin32 at h ⊢
  rw [neg_rg32]; exact h
theorem fin_geL {x l : Nat} (h : fin32 x = true) (hl : fin32 l = true) : geB x l = !ltB x l := by
  have hx : Fl.Fin Ieee.single x := by
    unfold fin32 at h
    unfold Fl.Fin
    rw [Fl.single_inf]
    exact of_decide_eq_true h
  have h0 : Fl.Fin Ieee.single l := by
    unfold fin32 at hl
    unfold Fl.Fin
    rw [Fl.single_inf]
    exact of_decide_eq_true hl
  have ho := Fl.order_fin hx h0
  unfold geB ltB
  show (Ieee.single.order x l == some Ordering.gt || Ieee.single.order x l == some Ordering.eq) = !(Ieee.single.order x l == some Ordering.lt)
  by_cases hl : Fl.sv Ieee.single x < Fl.sv Ieee.single l
  · rw [ho.1.2 hl]; rfl
  · by_cases he : Fl.sv Ieee.single x = Fl.sv Ieee.single l
    · rw [ho.2.1.2 he]; rfl
    · rw [ho.2.2.2 (by grind)]; rfl
theorem isNear_is (x : Nat) (b : Bool) (w : World) (hb : leastB x = b) : Calls Try.prog 61 #[.float .f32 x] w (Tells b w) := by
  subst hb; exact isNear_any x w
theorem l02Least_is (x : Nat) (b : Bool) (w : World) (hb : leastB x = b) : Calls Try.prog 56 #[.float .f32 x] w (Tells b w) := by
  subst hb; exact l02Least_any x w
theorem ge_all {Z : List Nat} {l : Nat} (hZ : finAll Z = true) (hl : fin32 l = true) : (Z.all fun x => geB x l) = noLess l Z := by
  rw [Bool.eq_iff_iff]
  unfold noLess
  simp only [List.all_eq_true]
  constructor
  · intro h x hx
    rw [← fin_geL (List.all_eq_true.1 hZ x hx) hl]; exact h x hx
  · intro h x hx
    rw [fin_geL (List.all_eq_true.1 hZ x hx) hl]; exact h x hx
end Go.Proofs.Ytkpdjbpfnepgaab
