/- How many models there are: the law's two sides. -/
import Derived.Test.YtleaaigjnniglaaCnM
namespace Go.Proofs.Ytleaaigjnniglaa
open Go.RowKit Go.ChangeShapes Go.WideShapes

def modsF (F : Fm) : List Int := if formB F then modK F.letters.toNat F.cs (2 ^ F.letters.toNat) else []
theorem modsF_no {F : Fm} (h : formB F = false) : modsF F = [] := by unfold modsF; rw [h]; rfl
theorem modsF_yes {F : Fm} (h : formB F = true) : modsF F = modK F.letters.toNat F.cs (2 ^ F.letters.toNat) := by unfold modsF; rw [h]; rfl
def countI (F : Fm) : Int := ((modsF F).length : Nat)
theorem implCountModels_any (v : Value) (F : Fm) (w : World) (hv : FmV w v F) (o : OKFm F) :
    Calls Try.prog 36 #[v] w (SaysIB (countI F) (formB F) w) := by
  have hv0 := hv
  obtain ⟨s1, rfl, g1⟩ := hv
  have HV := Lib.hid (fun wx (hb : Below w.heap.size w wx) => hv0.below hb (Nat.le_refl _))
  have hb0 := Lib.hid (fun o => below_alloc w o)
  obtain ⟨ao, cap, rfl⟩ := g1.long
  clear hv0 g1
  cases h1 : formB F with
  | false =>
    have HN : Hid (countI F = 0) := Lib.hid (by unfold countI; rw [modsF_no h1]; rfl)
    have H1 := Lib.hid h1
    clear h1
    go_enter Try.func36, Try.ntmps36
    go_wp2_with fail
    go_at_call 22; refine (implForm_any _ F _ (HV.out _ (hb0.out _)) o).mono ?_; rintro e w1 ⟨rfl, b1⟩
    rw [H1.out]
    have HB := Lib.hid ((hb0.out _).trans (b1.mono (hb0.out _).size))
    clear b1
    go_wp2_with fail
    go_ret2
    exact saysIB HN.out.symm HB.out
  | true =>
    have HN : Hid (countI F = ((modK F.letters.toNat F.cs (2 ^ F.letters.toNat)).length : Nat)) := Lib.hid (by unfold countI; rw [modsF_yes h1])
    have HH := Lib.hid (formB_ok h1).num
    have H1 := Lib.hid h1
    clear h1
    go_enter Try.func36, Try.ntmps36
    go_wp2_with fail
    go_at_call 22; refine (implForm_any _ F _ (HV.out _ (hb0.out _)) o).mono ?_; rintro e w1 ⟨rfl, b1⟩
    rw [H1.out]
    have HB := Lib.hid ((hb0.out _).trans (b1.mono (hb0.out _).size))
    have HBX := Lib.hid ((Box2.mk' w (.int .i64 F.letters) (.slice ao F.cs.length cap) 31).keep b1 (by simp))
    obtain ⟨c0, c1⟩ := HBX.out
    clear b1
    go_wp2_with fail
    go_at_call 69; refine (modelsOf_any _ F F.letters.toNat _ (HV.out _ HB.out) o HH.out).mono ?_; rintro e w2 ⟨v2, rfl, hi2, b2⟩
    obtain ⟨x2, y2, rfl⟩ := II.len' hi2
    have HB2 := Lib.hid (HB.out.trans (b2.mono HB.out.size))
    clear hi2 b2 c0 c1
    go_wp2_with fail
    go_ret2
    exact saysIB HN.out.symm HB2.out
theorem specCountModels_any (v : Value) (F : Fm) (w : World) (hv : FmV w v F) (o : OKFm F) :
    Calls Try.prog 35 #[v] w (SaysIB (countI F) (formB F) w) := by
  obtain ⟨s1, rfl, g1⟩ := FmAt.mk' hv 31
  have G1 := Lib.hid g1
  have hb0 := Lib.hid (fun o => below_alloc w o)
  clear g1
  cases h1 : formB F with
  | false =>
    have HN : Hid (countI F = 0) := Lib.hid (by unfold countI; rw [modsF_no h1]; rfl)
    have H1 := Lib.hid h1
    clear h1
    go_enter Try.func35, Try.ntmps35
    go_wp2_with fail
    go_at_call 55; refine (l05Is_any w.heap.size F _ G1.out o).mono ?_; rintro e w1 ⟨rfl, b1⟩
    rw [H1.out]
    have HB := Lib.hid ((hb0.out _).trans (b1.mono (hb0.out _).size))
    clear b1
    go_wp2_with fail
    go_ret2
    exact saysIB HN.out.symm HB.out
  | true =>
    have HN : Hid (countI F = ((modK F.letters.toNat F.cs (2 ^ F.letters.toNat)).length : Nat)) := Lib.hid (by unfold countI; rw [modsF_yes h1])
    have HH := Lib.hid (formB_ok h1).num
    have H1 := Lib.hid h1
    clear h1
    go_enter Try.func35, Try.ntmps35
    go_wp2_with fail
    go_at_call 55; refine (l05Is_any w.heap.size F _ G1.out o).mono ?_; rintro e w1 ⟨rfl, b1⟩
    rw [H1.out]
    have HB := Lib.hid ((hb0.out _).trans (b1.mono (hb0.out _).size))
    have G2 := Lib.hid (G1.out.keep b1)
    clear b1
    go_wp2_with fail
    go_at_call 72; refine (l05Count_any w.heap.size F F.letters.toNat _ G2.out o HH.out).mono ?_; rintro e w2 ⟨rfl, m, rfl⟩
    go_wp2_with fail
    go_ret2
    exact saysIB HN.out.symm (below_drewN HB.out _)
end Go.Proofs.Ytleaaigjnniglaa
