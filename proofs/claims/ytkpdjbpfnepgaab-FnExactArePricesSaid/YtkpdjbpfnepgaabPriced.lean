/- Lists of prices, on both sides. -/
import Derived.Test.YtkpdjbpfnepgaabGain0
namespace Go.Proofs.Ytkpdjbpfnepgaab
open Go.RowKit Go.ChangeShapes Go.WideShapes

def pricedB (R : Rw) (Y : List Nat) : Bool := okR R && (decide (Y.length = R.B.length) && finAll Y)
theorem fin_of {x : Nat} (h : fin32 x = true) : Fl.Fin Ieee.single x := by
  unfold fin32 at h
  unfold Fl.Fin
  rw [Fl.single_inf]
  exact of_decide_eq_true h
set_option maxHeartbeats 1000000 in
theorem l02Priced_any (g : Nat) (s1 s2 s3 : Value) (R : Rw) (u : Value) (Y : List Nat) (w : World) (h : RP w g s1 s2 s3 R) (hu : SL w u Y) (hn : R.size ≤ 1048576) (hx : Y.length ≤ 1048576) (t : Bool) (ht : pricedB R Y = t) :
    Calls Try.prog 66 #[.pointer (some ⟨g, 0, none⟩), u] w (Tells t w) := by
  subst ht
  have HP := Lib.hid h
  have HU := Lib.hid hu
  have c2 := h.c2
  obtain ⟨ao2, cap2, rfl⟩ := h.r2.long
  obtain ⟨ao, cap, rfl⟩ := hu.long
  clear hu h
  unfold pricedB
  cases h1 : okR R with
  | false =>
    have H1 := Lib.hid h1
    clear h1
    go_enter Try.func66, Try.ntmps66
    go_wp2_with (go_at_call 71; refine (l02Is_is _ _ s1 _ s3 R _ HP.out hn H1.out).mono ?_; rintro e w' ⟨rfl, n1, rfl⟩)
    go_ret
    exact tells _ rfl
  | true =>
    have H1 := Lib.hid h1
    clear h1
    cases h2 : decide (Y.length = R.B.length) with
    | false =>
      have t2 : ((Y.length : Int) == (R.B.length : Int)) = false := by simp at h2 ⊢; omega
      clear h2
      go_enter Try.func66, Try.ntmps66
      go_wp2_with (go_at_call 71; refine (l02Is_is _ _ s1 _ s3 R _ HP.out hn H1.out).mono ?_; rintro e w' ⟨rfl, n1, rfl⟩)
      go_ret
      exact tells _ rfl
    | true =>
      have t2 : ((Y.length : Int) == (R.B.length : Int)) = true := by simp at h2 ⊢; omega
      clear h2
      go_enter Try.func66, Try.ntmps66
      go_wp2_with fail
      go_at_call 71; refine (l02Is_is _ _ s1 _ s3 R _ HP.out hn H1.out).mono ?_; rintro e w' ⟨rfl, n1, rfl⟩
      go_wp2_with fail
      go_at_call 121; refine (l02Finite_any _ Y _ (SL.dn HU.out) hx).mono ?_; rintro e w' ⟨rfl, n2, rfl⟩
      go_wp2_with fail
      go_ret
      exact tells _ rfl
theorem isPriceList_any (v : Value) (R : Rw) (u : Value) (Y : List Nat) (w : World) (hv : RV w v R) (hu : SL w u Y) (hx : Y.length ≤ 1048576) (b : Bool) (hb : finN (R.B.length : Nat) Y = b) :
    Calls Try.prog 68 #[v, u] w (Says b w) := by
  have HB := Lib.hid (below_alloc w)
  obtain ⟨s1, s2, s3, rfl, g1, g2, g3⟩ := hv
  obtain ⟨ao2, cap2, rfl⟩ := g2.long
  have HU := Lib.hid (fun o => hu.below (HB.out o) (Nat.le_refl _))
  have H := Lib.hid hb
  clear g1 g2 g3 hb hu
  go_enter Try.func68, Try.ntmps68
  go_wp2_with (go_at_call 64; refine (areFinite_is _ _ _ Y _ (HU.out _) hx H.out).mono ?_; rintro e w' ⟨rfl, n1, rfl⟩)
  go_ret
  exact says rfl (below_drewN (HB.out _) _)
theorem RP.box (w : World) {s1 s2 s3 : Value} {R : Rw} (g1 : SL w s1 R.N) (g2 : SL w s2 R.B) (g3 : SL w s3 R.G) : RP (w.alloc (.cells #[.int .i64 R.vars, s1, s2, s3] 28)) w.heap.size s1 s2 s3 R :=
  ⟨World.cell?_alloc_new _ _ _ _, World.cell?_alloc_new _ _ _ _, World.cell?_alloc_new _ _ _ _, World.cell?_alloc_new _ _ _ _, g1.below (below_alloc _ _) (Nat.le_refl _), g2.below (below_alloc _ _) (Nat.le_refl _), g3.below (below_alloc _ _) (Nat.le_refl _)⟩
theorem RP.keep {B : Nat} {w w' : World} {g : Nat} {s1 s2 s3 : Value} {R : Rw} (h : RP w g s1 s2 s3 R) (hb : Below B w w') (hB : w.heap.size ≤ B) (hg : g < B) : RP w' g s1 s2 s3 R :=
  ⟨keep_cell h.c0 hb hg, keep_cell h.c1 hb hg, keep_cell h.c2 hb hg, keep_cell h.c3 hb hg, h.r1.below hb hB, h.r2.below hb hB, h.r3.below hb hB⟩
theorem pricedB_ok {R : Rw} {Y : List Nat} (h : pricedB R Y = true) : OkR R ∧ Y.length = R.B.length ∧ finAll Y = true := by
  unfold pricedB at h
  simp only [Bool.and_eq_true, decide_eq_true_eq] at h
  exact ⟨(okR_iff R).1 h.1, h.2.1, h.2.2⟩
end Go.Proofs.Ytkpdjbpfnepgaab
