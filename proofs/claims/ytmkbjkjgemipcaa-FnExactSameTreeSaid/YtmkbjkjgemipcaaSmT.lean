/- Are trees the same? Both sides. -/
import Derived.Test.YtmkbjkjgemipcaaSmI
import Derived.Test.YtmkbjkjgemipcaaTr
namespace Go.Proofs.Ytmkbjkjgemipcaa
open Go.RowKit Go.ChangeShapes Go.WideShapes

def sameTr (A B : Tr) : Bool := sameI A.P B.P && sameI A.V B.V
theorem implSameTree_any (v : Value) (A : Tr) (u : Value) (B : Tr) (w : World) (hv : TrV w v A) (hu : TrV w u B) (oA : OKTr A) (oB : OKTr B) :
    Calls Try.prog 25 #[v, u] w (Says (sameTr A B) w) := by
  have HB := Lib.hid (fun o p => (below_alloc w o).alloc (by simp) p)
  have a1 := oA.okp.size
  have a2 := oA.okv.size
  have b1 := oB.okp.size
  have b2 := oB.okv.size
  obtain ⟨s1, s2, rfl, r1, r2⟩ := hv
  obtain ⟨t1, t2, rfl, k1, k2⟩ := hu
  have R1 := Lib.hid r1
  have R2 := Lib.hid r2
  have K1 := Lib.hid k1
  have K2 := Lib.hid k2
  clear r1 r2 k1 k2
  unfold sameTr
  cases q : sameI A.P B.P with
  | false =>
    have HQ := Lib.hid q
    clear q
    go_enter Try.func25, Try.ntmps25
    go_wp2_with fail
    go_at_call 70; refine (slEqual_any _ _ A.P B.P _ (R1.out.below (HB.out _ _) (Nat.le_refl _)) (K1.out.below (HB.out _ _) (Nat.le_refl _)) a1 b1).mono ?_; rintro e w' ⟨rfl, m, rfl⟩
    rw [HQ.out]
    go_wp2_with fail
    go_ret
    exact says rfl (below_drewN (HB.out _ _) _)
  | true =>
    have HQ := Lib.hid q
    clear q
    go_enter Try.func25, Try.ntmps25
    go_wp2_with fail
    go_at_call 70; refine (slEqual_any _ _ A.P B.P _ (R1.out.below (HB.out _ _) (Nat.le_refl _)) (K1.out.below (HB.out _ _) (Nat.le_refl _)) a1 b1).mono ?_; rintro e w' ⟨rfl, m, rfl⟩
    rw [HQ.out]
    go_wp2_with fail
    go_at_call 70; refine (slEqual_any _ _ A.V B.V _ (R2.out.below (below_drewN (HB.out _ _) _) (Nat.le_refl _)) (K2.out.below (below_drewN (HB.out _ _) _) (Nat.le_refl _)) a2 b2).mono ?_; rintro e w' ⟨rfl, m2, rfl⟩
    go_wp2_with fail
    go_ret
    exact says rfl (below_drewN (HB.out _ _) _)
theorem specSameTree_any (v : Value) (A : Tr) (u : Value) (B : Tr) (w : World) (hv : TrV w v A) (hu : TrV w u B) (oA : OKTr A) (oB : OKTr B) :
    Calls Try.prog 24 #[v, u] w (Says (sameTr A B) w) := by
  have HB := Lib.hid (fun o p => (below_alloc w o).alloc (by simp) p)
  have a1 := oA.okp.size
  have a2 := oA.okv.size
  have b1 := oB.okp.size
  have b2 := oB.okv.size
  obtain ⟨s1, s2, rfl, r1, r2⟩ := hv
  obtain ⟨t1, t2, rfl, k1, k2⟩ := hu
  have R1 := Lib.hid r1
  have R2 := Lib.hid r2
  have K1 := Lib.hid k1
  have K2 := Lib.hid k2
  clear r1 r2 k1 k2
  unfold sameTr
  cases q : sameI A.P B.P with
  | false =>
    have HQ := Lib.hid q
    clear q
    go_enter Try.func24, Try.ntmps24
    go_wp2_with fail
    go_at_call 69; refine (l00Same_at false _ _ A.P B.P _ (R1.out.below (HB.out _ _) (Nat.le_refl _)) (K1.out.below (HB.out _ _) (Nat.le_refl _)) a1 b1 HQ.out).mono ?_; rintro e w' ⟨rfl, m, rfl⟩
    go_wp2_with fail
    go_ret
    exact says rfl (below_drewN (HB.out _ _) _)
  | true =>
    have HQ := Lib.hid q
    clear q
    go_enter Try.func24, Try.ntmps24
    go_wp2_with fail
    go_at_call 69; refine (l00Same_at true _ _ A.P B.P _ (R1.out.below (HB.out _ _) (Nat.le_refl _)) (K1.out.below (HB.out _ _) (Nat.le_refl _)) a1 b1 HQ.out).mono ?_; rintro e w' ⟨rfl, m, rfl⟩
    go_wp2_with fail
    go_at_call 69; refine (l00Same_at _ _ _ A.V B.V _ (R2.out.below (below_drewN (HB.out _ _) _) (Nat.le_refl _)) (K2.out.below (below_drewN (HB.out _ _) _) (Nat.le_refl _)) a2 b2 rfl).mono ?_; rintro e w' ⟨rfl, m2, rfl⟩
    go_wp2_with fail
    go_ret
    exact says rfl (below_drewN (HB.out _ _) _)
end Go.Proofs.Ytmkbjkjgemipcaa
