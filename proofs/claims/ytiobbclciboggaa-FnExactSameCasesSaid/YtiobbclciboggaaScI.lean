/- Are cases the same? Plain; the program. -/
import Derived.Test.YtiobbclciboggaaCss
import Derived.Test.YtiobbclciboggaaSf
import Derived.ChangeKeysEq
namespace Go.Proofs.Ytiobbclciboggaa
open Go.RowKit Go.ChangeShapes Go.WideShapes

def sameCs (A B : Cs) : Bool := decide (A.name = B.name) && sameFm A.form B.form && sameC A.proof B.proof
def sameCL (X Y : List Cs) : Bool := decide (X.length = Y.length) && (List.range X.length).all fun i => sameCs (X.getD i zC) (Y.getD i zC)
theorem sameCL_lens {X Y : List Cs} (h : X.length ≠ Y.length) : sameCL X Y = false := by unfold sameCL; rw [decide_eq_false h]; rfl
theorem sameCL_yes {X Y : List Cs} (h : X.length = Y.length) (k : ∀ i, i < X.length → sameCs (X.getD i zC) (Y.getD i zC) = true) : sameCL X Y = true := by unfold sameCL; rw [decide_eq_true h, rngAll k]; rfl
theorem sameCL_no {X Y : List Cs} {i : Nat} (hi : i < X.length) (k : sameCs (X.getD i zC) (Y.getD i zC) = false) : sameCL X Y = false := by unfold sameCL; rw [rngNot hi k]; simp
theorem OKC.fm {C : Cs} (o : OKC C) : OKFm C.form := ⟨Nat.le_trans (szC_form C) o.size, o.fit.2.1⟩
theorem OKC.pf {C : Cs} (o : OKC C) : OKL C.proof := ⟨Nat.le_trans (szC_proof C) o.size, o.fit.2.2⟩
theorem implSameForm_is (t : Bool) (v : Value) (A : Fm) (u : Value) (B : Fm) (w : World) (hv : FmV w v A) (hu : FmV w u B) (oA : OKFm A) (oB : OKFm B) (h : sameFm A B = t) :
    Calls Try.prog 122 #[v, u] w (Says t w) := by subst h; exact implSameForm_any v A u B w hv hu oA oB
set_option maxHeartbeats 4000000 in
theorem isSame_any (v u : Value) (A B : Cs) (w : World) (hv : CsV w v A) (hu : CsV w u B) (oA : OKC A) (oB : OKC B) :
    Calls Try.prog 77 #[v, u] w (Says (sameCs A B) w) := by
  obtain ⟨s1, s2, rfl, g1, g2⟩ := hv
  obtain ⟨t1, t2, rfl, k1, k2⟩ := hu
  have HB := Lib.hid (fun o p => (below_alloc w o).alloc (by simp) p)
  have G1 := Lib.hid g1
  have G2 := Lib.hid g2
  have K1 := Lib.hid k1
  have K2 := Lib.hid k2
  obtain ⟨x1, y1, rfl⟩ := g1.long
  obtain ⟨x2, y2, rfl⟩ := g2.long
  obtain ⟨z1, q1, rfl⟩ := k1.long
  obtain ⟨z2, q2, rfl⟩ := k2.long
  have FA := Lib.hid oA.fm
  have FB := Lib.hid oB.fm
  have PA := Lib.hid oA.pf
  have PB := Lib.hid oB.pf
  have X1 := Lib.hid ((Box4.mk' w (.string A.name) (.int .i64 A.form.letters) (.slice x1 A.form.cs.length y1) (.slice x2 A.proof.length y2) 96).keep (below_alloc (w.alloc (.cells #[.string A.name, .int .i64 A.form.letters, .slice x1 A.form.cs.length y1, .slice x2 A.proof.length y2] 96)) (.cells #[.string B.name, .int .i64 B.form.letters, .slice z1 B.form.cs.length q1, .slice z2 B.proof.length q2] 96)) (by simp))
  have X2 := Lib.hid (Box4.mk' (w.alloc (.cells #[.string A.name, .int .i64 A.form.letters, .slice x1 A.form.cs.length y1, .slice x2 A.proof.length y2] 96)) (.string B.name) (.int .i64 B.form.letters) (.slice z1 B.form.cs.length q1) (.slice z2 B.proof.length q2) 96)
  clear g1 g2 k1 k2 oA oB
  by_cases hn : A.name = B.name
  · have hd : (A.name.toList == B.name.toList) = true := by simp [hn]
    have HN := Lib.hid hn
    clear hn
    cases q : sameFm A.form B.form with
    | false =>
      have HQ := Lib.hid q
      have HR : Hid (sameCs A B = false) := Lib.hid (by unfold sameCs; rw [q]; simp)
      clear q
      go_enter Try.func77, Try.ntmps77
      go_wp2_with fail
      go_at_call 122; refine (implSameForm_is false _ A.form _ B.form _ ⟨_, rfl, G1.out.below (HB.out _ _) (Nat.le_refl _)⟩ ⟨_, rfl, K1.out.below (HB.out _ _) (Nat.le_refl _)⟩ FA.out FB.out HQ.out).mono ?_; rintro e w1 ⟨rfl, b1⟩
      have B1 := Lib.hid ((HB.out _ _).trans (b1.mono (by simp; omega)))
      clear b1
      go_wp2_with fail
      go_ret
      exact says HR.out.symm B1.out
    | true =>
      have HQ := Lib.hid q
      have HR : Hid (sameCs A B = sameC A.proof B.proof) := Lib.hid (by unfold sameCs; rw [q, decide_eq_true HN.out]; simp)
      clear q
      go_enter Try.func77, Try.ntmps77
      go_wp2_with fail
      go_at_call 122; refine (implSameForm_is true _ A.form _ B.form _ ⟨_, rfl, G1.out.below (HB.out _ _) (Nat.le_refl _)⟩ ⟨_, rfl, K1.out.below (HB.out _ _) (Nat.le_refl _)⟩ FA.out FB.out HQ.out).mono ?_; rintro e w1 ⟨rfl, b1⟩
      have B1 := Lib.hid ((HB.out _ _).trans (b1.mono (by simp; omega)))
      obtain ⟨c0, c1, c2, c3⟩ := X1.out.keep b1 X1.out.lt
      obtain ⟨d0, d1, d2, d3⟩ := X2.out.keep b1 X2.out.lt
      rw [show (w.alloc (.cells #[.string A.name, .int .i64 A.form.letters, .slice x1 A.form.cs.length y1, .slice x2 A.proof.length y2] 96)).heap.size = w.heap.size + 1 by simp] at d0 d1 d2 d3
      clear b1
      go_wp2_with fail
      go_at_call 123; refine (eqFunc_any _ _ A.proof B.proof _ PA.out PB.out (G2.out.below B1.out (Nat.le_refl _)) (K2.out.below B1.out (Nat.le_refl _))).mono ?_; rintro e w' ⟨rfl, m, rfl⟩
      clear c0 c1 c2 c3 d0 d1 d2 d3
      go_wp2_with fail
      go_ret
      exact says HR.out.symm (below_drewN B1.out _)
  · have hd : (A.name.toList == B.name.toList) = false := by simpa [ByteArray.toList_eq, ByteArray.ext_iff] using hn
    have HR : Hid (sameCs A B = false) := Lib.hid (by unfold sameCs; rw [decide_eq_false hn]; simp)
    clear hn
    go_enter Try.func77, Try.ntmps77
    go_wp2_with fail
    go_ret
    exact says HR.out.symm (HB.out _ _)
end Go.Proofs.Ytiobbclciboggaa
