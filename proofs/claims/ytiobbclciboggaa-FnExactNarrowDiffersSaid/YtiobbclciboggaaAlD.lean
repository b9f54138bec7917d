/- Over all choices: the iterator (fits: differsIn$1). -/
import Derived.Test.YtiobbclciboggaaExD
import Derived.Test.YtiobbclciboggaaIxAl
namespace Go.Proofs.Ytiobbclciboggaa
open Go.RowKit Go.ChangeShapes Go.WideShapes

theorem extendD_any (w0 : World) (n l : Nat) (S : Nat → Prop) (J Jx : List (List Int) → World → Prop) (Ls : List (List Int)) (T : TellD w0 n l S Ls.length J Jx) (lv : Value) (hlv : LV w0 lv Ls)
    (hD : ∀ i, (Ls.getD i []).length ≤ 1000 ∧ ∀ x ∈ Ls.getD i [], 0 ≤ x ∧ x ≤ 1000) (hLs : Ls.length ≤ 1000) : ∀ (f : Nat)
    (Q : List Int) (pr : List (List Int)) (u : Value) (W : World), Q.length + f = Ls.length → Beg Ls Q → n ≤ W.heap.size → Grows (Value.int .i64) 2 n u Q W → J pr W →
      Calls Try.prog 156 #[.agg #[lv, fitD], u, .func (.yield l) #[] #[]] W (GoesOn S J Jx pr (exts nwB Ls f Q) u.ownBlock Q.length W)
  | 0, Q, pr, u, W, hq, _, hn, hG, hJ => extendD_end w0 n l S J Jx Ls T lv hlv Q pr u W hq hn hG hJ
  | f + 1, Q, pr, u, W, hq, hb, hn, hG, hJ => extendD_step w0 n l S J Jx Ls T lv hlv hD hLs f (extendD_any w0 n l S J Jx Ls T lv hlv hD hLs f) Q pr u W hq hb hn hG hJ
theorem emptyD_any (v : Value) (Z : List Int) (w : World) (hv : IL w v Z) :
    Calls Try.prog 155 #[v] w (Says (decide (Z.length = 0)) w) := by
  obtain ⟨ao, cap, rfl⟩ := hv.long
  have e0 : ((Z.length : Int) == 0) = decide (Z.length = 0) := by rw [Bool.eq_iff_iff]; simp
  have E0 := Lib.hid e0
  clear hv e0
  go_enter Try.func155, Try.ntmps155
  go_wp2_with fail
  go_ret
  exact says E0.out (Below.refl _ _)
/-- What the iterator answers, over whatever is told with each choice. -/
def AllTold (S : Nat → Prop) (J Jx : List (List Int) → World → Prop) (X : List (List Int)) (W : World) (e : Ending) (W' : World) : Prop :=
  ∃ v, e = .returned v ∧ Went S none 0 W W' ∧ (J X W' ∨ ∃ q, q <+: X ∧ q ≠ [] ∧ Jx q W')
set_option maxRecDepth 100000 in
set_option maxHeartbeats 4000000 in
theorem allD1_any (w0 : World) (n l c : Nat) (S : Nat → Prop) (J Jx : List (List Int) → World → Prop) (Ls : List (List Int)) (T : TellD w0 n l S Ls.length J Jx) (lv : Value) (hlv : LV w0 lv Ls)
    (hD : ∀ i, (Ls.getD i []).length ≤ 1000 ∧ ∀ x ∈ Ls.getD i [], 0 ≤ x ∧ x ≤ 1000) (hLs : Ls.length ≤ 1000) (hNe : ∀ i, i < Ls.length → (Ls.getD i []).length ≠ 0)
    (W : World) (hn : n ≤ W.heap.size) (hX : Box2 W c lv fitD) (hJ : J [] W) :
    Calls Try.prog 154 #[.func (.yield l) #[] #[], .pointer (some ⟨c, 0, none⟩)] W (AllTold S J Jx (exts nwB Ls Ls.length []) W) := by
  have HE := Lib.hid (extendD_any w0 n l S J Jx Ls T lv hlv hD hLs Ls.length [] [] (.slice none 0 0))
  have hbl := T.below _ _ hJ
  have HLV := Lib.hid (hlv.below hbl (Nat.le_refl _))
  have HK := Lib.hid T.keep
  have HJ := Lib.hid hJ
  have hany : anyP (fun Z => decide (Z.length = 0)) Ls = false := anyP_no fun k hk => decide_eq_false (hNe k hk)
  have HA := Lib.hid hany
  have HX := Lib.hid hX
  have hll : Ls.length ≤ 1048576 := by omega
  obtain ⟨c0, c1⟩ := hX
  clear hJ hbl hany hlv T hD hNe
  go_enter Try.func154, Try.ntmps154
  go_wp2_with fail
  go_at_call 108; refine (ctAl_any (fun Z => decide (Z.length = 0)) _ Ls _ HLV.out hll (fun k u w' _ _ hi => emptyD_any u _ w' hi)).mono ?_; rintro e w1 ⟨rfl, b1⟩
  rw [HA.out]
  have hn1 : n ≤ w1.heap.size := Nat.le_trans hn b1.size
  have X1 := Lib.hid (HX.out.keep b1 HX.out.lt)
  have HJ1 := Lib.hid (HK.out _ _ _ HJ.out (b1.mono hn))
  have B1 := Lib.hid b1
  clear b1 c0 c1
  obtain ⟨c0, c1⟩ := X1.out
  go_wp2_with fail
  go_at_call 156; refine (HE.out w1 (by simp) (Beg.nil _) hn1 (Grows.nil _ _ _ _) HJ1.out).mono ?_; rintro e w2 ⟨b, rfl, hw, h1, h2⟩
  have HW : Hid (Went S none 0 W w2) := Lib.hid ((Went.of_below B1.out (Nat.le_refl _)).trans hw)
  have H1 := Lib.hid h1
  have H2 := Lib.hid h2
  clear hw h1 h2 c0 c1
  go_wp2_with fail
  go_end0
  refine ⟨_, rfl, HW.out, ?_⟩
  cases b with
  | true => exact Or.inl (H1.out rfl)
  | false => exact Or.inr (H2.out rfl)
theorem allD_any (lv : Value) (Ls : List (List Int)) (W : World) (hlv : LV W lv Ls) :
    Calls Try.prog 110 #[.agg #[lv, fitD]] W (fun e w' => e = .returned (.func (.func 154) #[] #[.pointer (some ⟨W.heap.size, 0, none⟩)]) ∧ w' = W.alloc (.cells #[lv, fitD] 75)) := by
  obtain ⟨ao, cap, rfl⟩ := hlv.long
  clear hlv
  go_enter Try.func110, Try.ntmps110
  go_wp2_with fail
  go_ret
  exact ⟨rfl, rfl⟩
end Go.Proofs.Ytiobbclciboggaa
