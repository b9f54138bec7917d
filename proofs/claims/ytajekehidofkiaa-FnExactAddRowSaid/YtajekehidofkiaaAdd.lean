/- A row more: the model's side. -/
import Derived.Test.YtajekehidofkiaaHelp
import Derived.Test.YtajekehidofkiaaGain0
import Derived.Deep.AppendLies
namespace Go.Proofs.Ytajekehidofkiaa
open Go.RowKit Go.ChangeShapes Go.WideShapes

def addR (R : Rw) (X : List Nat) (y : Nat) : Rw := ⟨R.vars, R.N ++ X, R.B ++ [y], R.G⟩
def addB (R : Rw) (X : List Nat) (y : Nat) : Bool := fitB R X && okR (addR R X y)
def addO (R : Rw) (X : List Nat) (y : Nat) : Rw := bif addB R X y then addR R X y else ⟨0, [], [], []⟩
/-- Answers of rows of the call's own and a bool. -/
def SaysRB (Q : Rw) (b : Bool) (w : World) (e : Ending) (w' : World) : Prop := ∃ v, e = .returned (.tuple #[v, .bool b]) ∧ RT w.heap.size w'.heap.size w' v Q ∧ Below w.heap.size w w'
theorem zeroR_rd {lo : Nat} {w : World} (h : lo ≤ w.heap.size) : RD lo w.heap.size w zeroR ⟨0, [], [], []⟩ :=
  ⟨_, _, _, lo, lo, Nat.le_refl _, Nat.le_refl _, h, rfl, SI.nil _ h _ _, SI.nil _ h _ _, SI.nil _ (Nat.le_refl _) _ _⟩
theorem l02Fit_says (b : Bool) (g : Nat) (s1 s2 s3 : Value) (R : Rw) (u : Value) (X : List Nat) (w : World) (h : RP w g s1 s2 s3 R) (hu : SL w u X) (hn : R.size ≤ 1048576) (hx : X.length ≤ 1048576) (hb : fitB R X = b) :
    Calls Try.prog 53 #[.pointer (some ⟨g, 0, none⟩), u] w (Says b w) := by
  subst hb
  exact (l02Fit_any g s1 s2 s3 R u X w h hu hn hx).mono fun _ _ ⟨h1, n, h2⟩ => ⟨h1, by rw [h2]; exact below_drewN (Below.refl _ _) n⟩
set_option maxHeartbeats 2000000 in
theorem specAdd_no (v : Value) (R : Rw) (u : Value) (X : List Nat) (y : Nat) (w : World) (hv : RV w v R) (hu : SL w u X) (hn : R.size ≤ 1048576) (hx : X.length ≤ 1048576) (hf : fitB R X = false) :
    Calls Try.prog 27 #[v, u, .float .f32 y] w (SaysRB ⟨0, [], [], []⟩ false w) := by
  have HB := Lib.hid (fun A B => (below_alloc w A).alloc (by simp) B)
  have HU := Lib.hid hu
  have HF := Lib.hid hf
  obtain ⟨s1, s2, s3, rfl, g1, g2, g3⟩ := hv
  obtain ⟨ao1, cap1, rfl⟩ := g1.long
  obtain ⟨ao2, cap2, rfl⟩ := g2.long
  obtain ⟨ao3, cap3, rfl⟩ := g3.long
  obtain ⟨ax, cx, rfl⟩ := hu.long
  have HR : Hid (∀ A a b c d, Res4 ((w.alloc A).alloc (.cells #[a, b, c, d] 49)) (w.heap.size + 1)) := Lib.hid fun A a b c d => ⟨⟨a, by go_simp⟩, ⟨b, by go_simp⟩, ⟨c, by go_simp⟩, ⟨d, by go_simp⟩, fun i => by go_simp⟩
  have HP : Hid (∀ B, RP ((w.alloc (.cells #[.int .i64 R.vars, .slice ao1 R.N.length cap1, .slice ao2 R.B.length cap2, .slice ao3 R.G.length cap3] 49)).alloc B) w.heap.size (.slice ao1 R.N.length cap1) (.slice ao2 R.B.length cap2) (.slice ao3 R.G.length cap3) R) := Lib.hid fun B => ⟨by go_simp, by go_simp, by go_simp, by go_simp, g1.below (HB.out _ B) (Nat.le_refl _), g2.below (HB.out _ B) (Nat.le_refl _), g3.below (HB.out _ B) (Nat.le_refl _)⟩
  clear hf g1 g2 g3 hu
  go_enter Try.func27, Try.ntmps27
  go_wp2_with fail
  go_at_call 53; refine (l02Fit_says false _ _ _ _ R _ X _ (HP.out _) (HU.out.below (HB.out _ _) (Nat.le_refl _)) hn hx HF.out).mono ?_; rintro e w1 ⟨rfl, bb⟩
  have hz1 : w.heap.size + 1 < w1.heap.size := by have := bb.size; simp at this; omega
  obtain ⟨⟨u0, g0⟩, ⟨u1, g1⟩, ⟨u2, g2⟩, ⟨u3, g3⟩, hf⟩ := (HR.out _ _ _ _ _).keep bb (by simp)
  have f0 := hf 0
  have f1 := hf 1
  have f2 := hf 2
  have f3 := hf 3
  have B1 := Lib.hid ((HB.out _ _).trans (bb.mono (by simp; omega)))
  have HZ1 := Lib.hid hz1
  clear bb hf
  go_wp2_with fail
  refine bodyPost_ret (v := .tuple #[zeroR, .bool false]) (by simp [results, Try.results27, g0, g1, g2, g3, go_sem, zeroR]) rfl ?_
  generalize hX : World.setCell _ _ _ = X
  have hT : Turned (w.heap.size + 1) (w.heap.size + 2) w1 X := by
    rw [← hX]
    repeat (refine Turned.setCell ?_ (by simp) (by simp) _)
    exact Turned.refl _ _ _
  clear hX
  have hlt := HZ1.out
  have hs := hT.size
  exact ⟨_, rfl, (zeroR_rd (by omega)).rt, B1.out.trans ((hT.below (Nat.le_of_lt HZ1.out)).mono (by omega))⟩
set_option maxRecDepth 100000 in
set_option maxHeartbeats 4000000 in
theorem specAdd_yes (v : Value) (R : Rw) (u : Value) (X : List Nat) (y : Nat) (w : World) (hv : RV w v R) (hu : SL w u X) (hn : R.size ≤ 1048576) (hx : X.length ≤ 1048576) (hf : fitB R X = true) (b : Bool) (hb : okR (addR R X y) = b) :
    Calls Try.prog 27 #[v, u, .float .f32 y] w (SaysRB (bif b then addR R X y else ⟨0, [], [], []⟩) b w) := by
  obtain ⟨i0, hi, hz0, hz1, hz2⟩ := info_parts Try.infoF
  have HB := Lib.hid (fun A B => (below_alloc w A).alloc (by simp) B)
  have HU := Lib.hid hu
  have HF := Lib.hid hf
  have HK := Lib.hid hb
  obtain ⟨hR, hXl, -⟩ := fitB_ok hf
  have HR0 := Lib.hid hR
  have nB : 0 < R.B.length := hR.b1
  have mB : R.B.length ≤ 8 := hR.b2
  have nG : 0 < R.G.length := by have := hR.v1; have := hR.g; omega
  have mG : R.G.length ≤ 8 := by have := hR.v2; have := hR.g; omega
  have nX : 0 < X.length := by have := hR.v1; omega
  have mX : X.length ≤ 8 := by have := hR.v2; omega
  have nN : 0 < R.N.length := by
    have h1 := hR.n
    have h2 := hR.v1
    have h3 : 0 < R.vars * (R.B.length : Int) := Int.mul_pos (by omega) (by omega)
    omega
  have mN : R.N.length ≤ 1048576 := by unfold Rw.size at hn; omega
  have mS : (addR R X y).size ≤ 1048576 := by
    have h1 := hR.n
    have h4 : R.vars * (R.B.length : Int) ≤ 8 * 8 := Int.mul_le_mul hR.v2 (by omega) (by omega) (by omega)
    unfold Rw.size addR
    simp
    omega
  have MS := Lib.hid mS
  obtain ⟨s1, s2, s3, rfl, g1, g2, g3⟩ := hv
  obtain ⟨ao1, cap1, rfl⟩ := g1.long
  obtain ⟨ao2, cap2, rfl⟩ := g2.long
  obtain ⟨ao3, cap3, rfl⟩ := g3.long
  obtain ⟨adX, cx, rfl, hlX⟩ := hu.liesB nX
  have LX := Lib.hid hlX
  have HR : Hid (∀ A a b c d, Res4 ((w.alloc A).alloc (.cells #[a, b, c, d] 49)) (w.heap.size + 1)) := Lib.hid fun A a b c d => ⟨⟨a, by go_simp⟩, ⟨b, by go_simp⟩, ⟨c, by go_simp⟩, ⟨d, by go_simp⟩, fun i => by go_simp⟩
  have HP : Hid (∀ B, RP ((w.alloc (.cells #[.int .i64 R.vars, .slice ao1 R.N.length cap1, .slice ao2 R.B.length cap2, .slice ao3 R.G.length cap3] 49)).alloc B) w.heap.size (.slice ao1 R.N.length cap1) (.slice ao2 R.B.length cap2) (.slice ao3 R.G.length cap3) R) := Lib.hid fun B => ⟨by go_simp, by go_simp, by go_simp, by go_simp, g1.below (HB.out _ B) (Nat.le_refl _), g2.below (HB.out _ B) (Nat.le_refl _), g3.below (HB.out _ B) (Nat.le_refl _)⟩
  clear hf g1 g2 g3 hu hR hb hlX mS
  go_enter Try.func27, Try.ntmps27
  go_wp2_with fail
  go_at_call 53; refine (l02Fit_says true _ _ _ _ R _ X _ (HP.out _) (HU.out.below (HB.out _ _) (Nat.le_refl _)) hn hx HF.out).mono ?_; rintro e w1 ⟨rfl, bb⟩
  have hs1 : w.heap.size + 1 < w1.heap.size := by have := bb.size; simp at this; omega
  have R1 := Lib.hid ((HR.out _ _ _ _ _).keep bb (by simp))
  have P1 := Lib.hid ((HP.out _).below bb)
  have B1 := Lib.hid ((HB.out _ _).trans (bb.mono (by simp; omega)))
  clear bb HF
  go_wp2_with fail
  go_at_call 54; refine (l02Own_any _ _ _ _ R _ P1.out HR0.out nN hn).mono ?_; rintro e w2 ⟨v0, rfl, hO, b2⟩
  obtain ⟨v1, v2, v3, a, c, rfl, hac, hcw, gr1, lt1, gr2, lt2, gr3⟩ := hO
  obtain ⟨k1, q1, rfl, -, -⟩ := World.ownsRow.form gr1 nN
  obtain ⟨k2, q2, rfl, -, -⟩ := World.ownsRow.form gr2 nB
  obtain ⟨k3, q3, rfl, -, -⟩ := World.ownsRow.form gr3 nG
  have at1 := gr1.at
  have at2 := gr2.at
  have at3 := gr3.at
  have l1 : k1 < a := lt1 k1 rfl
  have l2 : k2 < c := lt2 k2 rfl
  have R2 := Lib.hid (R1.out.keep b2 hs1)
  have B2 := Lib.hid (B1.out.trans (b2.mono (by omega)))
  have hs2 : w1.heap.size ≤ w2.heap.size := b2.size
  have G1 := Lib.hid (fun o => (show (w2.alloc o).ownsRow w1.heap.size 47 1 (.slice (some ⟨k1, 0, none⟩) R.N.length q1) R.N.length (R.N.map (Value.float .f32)) from gr1.alloc o))
  have G2 := Lib.hid gr2
  have G3 := Lib.hid gr3
  clear b2 gr1 gr2 gr3 lt1 lt2 R1
  go_wp2_with (at_builtin; refine wpList_append_lies _ rfl _ _ 44 rfl w1.heap.size 47 i0 (.float .f32 0) 1 4 Try.underlying44 hi hz0 hz1 hz2 rfl (by decide) (.slice (some ⟨k1, 0, none⟩) R.N.length q1) R.N.length (R.N.map (Value.float .f32)) rfl (G1.out _) adX X.length cx (X.map (Value.float .f32)) rfl (by simp) (fun j u hu => LX.out _ (B2.out.alloc (by omega) _) j u hu) (map_one _) nX (by unfold maxLen; omega) (by omega) (by simp; omega) (w2.heap.size + 1) (by simp) ?_)
  intro ga ca W3 hown3 hgrow3 hat3 hlt3
  simp only [Value.ownBlock, Option.some.injEq] at hgrow3 hat3
  have BX : Box4 W3 w2.heap.size (.int .i64 R.vars) (.slice (some ⟨k1, 0, none⟩) R.N.length q1) (.slice (some ⟨k2, 0, none⟩) R.B.length q2) (.slice (some ⟨k3, 0, none⟩) R.G.length q3) := (Box4.mk' w2 _ _ _ _ 49).grown hgrow3 (by simp; omega)
  have FX : ∀ i, W3.frozen? ⟨w2.heap.size, i, none⟩ = false := free_grown (fun i => by go_simp) (by simp) hgrow3 (by simp; omega)
  have bb3 : Below w1.heap.size w2 W3 := ((Below.refl w1.heap.size w2).alloc hs2 _).grown hgrow3 (by simp; omega) (fun k hk => by cases hk; omega)
  have N3 := Lib.hid (Grows.more (Z := R.N) (news := X) (m := X.length) rfl hown3)
  have hal3 := N3.out.at
  have G2' := Lib.hid (show Grows (Value.float .f32) 47 a (.slice (some ⟨k2, 0, none⟩) R.B.length q2) R.B W3 from World.ownsRow.kept (G2.out.alloc _) hgrow3 (Or.inr (by simp [Value.ownBlock]; omega)))
  have G3' := Lib.hid (show Grows (Value.float .f32) 47 c (.slice (some ⟨k3, 0, none⟩) R.G.length q3) R.G W3 from World.ownsRow.kept (G3.out.alloc _) hgrow3 (Or.inr (by simp [Value.ownBlock]; omega)))
  have hsz3 : w2.heap.size + 1 ≤ W3.heap.size := by have q := hgrow3.size; simpa using q
  have R3 := Lib.hid (R2.out.keep bb3 hs1)
  have B3 := Lib.hid (B2.out.trans (bb3.mono (by omega)))
  obtain ⟨c0, c1, c2, c3⟩ := BX
  have f1 := FX 1
  have f2 := FX 2
  have HFX := Lib.hid FX
  have hne2 : ga ≠ k2 := by omega
  have n1 : ¬ w2.heap.size = W3.heap.size := by omega
  have n2 : w2.heap.size < W3.heap.size := by omega
  have B3U := Lib.hid (fun u => B3.out.setCell (p := ⟨w2.heap.size, 1, none⟩) (by show w.heap.size ≤ w2.heap.size; omega) u)
  have R3U := Lib.hid (fun u => R3.out.keep (B := w2.heap.size) (w' := W3.setCell ⟨w2.heap.size, 1, none⟩ u) ((Below.refl w2.heap.size W3).setCell (p := ⟨w2.heap.size, 1, none⟩) (Nat.le_refl _) u) (by omega))
  have N3U := Lib.hid (fun u => N3.out.other (b := w2.heap.size) (i := 1) (u := u) (by omega))
  have G2U := Lib.hid (fun u => G2'.out.other (b := w2.heap.size) (i := 1) (u := u) (by omega))
  have G2A := Lib.hid (fun u o => (show ((W3.setCell ⟨w2.heap.size, 1, none⟩ u).alloc o).ownsRow a 47 1 (.slice (some ⟨k2, 0, none⟩) R.B.length q2) R.B.length (R.B.map (Value.float .f32)) from (G2U.out u).alloc o))
  have G3U := Lib.hid (fun u => G3'.out.other (b := w2.heap.size) (i := 1) (u := u) (by omega))
  have HO := Lib.hid (fun u => (show ∀ j x, ([.float .f32 y] : List Value)[j]? = some x → ((W3.setCell ⟨w2.heap.size, 1, none⟩ u).alloc (.cells #[.float .f32 y] 47)).cell? ((⟨W3.heap.size, 0, none⟩ : Addr).add j) = some x from by
    have e : (W3.setCell ⟨w2.heap.size, 1, none⟩ u).heap.size = W3.heap.size := by simp
    intro j x hj
    have q := one_new (w := W3.setCell ⟨w2.heap.size, 1, none⟩ u) (o := .float .f32 y) (T := 47) j x hj
    rw [e] at q
    exact q))
  clear hown3 hgrow3 FX bb3 G1 G2 G3 R2 B2
  go_wp2_with (at_builtin; refine wpList_append_lies _ rfl _ _ 44 rfl a 47 i0 (.float .f32 0) 1 4 Try.underlying44 hi hz0 hz1 hz2 rfl (by decide) (.slice (some ⟨k2, 0, none⟩) R.B.length q2) R.B.length (R.B.map (Value.float .f32)) rfl (G2A.out _ _) ⟨W3.heap.size, 0, none⟩ 1 1 [.float .f32 y] rfl rfl (HO.out _) (by simp [Value.oneCell']) (by omega) (by unfold maxLen; omega) (by omega) (by simp; omega) (W3.heap.size + 1) (by simp) ?_)
  intro gb cb W4 hown4 hgrow4 hat4 hlt4
  simp only [Value.ownBlock, Option.some.injEq] at hgrow4 hat4
  have BXW : Box4 (W3.setCell ⟨w2.heap.size, 1, none⟩ (.slice (some ⟨ga, 0, none⟩) (R.N.length + X.length) ca)) w2.heap.size (.int .i64 R.vars) (.slice (some ⟨ga, 0, none⟩) (R.N.length + X.length) ca) (.slice (some ⟨k2, 0, none⟩) R.B.length q2) (.slice (some ⟨k3, 0, none⟩) R.G.length q3) := ⟨by go_simp, by go_simp, by go_simp, by go_simp⟩
  have BX4 := (BXW.keep (below_alloc (W3.setCell ⟨w2.heap.size, 1, none⟩ (.slice (some ⟨ga, 0, none⟩) (R.N.length + X.length) ca)) (.cells #[.float .f32 y] 47)) (by simp; omega)).grown hgrow4 (by simp; omega)
  have FX4 : ∀ i, W4.frozen? ⟨w2.heap.size, i, none⟩ = false := free_grown (fun i => by rw [(below_alloc _ _).frozen (p := ⟨w2.heap.size, i, none⟩) (by simp; omega), World.frozen?_setCell]; exact HFX.out i) (by simp; omega) hgrow4 (by simp; omega)
  have bb4 : Below w1.heap.size (W3.setCell ⟨w2.heap.size, 1, none⟩ (.slice (some ⟨ga, 0, none⟩) (R.N.length + X.length) ca)) W4 := ((Below.refl w1.heap.size (W3.setCell ⟨w2.heap.size, 1, none⟩ (.slice (some ⟨ga, 0, none⟩) (R.N.length + X.length) ca))).alloc (by simp; omega) _).grown hgrow4 (by simp; omega) (fun k hk => by cases hk; omega)
  have N4 : Grows (Value.float .f32) 47 w1.heap.size (.slice (some ⟨ga, 0, none⟩) (R.N.length + X.length) ca) (R.N ++ X) W4 := World.ownsRow.kept ((N3U.out _).alloc _) hgrow4 (Or.inr (by simp [Value.ownBlock]; omega))
  have M4 : Grows (Value.float .f32) 47 a (.slice (some ⟨gb, 0, none⟩) (R.B.length + 1) cb) (R.B ++ [y]) W4 := Grows.more (Z := R.B) (news := [y]) (m := 1) rfl hown4
  have G4 : Grows (Value.float .f32) 47 c (.slice (some ⟨k3, 0, none⟩) R.G.length q3) R.G W4 := World.ownsRow.kept ((G3U.out _).alloc _) hgrow4 (Or.inr (by simp [Value.ownBlock]; omega))
  have hal4 := M4.at
  have hsz4 : W3.heap.size + 1 ≤ W4.heap.size := by have q := hgrow4.size; simpa using q
  have e1 : ga ≠ w2.heap.size := by omega
  have e2 : gb ≠ w2.heap.size := by omega
  have e3 : k3 ≠ w2.heap.size := by omega
  have e4 : ga ≠ gb := by omega
  have e5 : ga ≠ k3 := by omega
  have e6 : gb ≠ k3 := by omega
  have N5 := (N4.other (b := w2.heap.size) (i := 2) (u := (.slice (some ⟨gb, 0, none⟩) (R.B.length + 1) cb)) e1).one
  have M5 := (M4.other (b := w2.heap.size) (i := 2) (u := (.slice (some ⟨gb, 0, none⟩) (R.B.length + 1) cb)) e2).one
  have G5 := (G4.other (b := w2.heap.size) (i := 2) (u := (.slice (some ⟨gb, 0, none⟩) (R.B.length + 1) cb)) e3).one
  have hk3 : k3 < (W4.setCell ⟨w2.heap.size, 2, none⟩ (.slice (some ⟨gb, 0, none⟩) (R.B.length + 1) cb)).heap.size := G5.1
  have hga : ga < (W4.setCell ⟨w2.heap.size, 2, none⟩ (.slice (some ⟨gb, 0, none⟩) (R.B.length + 1) cb)).heap.size := N5.1
  have hgb : gb < (W4.setCell ⟨w2.heap.size, 2, none⟩ (.slice (some ⟨gb, 0, none⟩) (R.B.length + 1) cb)).heap.size := M5.1
  have Q5 : Hid (RT w1.heap.size (W4.setCell ⟨w2.heap.size, 2, none⟩ (.slice (some ⟨gb, 0, none⟩) (R.B.length + 1) cb)).heap.size (W4.setCell ⟨w2.heap.size, 2, none⟩ (.slice (some ⟨gb, 0, none⟩) (R.B.length + 1) cb)) (.agg #[.int .i64 R.vars, (.slice (some ⟨ga, 0, none⟩) (R.N.length + X.length) ca), (.slice (some ⟨gb, 0, none⟩) (R.B.length + 1) cb), (.slice (some ⟨k3, 0, none⟩) R.G.length q3)]) (addR R X y)) := Lib.hid ⟨_, _, _, ga, ga + 1, gb, gb + 1, k3, k3 + 1, ⟨by omega, by omega, hga⟩, ⟨by omega, by omega, hgb⟩, ⟨by omega, by omega, hk3⟩, ⟨by omega, by omega, by omega⟩, Nat.le_refl _, rfl, N5, M5, G5⟩
  have R5 := Lib.hid (((R3U.out _).keep bb4 hs1).keep (B := w2.heap.size) (w' := (W4.setCell ⟨w2.heap.size, 2, none⟩ (.slice (some ⟨gb, 0, none⟩) (R.B.length + 1) cb))) ((Below.refl w2.heap.size W4).setCell (p := ⟨w2.heap.size, 2, none⟩) (Nat.le_refl _) _) (by omega))
  have B5 := Lib.hid (((B3U.out _).trans (bb4.mono (by omega))).setCell (p := ⟨w2.heap.size, 2, none⟩) (by show w.heap.size ≤ w2.heap.size; omega) (.slice (some ⟨gb, 0, none⟩) (R.B.length + 1) cb))
  have hV5 : (W4.setCell ⟨w2.heap.size, 2, none⟩ (.slice (some ⟨gb, 0, none⟩) (R.B.length + 1) cb)).heap.size = W4.heap.size := by simp
  obtain ⟨c0, c1, c2, c3⟩ := BX4
  have f2 := FX4 2
  have HS5 := Lib.hid (show w1.heap.size ≤ (W4.setCell ⟨w2.heap.size, 2, none⟩ (.slice (some ⟨gb, 0, none⟩) (R.B.length + 1) cb)).heap.size by rw [hV5]; omega)
  clear hown4 hgrow4 FX4 bb4 N4 M4 G4 N5 M5 G5 B3U R3U N3U G2U G2A G3U HO hk3 hga hgb hV5
  go_wp2_with fail
  go_at_call 55; refine (specGive_is b _ (addR R X y) _ Q5.out.rv MS.out HK.out).mono ?_; rintro e W6 ⟨rfl, b6⟩
  obtain ⟨⟨u0, r0⟩, ⟨u1, r1⟩, ⟨u2, r2⟩, ⟨u3, r3⟩, hfr⟩ := R5.out.keep b6 (Nat.lt_of_lt_of_le hs1 HS5.out)
  have p0 := hfr 0
  have p1 := hfr 1
  have p2 := hfr 2
  have p3 := hfr 3
  have Q6 := Lib.hid (Q5.out.below b6 (Nat.le_refl _))
  have B6 := Lib.hid (B5.out.trans (b6.mono (Nat.le_trans (by omega) HS5.out)))
  have HW6 := Lib.hid b6.size
  have HZ6 := Lib.hid (show w.heap.size + 1 < W6.heap.size from Nat.lt_of_lt_of_le hs1 (Nat.le_trans HS5.out b6.size))
  clear b6 hfr
  cases b with
  | false =>
    simp only [cond_false, zeroR]
    go_wp2_with fail
    refine bodyPost_ret (v := .tuple #[zeroR, .bool false]) (by simp [results, Try.results27, r0, r1, r2, r3, go_sem, zeroR]) rfl ?_
    generalize hX : World.setCell _ _ _ = Y6
    have hT : Turned (w.heap.size + 1) (w.heap.size + 2) W6 Y6 := by
      rw [← hX]
      repeat (refine Turned.setCell ?_ (by simp) (by simp) _)
      exact Turned.refl _ _ _
    clear hX
    have hlt := HZ6.out
    have hs := hT.size
    exact ⟨_, rfl, (zeroR_rd (by omega)).rt, B6.out.trans ((hT.below (Nat.le_of_lt HZ6.out)).mono (by omega))⟩
  | true =>
    go_wp2_with fail
    refine bodyPost_ret (v := .tuple #[.agg #[.int .i64 R.vars, (.slice (some ⟨ga, 0, none⟩) (R.N.length + X.length) ca), (.slice (some ⟨gb, 0, none⟩) (R.B.length + 1) cb), (.slice (some ⟨k3, 0, none⟩) R.G.length q3)], .bool true]) (by simp [results, Try.results27, r0, r1, r2, r3, go_sem]) rfl ?_
    generalize hX : World.setCell _ _ _ = Y6
    have hT : Turned (w.heap.size + 1) (w.heap.size + 2) W6 Y6 := by
      rw [← hX]
      repeat (refine Turned.setCell ?_ (by simp) (by simp) _)
      exact Turned.refl _ _ _
    clear hX
    have hlt := HZ6.out
    have hs := hT.size
    refine ⟨_, rfl, (Q6.out.kept hT (Or.inr (by omega))).wide (by omega) (Nat.le_trans HW6.out hs) (Nat.le_refl _), B6.out.trans ((hT.below (Nat.le_of_lt HZ6.out)).mono (by omega))⟩
end Go.Proofs.Ytajekehidofkiaa
