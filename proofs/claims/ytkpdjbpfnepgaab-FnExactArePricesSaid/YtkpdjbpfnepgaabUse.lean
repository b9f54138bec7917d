/- What rows use of a plan, on both sides. -/
import Derived.Test.YtkpdjbpfnepgaabGain0
import Derived.Test.YtkpdjbpfnepgaabLine0
import Derived.Test.YtkpdjbpfnepgaabArr
import Derived.Deep.LoopGhost
namespace Go.Proofs.Ytkpdjbpfnepgaab
open Go.RowKit Go.ChangeShapes Go.WideShapes
attribute [local go_sem] run_store_float

/-- The sum of the products of a row and a plan. -/
def useC (R : Rw) (X : List Nat) (i : Nat) : Option Nat := dotC (lineL R.N R.vars.toNat i) X R.vars.toNat
theorem OkR.v {R : Rw} (h : OkR R) : ((R.vars.toNat : Nat) : Int) = R.vars := by have := h.v1; omega
theorem OkR.nn {R : Rw} (h : OkR R) : R.N.length = R.vars.toNat * R.B.length := by
  have := h.n
  rw [← h.v] at this
  exact_mod_cast this
theorem OkR.row {R : Rw} (h : OkR R) {i : Nat} (hi : i < R.B.length) : i * R.vars.toNat + R.vars.toNat ≤ R.N.length := by
  rw [h.nn, Nat.mul_comm R.vars.toNat]
  have : (i + 1) * R.vars.toNat ≤ R.B.length * R.vars.toNat := Nat.mul_le_mul_right _ hi
  rw [Nat.add_mul, Nat.one_mul] at this
  exact this
theorem OkR.n64 {R : Rw} (h : OkR R) : R.N.length ≤ 64 := by
  rw [h.nn]
  have := h.v2
  have := h.b2
  calc R.vars.toNat * R.B.length ≤ 8 * 8 := Nat.mul_le_mul (by omega) (by omega)
    _ = 64 := rfl
/-- An array of singles of these classes, for the first k. -/
def Cls (C : Nat → Option Nat) (k : Nat) (Z : List Nat) : Prop := ∀ i, i < k → Fl.cls .f32 (Z.getD i 0) = C i
theorem Cls.set {C : Nat → Option Nat} {k : Nat} {Z : List Nat} {x : Nat} (h : Cls C k Z) (hk : k < Z.length) (hx : Fl.cls .f32 x = C k) : Cls C (k + 1) (Z.set k x) := by
  intro i hi
  by_cases e : i = k
  · subst e
    rw [show (Z.set i x).getD i 0 = x by simp [List.getD, hk]]; exact hx
  · rw [show (Z.set k x).getD i 0 = Z.getD i 0 by rw [List.getD, List.getD, List.getElem?_set, if_neg (fun hh => e hh.symm)]]; exact h i (by omega)

/-- A call that makes a list of n singles of these classes. -/
def MakesC (C : Nat → Option Nat) (n : Nat) (w : World) (e : Ending) (w' : World) : Prop := ∃ v Z, e = .returned v ∧ Z.length = n ∧ Cls C n Z ∧ FI w.heap.size w'.heap.size w' v Z ∧ Below w.heap.size w w'
structure UsAt (R : Rw) (X : List Nat) (w : World) (g B : Nat) (s1 s2 s3 : Value) (k : Nat) (wr : World) : Prop where
  below : Below w.heap.size w wr
  lt : B < wr.heap.size
  box : Box4 wr g (.int .i64 R.vars) s1 s2 s3
  arr : ∃ Z, Arr (Value.float .f32) 0 wr B 0 Z ∧ Z.length = R.B.length ∧ Cls (useC R X) k Z
theorem us_start {R : Rw} {X : List Nat} {w w2 : World} {s1 s2 s3 : Value} {T e : Nat} (hb : ∀ o, Below w.heap.size w (w.alloc o)) (x0 : Box4 (w.alloc (.cells #[.int .i64 R.vars, s1, s2, s3] T)) w.heap.size (.int .i64 R.vars) s1 s2 s3)
    (hs : (w.alloc (.cells #[.int .i64 R.vars, s1, s2, s3] T)).heap.size = w.heap.size + 1) (bm : Below (w.alloc (.cells #[.int .i64 R.vars, s1, s2, s3] T)).heap.size (w.alloc (.cells #[.int .i64 R.vars, s1, s2, s3] T)) w2)
    (hown : w2.ownsRow (w.heap.size + 1) e 1 (.slice (some ⟨w.heap.size + 1, 0, none⟩) R.B.length R.B.length) R.B.length (madeCells #[Value.float .f32 0] R.B.length).toList) :
    UsAt R X w w.heap.size (w.heap.size + 1) s1 s2 s3 0 w2 :=
  ⟨(hb _).trans (bm.mono (by omega)), (hown.lt _ rfl).2, x0.keep bm (by omega), ⟨_, Arr.made_f (e := e) (n := R.B.length) (by rw [Nat.mul_one]; exact hown), by simp, fun i hi => by omega⟩⟩
set_option maxRecDepth 100000 in
set_option maxHeartbeats 4000000 in
theorem usesOf_any (v : Value) (R : Rw) (u : Value) (X : List Nat) (w : World) (hv : RV w v R) (hu : SL w u X) (hR : OkR R) (hX : (X.length : Int) = R.vars) :
    Calls Try.prog 63 #[v, u] w (MakesC (useC R X) R.B.length w) := by
  obtain ⟨i0, hi, hz0, hz1, hz2⟩ := info_parts Try.infoF
  have HB := Lib.hid (below_alloc w)
  have HR := Lib.hid hR
  have HU := Lib.hid hu
  have v1 := hR.v1
  have v2 := hR.v2
  have b1 := hR.b1
  have b2 := hR.b2
  have n64 := hR.n64
  have HXL : Hid (X.length = R.vars.toNat) := Lib.hid (by omega)
  have HVN := Lib.hid hR.v
  obtain ⟨s1, s2, s3, rfl, g1, g2, g3⟩ := hv
  obtain ⟨ax, cx, rfl⟩ := hu.long
  obtain ⟨ab, cb, rfl⟩ := g2.long
  have G1 := Lib.hid g1
  have X0 := Lib.hid (Box4.mk' w (.int .i64 R.vars) s1 (.slice ab R.B.length cb) s3 28)
  have HL : Hid (∀ (i : Nat) (W : World), i < R.B.length → SL W s1 R.N → Calls Try.prog 75 #[s1, .int .i64 R.vars, .int .i64 i] W (Lists (lineL R.N R.vars.toNat i) W)) := Lib.hid (fun i W hi hW => by
    have q := lineAt_any s1 R.N R.vars.toNat i W hW (by omega) (HR.out.row hi) (by omega)
    rw [HVN.out] at q
    exact q)
  have HSZ : Hid ((w.alloc (.cells #[.int .i64 R.vars, s1, .slice ab R.B.length cb, s3] 28)).heap.size = w.heap.size + 1) := Lib.hid (by simp)
  clear g1 g2 g3 hu hX hR
  go_enter Try.func63, Try.ntmps63
  go_wp2_with (at_make; refine wpList_make_full _ rfl _ _ 22 rfl (w.heap.size + 1) 25 i0 (.float .f32 0) 1 Try.underlying22 hi hz0 hz1 _ _ _ _ R.B.length rfl rfl rfl rfl ?c1 ?c2 ?c3 ?_)
  case c1 => rw [hz2]; omega
  case c2 => unfold maxLen; omega
  case c3 => exact Nat.le_of_eq HSZ.out.symm
  intro w2 hown hgrow
  have bm := (Below.refl _ _).grown hgrow (Nat.le_refl _) (fun g hg => by cases hg)
  have h0 := Lib.hid (us_start (X := X) HB.out X0.out HSZ.out bm hown)
  clear hown hgrow bm
  go_wp2_with fail
  go_loopg [13] R.B.length (fun gk i wr => ∃ k : Nat, k ≤ R.B.length ∧ gk + k = R.B.length ∧ i = .int .i64 k ∧ UsAt R X w w.heap.size (w.heap.size + 1) s1 (.slice ab R.B.length cb) s3 k wr)
  case atStart => exact ⟨0, Nat.zero_le _, by omega, rfl, h0.out⟩
  case round =>
    clear h0
    obtain ⟨k, hk, hgk, rfl, hat⟩ := hrel
    have HA := Lib.hid hat
    have hlw := hat.lt
    clear hat
    by_cases hlt : k < R.B.length
    · obtain ⟨c0, c1, c2, c3⟩ := HA.out.box
      go_wp2_with fail
      go_at_call 75; refine (HL.out k _ hlt (G1.out.below HA.out.below (Nat.le_refl _))).mono ?_; rintro e w3 ⟨q, rfl, hq, bb⟩
      have HQ := Lib.hid hq
      have H3 := Lib.hid (HA.out.below.trans (bb.mono HA.out.below.size))
      have A3 := Lib.hid (show UsAt R X w w.heap.size (w.heap.size + 1) s1 (.slice ab R.B.length cb) s3 k w3 from ⟨H3.out, Nat.lt_of_lt_of_le hlw bb.size, HA.out.box.keep bb HA.out.box.lt, by obtain ⟨Z, h1, h2, h3⟩ := HA.out.arr; exact ⟨Z, h1.below bb hlw, h2, h3⟩⟩)
      have HLL := Lib.hid (lineL_len (HR.out.row hlt))
      clear hq bb c0 c1 c2 c3
      go_wp2_with fail
      go_at_call 123; refine (implDot_yes _ _ (lineL R.N R.vars.toNat k) X _ HQ.out (HU.out.below H3.out (Nat.le_refl _)) (by rw [HLL.out]; omega) (by rw [HLL.out, HXL.out])).mono ?_; rintro e w4 ⟨r, n, rfl, rfl, hc⟩
      have HC : Hid (Fl.cls .f32 r = useC R X k) := Lib.hid (by rw [hc, HLL.out]; rfl)
      clear hc
      obtain ⟨Z, hZ, hZl, hZc⟩ := A3.out.arr
      have y1 := hZ.cell0 (i := k) (by omega)
      have hfz := hZ.free k
      have HZ := Lib.hid hZ
      have HZL := Lib.hid hZl
      have HZC := Lib.hid hZc
      clear hZ hZl hZc
      generalize Z.getD k 0 = old at y1
      go_wp2_with fail
      go_roundg (gk - 1)
      case measure => omega
      case rel => exact ⟨k + 1, by omega, by omega, by go_num, ⟨(below_drewN H3.out _).setCell (by show _ ≤ w.heap.size + 1; omega) _, by simpa using A3.out.lt, ⟨by rw [World.cell?_setCell_other _ _ _ _ (by intro h; injection h with h1 _ _; omega)]; exact A3.out.box.c0, by rw [World.cell?_setCell_other _ _ _ _ (by intro h; injection h with h1 _ _; omega)]; exact A3.out.box.c1, by rw [World.cell?_setCell_other _ _ _ _ (by intro h; injection h with h1 _ _; omega)]; exact A3.out.box.c2, by rw [World.cell?_setCell_other _ _ _ _ (by intro h; injection h with h1 _ _; omega)]; exact A3.out.box.c3⟩, ⟨Z.set k r, (HZ.out.drewN _).set0 (by rw [HZL.out]; exact hlt) _, by rw [List.length_set, HZL.out], HZC.out.set (by rw [HZL.out]; exact hlt) HC.out⟩⟩⟩
    · obtain rfl : k = R.B.length := by omega
      go_wp2_with fail
      refine bodyPost_ret (results_tmp rfl _ _ _) rfl ?_
      obtain ⟨Z, hZ, hZl, hZc⟩ := HA.out.arr
      refine ⟨_, Z, rfl, hZl, hZc, ?_, HA.out.below⟩
      have hs := hZ.si (lo := w.heap.size) (by omega) hlw
      rw [hZl] at hs
      exact hs
end Go.Proofs.Ytkpdjbpfnepgaab
