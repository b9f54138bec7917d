/- Prices of rows: what they are; the program's side. -/
import Derived.Test.YtkpdjbpfnepgaabRay3
namespace Go.Proofs.Ytkpdjbpfnepgaab
open Go.RowKit Go.ChangeShapes Go.WideShapes
attribute [local go_sem] run_negF run_sub run_store_float

def colL (R : Rw) (c : Nat) : List Nat := (List.range R.B.length).map fun i => R.N.getD (i * R.vars.toNat + c) 0
theorem colL_len (R : Rw) (c : Nat) : (colL R c).length = R.B.length := by simp [colL]
theorem colL_at {R : Rw} {c i : Nat} (hi : i < R.B.length) : (colL R c).getD i 0 = R.N.getD (i * R.vars.toNat + c) 0 := by simp [colL, List.getD, hi]
def colC (R : Rw) (Y : List Nat) (c : Nat) : Option Nat := dotC (colL R c) Y R.B.length
def subV (x y : Nat) : Nat := (Ieee.single.sub x y).getD 0
theorem sub_bits {x y : Nat} (hx : fin32 x = true) (hy : fin32 y = true) : floatBits .sub .f32 x y = some (subV x y) := by
  obtain ⟨r, hr, -⟩ := Fl.sub_near (fin_of hx) (fin_of hy)
  have e : floatBits .sub .f32 x y = some r := hr
  rw [e]; unfold subV; rw [hr]; rfl
theorem sub_ares {x y : Nat} (hx : fin32 x = true) (hy : fin32 y = true) (W : World) : Fl.ares W .sub .f32 x y = subV x y := by
  unfold Fl.ares; rw [sub_bits hx hy]
theorem sub_num {x y : Nat} (hx : fin32 x = true) (hy : fin32 y = true) : (Ieee.single.read (subV x y)).isNaN = false := by
  have h := (Fl.bits_facts (sub_bits hx hy)).1
  cases hn : (Ieee.single.read (subV x y)).isNaN with
  | false => rfl
  | true => rw [Fl.cls_none (k := .f32) hn] at h; cases h
theorem order_num {a b : Ieee.Datum} (ha : a.isNaN = false) (hb : b.isNaN = false) : (a.order b).isSome = true := by
  cases a <;> cases b <;> simp_all [Ieee.Datum.isNaN, Ieee.Datum.order]
theorem lt_ge {s d : Nat} (hs : fin32 s = true) (hd : (Ieee.single.read d).isNaN = false) : ltB s d = !geB s d := by
  have hsn : (Ieee.single.read s).isNaN = false := Fl.fin_nan (f := Ieee.single) (b := s) (fin_of hs)
  have ho : (Ieee.single.order s d).isSome = true := order_num hsn hd
  unfold ltB geB
  show (Ieee.single.order s d == some Ordering.lt) = !(Ieee.single.order s d == some Ordering.gt || Ieee.single.order s d == some Ordering.eq)
  cases h : Ieee.single.order s d with
  | none => rw [h] at ho; cases ho
  | some c => cases c <;> rfl
def colB (R : Rw) (Y : List Nat) (a c : Nat) : Bool := match colC R Y c with
  | some s => fin32 s && geB s (subV (R.G.getD c 0) a)
  | none => false
def arePrB (R : Rw) (Y : List Nat) (a : Nat) : Bool := pricedB R Y && (leastB a && (noLess (negF a) Y && (List.range R.vars.toNat).all fun c => colB R Y a c))
theorem colB_of {R : Rw} {Y : List Nat} {a c s : Nat} (h : Fl.cls .f32 s = colC R Y c) : colB R Y a c = (fin32 s && geB s (subV (R.G.getD c 0) a)) := by
  unfold colB
  cases hC : finC (colC R Y c) with
  | true => obtain ⟨e, hf⟩ := cls_fin h hC; rw [e]
  | false =>
    have hf : fin32 s = false := by rw [fin_cls h]; exact hC
    rw [hf, Bool.false_and]
    cases hc : colC R Y c with
    | none => rfl
    | some x => rw [hc] at hC; have h0 : fin32 x = false := hC; show (fin32 x && _) = false; rw [h0]; rfl
theorem arePr_no1 {R : Rw} {Y : List Nat} {a : Nat} (h : pricedB R Y = false) : arePrB R Y a = false := by unfold arePrB; rw [h]; rfl
theorem arePr_no2 {R : Rw} {Y : List Nat} {a : Nat} (h : leastB a = false) : arePrB R Y a = false := by unfold arePrB; rw [h]; simp
theorem arePr_no3 {R : Rw} {Y : List Nat} {a : Nat} (h : noLess (negF a) Y = false) : arePrB R Y a = false := by unfold arePrB; rw [h]; simp
theorem arePr_no4 {R : Rw} {Y : List Nat} {a c : Nat} (hc : c < R.vars.toNat) (h : colB R Y a c = false) : arePrB R Y a = false := by
  have e : ((List.range R.vars.toNat).all fun c => colB R Y a c) = false := by
    rw [Bool.eq_false_iff]
    intro hh
    have := List.all_eq_true.1 hh c (List.mem_range.2 hc)
    rw [h] at this; cases this
  unfold arePrB; rw [e]; simp
theorem arePr_yes {R : Rw} {Y : List Nat} {a : Nat} (h1 : pricedB R Y = true) (h2 : leastB a = true) (h3 : noLess (negF a) Y = true) (h4 : ∀ c, c < R.vars.toNat → colB R Y a c = true) : arePrB R Y a = true := by
  unfold arePrB; rw [h1, h2, h3, List.all_eq_true.2 (fun x hx => h4 x (List.mem_range.1 hx))]; rfl

structure CoAt (R : Rw) (c : Nat) (w : World) (s1 s2 s3 : Value) (k : Nat) (wr : World) : Prop where
  below : Below w.heap.size w wr
  lt : w.heap.size + 1 < wr.heap.size
  box : Box4 wr w.heap.size (.int .i64 R.vars) s1 s2 s3
  arr : ∃ Z, Arr (Value.float .f32) 0 wr (w.heap.size + 1) 0 Z ∧ Z.length = R.B.length ∧ ∀ i, i < k → Z.getD i 0 = (colL R c).getD i 0
def Lists1 (Z : List Nat) (w : World) (e : Ending) (w' : World) : Prop := ∃ v, e = .returned v ∧ FI w.heap.size w'.heap.size w' v Z ∧ Below w.heap.size w w'
set_option maxRecDepth 100000 in
set_option maxHeartbeats 4000000 in
theorem columnOf_any (v : Value) (R : Rw) (c : Nat) (w : World) (hv : RV w v R) (hR : OkR R) (hc : c < R.vars.toNat) :
    Calls Try.prog 70 #[v, .int .i64 c] w (Lists1 (colL R c) w) := by
  obtain ⟨i0, hi, hz0, hz1, hz2⟩ := info_parts Try.infoF
  have HB := Lib.hid (below_alloc w)
  have HR := Lib.hid hR
  have v1 := hR.v1
  have v2 := hR.v2
  have b1 := hR.b1
  have b2 := hR.b2
  have n64 := hR.n64
  have HVN := Lib.hid hR.v
  obtain ⟨s1, s2, s3, rfl, g1, g2, g3⟩ := hv
  obtain ⟨ab, cb, rfl⟩ := g2.long
  have G1 := Lib.hid g1
  have X0 := Lib.hid (Box4.mk' w (.int .i64 R.vars) s1 (.slice ab R.B.length cb) s3 28)
  have HL : Hid (∀ (i : Nat) (W : World), i < R.B.length → SL W s1 R.N → Calls Try.prog 75 #[s1, .int .i64 R.vars, .int .i64 i] W (Lists (lineL R.N R.vars.toNat i) W)) := Lib.hid (fun i W hi hW => by
    have q := lineAt_any s1 R.N R.vars.toNat i W hW (by omega) (HR.out.row hi) (by omega)
    rw [HVN.out] at q
    exact q)
  have HSZ : Hid ((w.alloc (.cells #[.int .i64 R.vars, s1, .slice ab R.B.length cb, s3] 28)).heap.size = w.heap.size + 1) := Lib.hid (by simp)
  have hcv : (c : Int) < (R.vars.toNat : Int) := by omega
  clear g1 g2 g3 hR
  go_enter Try.func70, Try.ntmps70
  go_wp2_with (at_make; refine wpList_make_full _ rfl _ _ 22 rfl (w.heap.size + 1) 25 i0 (.float .f32 0) 1 Try.underlying22 hi hz0 hz1 _ _ _ _ R.B.length rfl rfl rfl rfl ?c1 ?c2 ?c3 ?_)
  case c1 => rw [hz2]; omega
  case c2 => unfold maxLen; omega
  case c3 => exact Nat.le_of_eq HSZ.out.symm
  intro w2 hown hgrow
  have bm := (Below.refl _ _).grown hgrow (Nat.le_refl _) (fun g hg => by cases hg)
  have h0 : Hid (CoAt R c w s1 (.slice ab R.B.length cb) s3 0 w2) := Lib.hid ⟨(HB.out _).trans (bm.mono (by rw [HSZ.out]; omega)), (hown.lt _ rfl).2, X0.out.keep bm (by rw [HSZ.out]; omega), ⟨_, Arr.made_f (e := 25) (n := R.B.length) (by rw [Nat.mul_one]; exact hown), by simp, fun i hi => by omega⟩⟩
  clear hown hgrow bm
  go_wp2_with fail
  go_loopg [13] R.B.length (fun gk i wr => ∃ k : Nat, k ≤ R.B.length ∧ gk + k = R.B.length ∧ i = .int .i64 k ∧ CoAt R c w s1 (.slice ab R.B.length cb) s3 k wr)
  case atStart => exact ⟨0, Nat.zero_le _, by omega, rfl, h0.out⟩
  case round =>
    clear h0
    obtain ⟨k, hk, hgk, rfl, hat⟩ := hrel
    have HA := Lib.hid hat
    have hlw := hat.lt
    clear hat
    by_cases hlt : k < R.B.length
    · obtain ⟨c0, c1, c2, c3⟩ := HA.out.box
      go_wp2_with fail
      clear c0 c1 c2 c3
      go_at_call 75; refine (HL.out k _ hlt (G1.out.below HA.out.below (Nat.le_refl _))).mono ?_; rintro e w3 ⟨q, rfl, hq, bb⟩
      have H3 := Lib.hid (HA.out.below.trans (bb.mono HA.out.below.size))
      have HLL := Lib.hid (lineL_len (HR.out.row hlt))
      have HLA : Hid ((lineL R.N R.vars.toNat k).getD c 0 = (colL R c).getD k 0) := Lib.hid (by rw [lineL_at hc, colL_at hlt])
      have hlq : w.heap.size + 1 < w3.heap.size := Nat.lt_of_lt_of_le hlw bb.size
      obtain ⟨Z, hZ, hZl, hZc⟩ := HA.out.arr
      have hZ3 := hZ.below bb hlw
      have y1 := hZ3.cell0 (i := k) (by omega)
      have hfz := hZ3.free k
      have HZ := Lib.hid hZ3
      have HZL := Lib.hid hZl
      have HZC := Lib.hid hZc
      have HBX := Lib.hid (HA.out.box.keep bb HA.out.box.lt)
      clear hZ hZ3 hZl hZc bb
      rcases hq with ⟨hz, -⟩ | ⟨qb, qoff, qcap, rfl, qpos, qbl, qcell⟩
      · exfalso; have := HLL.out; rw [hz] at this; simp at this; omega
      have x1 := qcell c (by rw [HLL.out]; exact hc)
      have HQL := Lib.hid HLL.out
      clear qcell
      generalize Z.getD k 0 = old at y1
      rw [HLA.out] at x1
      obtain ⟨y, hy⟩ : ∃ y, y = (colL R c).getD k 0 := ⟨_, rfl⟩
      rw [← hy] at x1
      have HY := Lib.hid hy
      rw [HLL.out]
      clear hy qpos
      go_wp2_with fail
      go_roundg (gk - 1)
      case measure => omega
      case rel => exact ⟨k + 1, by omega, by omega, by go_num, ⟨H3.out.setCell (by show _ ≤ w.heap.size + 1; omega) _, by simpa using hlq, ⟨by rw [World.cell?_setCell_other _ _ _ _ (by intro h; injection h with h1 _ _; omega)]; exact HBX.out.c0, by rw [World.cell?_setCell_other _ _ _ _ (by intro h; injection h with h1 _ _; omega)]; exact HBX.out.c1, by rw [World.cell?_setCell_other _ _ _ _ (by intro h; injection h with h1 _ _; omega)]; exact HBX.out.c2, by rw [World.cell?_setCell_other _ _ _ _ (by intro h; injection h with h1 _ _; omega)]; exact HBX.out.c3⟩, ⟨Z.set k y, HZ.out.set0 (by rw [HZL.out]; exact hlt) _, by rw [List.length_set, HZL.out], fun i hi => by
        by_cases e : i = k
        · subst e; rw [show (Z.set i y).getD i 0 = y by simp [List.getD, HZL.out, hlt]]; exact HY.out
        · rw [show (Z.set k y).getD i 0 = Z.getD i 0 by simp only [List.getD, List.getElem?_set, if_neg (Ne.symm e)]]; exact HZC.out i (by omega)⟩⟩⟩
    · obtain rfl : k = R.B.length := by omega
      go_wp2_with fail
      refine bodyPost_ret (results_tmp rfl _ _ _) rfl ?_
      obtain ⟨Z, hZ, hZl, hZc⟩ := HA.out.arr
      have hs := hZ.si (lo := w.heap.size) (by omega) hlw
      have e : Z = colL R c := by
        refine List.ext_getElem (by rw [hZl, colL_len]) fun i h1 h2 => ?_
        have := hZc i (by omega)
        rwa [getD_at h1, getD_at h2] at this
      rw [e, colL_len] at hs
      exact ⟨_, rfl, hs, HA.out.below⟩
end Go.Proofs.Ytkpdjbpfnepgaab
