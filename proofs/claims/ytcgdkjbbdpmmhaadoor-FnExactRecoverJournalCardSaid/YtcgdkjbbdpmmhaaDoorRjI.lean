/- The journal that is recovered: the program. -/
import Derived.Test.YtcgdkjbbdpmmhaaDoorLnJ
import Derived.Test.YtcgdkjbbdpmmhaaDoorJoE
import Derived.Maps.AppendAt
import Derived.RangeFuncBox
namespace Go.Proofs.YtcgdkjbbdpmmhaaDoor
open Go.RowKit Go.ChangeShapes Go.WideShapes Go.Shelf
attribute [local go_sem] Oper.semAt_some

theorem linesF_any (s : ByteArray) (W : World) :
    Calls Tryd.prog 38 #[.string s] W (fun e w' => e = .returned (.func (.func 66) #[] #[.pointer (some ⟨W.heap.size, 0, none⟩)]) ∧ w' = W.alloc (.cells #[.string s] 9)) := by
  go_enter Tryd.func38, Tryd.ntmps38
  go_wp2_with fail
  go_ret
  exact ⟨rfl, rfl⟩
/-- Three boxes of the call's own. -/
structure Rs3 (w : World) (g : Nat) (u v x : Value) (X : World) : Prop where
  c1 : X.cell? ⟨g, 0, none⟩ = some u
  c2 : X.cell? ⟨g + 1, 0, none⟩ = some v
  c3 : X.cell? ⟨g + 1 + 1, 0, none⟩ = some x
  f1 : X.frozen? ⟨g, 0, none⟩ = false
  f2 : X.frozen? ⟨g + 1, 0, none⟩ = false
  f3 : X.frozen? ⟨g + 1 + 1, 0, none⟩ = false
  below : Below w.heap.size w X
theorem Rs3.but {w : World} {g : Nat} {u v x : Value} {X X' : World} (h : Rs3 w g u v x X) {S : Nat → Prop} (hb : But S X X') (h1 : ¬ S g) (h2 : ¬ S (g + 1)) (h3 : ¬ S (g + 1 + 1)) (hs : ∀ k, S k → w.heap.size ≤ k) : Rs3 w g u v x X' :=
  ⟨hb.cell h.c1 h1, hb.cell h.c2 h2, hb.cell h.c3 h3, hb.free h.c1 h.f1 h1, hb.free h.c2 h.f2 h2, hb.free h.c3 h.f3 h3, h.below.trans (hb.low h.below.size hs)⟩
theorem Rs3.keep {w : World} {g : Nat} {u v x : Value} {X X' : World} (h : Rs3 w g u v x X) (hb : Below X.heap.size X X') : Rs3 w g u v x X' :=
  ⟨keep_cell h.c1 hb (cell_block h.c1), keep_cell h.c2 hb (cell_block h.c2), keep_cell h.c3 hb (cell_block h.c3), by rw [hb.frozen (p := ⟨g, 0, none⟩) (cell_block h.c1)]; exact h.f1, by rw [hb.frozen (p := ⟨g + 1, 0, none⟩) (cell_block h.c2)]; exact h.f2, by rw [hb.frozen (p := ⟨g + 1 + 1, 0, none⟩) (cell_block h.c3)]; exact h.f3, h.below.trans (hb.mono h.below.size)⟩
theorem Rs3.put {w : World} {g : Nat} {u v x : Value} {X : World} (h : Rs3 w g u v x X) (hg : w.heap.size ≤ g) (u' v' x' : Value) : Rs3 w g u' v' x' (((X.setCell ⟨g, 0, none⟩ u').setCell ⟨g + 1, 0, none⟩ v').setCell ⟨g + 1 + 1, 0, none⟩ x') := by
  have n1 : (⟨g, 0, none⟩ : Addr) ≠ ⟨g + 1, 0, none⟩ := by intro e; injection e with e _ _; omega
  have n2 : (⟨g, 0, none⟩ : Addr) ≠ ⟨g + 1 + 1, 0, none⟩ := by intro e; injection e with e _ _; omega
  have n3 : (⟨g + 1, 0, none⟩ : Addr) ≠ ⟨g + 1 + 1, 0, none⟩ := by intro e; injection e with e _ _; omega
  refine ⟨?_, ?_, ?_, by simp only [World.frozen?_setCell]; exact h.f1, by simp only [World.frozen?_setCell]; exact h.f2, by simp only [World.frozen?_setCell]; exact h.f3, ((h.below.setCell (p := ⟨g, 0, none⟩) hg _).setCell (p := ⟨g + 1, 0, none⟩) (by show _ ≤ g + 1; omega) _).setCell (p := ⟨g + 1 + 1, 0, none⟩) (by show _ ≤ g + 1 + 1; omega) _⟩
  · rw [World.cell?_setCell_other _ _ _ _ (Ne.symm n2), World.cell?_setCell_other _ _ _ _ (Ne.symm n1)]; exact World.cell?_setCell_same _ _ _ h.c1
  · rw [World.cell?_setCell_other _ _ _ _ (Ne.symm n3)]; exact World.cell?_setCell_same _ _ _ (by rw [World.cell?_setCell_other _ _ _ _ n1]; exact h.c2)
  · exact World.cell?_setCell_same _ _ _ (by rw [World.cell?_setCell_other _ _ _ _ n3, World.cell?_setCell_other _ _ _ _ n2]; exact h.c3)
theorem Grows.but {α : Type} {mk : α → Value} {E B : Nat} {v : Value} {P : List α} {S : Nat → Prop} {w w' : World} (h : Grows mk E B v P w) (k : But S w w') (hS : ∀ i, S i → i < B) : Grows mk E B v P w' := by
  refine ⟨h.1, ?_⟩
  rcases h.2 with h2 | ⟨g, cap, cur, rfl, hB, hg, hr⟩
  · exact Or.inl h2
  · exact Or.inr ⟨g, cap, cur, rfl, hB, (k.block g (Array.getElem?_eq_some_iff.1 hg).1 (fun hs => by have := hS g hs; omega)).trans hg, hr⟩
def SaysTIB (Z : List ByteArray) (n : Int) (b : Bool) (w : World) (e : Ending) (w' : World) : Prop := ∃ v, e = .returned (.tuple #[v, .int .i64 n, .bool b]) ∧ TI w.heap.size w'.heap.size w' v Z ∧ Below w.heap.size w w'
theorem rs3_new (w : World) (u v x : Value) (t1 t2 t3 : TypeId) (o : Obj) : Rs3 w w.heap.size u v x ((((w.alloc (.cells #[u] t1)).alloc (.cells #[v] t2)).alloc (.cells #[x] t3)).alloc o) := by
  have k1 := World.cell?_alloc_new w #[u] t1 0
  have f1 := World.frozen?_alloc_new w #[u] t1 0
  obtain ⟨w1, h1⟩ : ∃ w1, w1 = w.alloc (.cells #[u] t1) := ⟨_, rfl⟩
  have z1 : w1.heap.size = w.heap.size + 1 := by rw [h1]; simp
  have b0 : Below w.heap.size w w1 := by rw [h1]; exact below_alloc _ _
  rw [← h1] at k1 f1 ⊢
  have k2 := World.cell?_alloc_new w1 #[v] t2 0
  have f2 := World.frozen?_alloc_new w1 #[v] t2 0
  obtain ⟨w2, h2⟩ : ∃ w2, w2 = w1.alloc (.cells #[v] t2) := ⟨_, rfl⟩
  have z2 : w2.heap.size = w.heap.size + 1 + 1 := by rw [h2]; simp [z1]
  have b1 : Below w1.heap.size w1 w2 := by rw [h2]; exact below_alloc _ _
  rw [← h2] at k2 f2 ⊢
  have k3 := World.cell?_alloc_new w2 #[x] t3 0
  have f3 := World.frozen?_alloc_new w2 #[x] t3 0
  obtain ⟨w3, h3⟩ : ∃ w3, w3 = w2.alloc (.cells #[x] t3) := ⟨_, rfl⟩
  have z3 : w3.heap.size = w.heap.size + 1 + 1 + 1 := by rw [h3]; simp [z2]
  have b2 : Below w2.heap.size w2 w3 := by rw [h3]; exact below_alloc _ _
  rw [← h3] at k3 f3 ⊢
  have b3 : Below w3.heap.size w3 (w3.alloc o) := below_alloc _ _
  rw [z1] at k2 f2
  rw [z2] at k3 f3
  have B1 : Below w1.heap.size w1 (w3.alloc o) := b1.trans ((b2.mono (by omega)).trans (b3.mono (by omega)))
  have B2 : Below w2.heap.size w2 (w3.alloc o) := b2.trans (b3.mono (by omega))
  exact ⟨keep_cell k1 B1 (by omega), keep_cell k2 B2 (by omega), keep_cell k3 b3 (by omega), by rw [B1.frozen (p := ⟨w.heap.size, 0, none⟩) (by show w.heap.size < _; omega)]; exact f1, by rw [B2.frozen (p := ⟨w.heap.size + 1, 0, none⟩) (by show w.heap.size + 1 < _; omega)]; exact f2, by rw [b3.frozen (p := ⟨w.heap.size + 1 + 1, 0, none⟩) (by show w.heap.size + 1 + 1 < _; omega)]; exact f3, b0.trans (B1.mono (by omega))⟩
theorem trim_ten (l : List UInt8) : Lib.trimSuffix (l ++ [10]) [10] = l := by
  unfold Lib.trimSuffix Lib.hasSuffix
  rw [if_pos (by rw [List.isSuffixOf_iff_suffix]; exact ⟨l, rfl⟩)]
  simp
theorem trim_no {l : List UInt8} (h : ∀ x ∈ l, x ≠ 10) : Lib.trimSuffix l [10] = l := by
  unfold Lib.trimSuffix Lib.hasSuffix
  rw [if_neg]
  rw [List.isSuffixOf_iff_suffix]
  rintro ⟨a, rfl⟩
  exact h 10 (by simp) rfl
theorem Rs3.low {w : World} {g B : Nat} {u v x : Value} {X X' : World} (h : Rs3 w g u v x X) (hb : Below B X X') (hB : g + 3 ≤ B) (hw : w.heap.size ≤ B) : Rs3 w g u v x X' :=
  ⟨keep_cell h.c1 hb (by omega), keep_cell h.c2 hb (by omega), keep_cell h.c3 hb (by omega), by rw [hb.frozen (p := ⟨g, 0, none⟩) (by show g < _; omega)]; exact h.f1, by rw [hb.frozen (p := ⟨g + 1, 0, none⟩) (by show g + 1 < _; omega)]; exact h.f2, by rw [hb.frozen (p := ⟨g + 1 + 1, 0, none⟩) (by show g + 1 + 1 < _; omega)]; exact h.f3, h.below.trans (hb.mono hw)⟩
theorem Tryd.infoRj : (Tryd.prog.info? 9).map (fun i => (i.zero, i.size, i.bytes)) = some (some (.string (bsOf [])), 1, 16) := by kernel_rfl
/-- What the boxes hold behind k lines. -/
structure RjS (w : World) (Y : List ByteArray) (k : Nat) (v : Value) (X : World) : Prop where
  box : Rs3 w w.heap.size v (.int .i64 (rC Y k)) (.int .i64 ((rS Y k : Nat) : Int)) X
  row : Grows Value.string 9 (w.heap.size + 6) v (rL Y k) X
theorem RjS.but {w : World} {Y : List ByteArray} {k : Nat} {v : Value} {X X' : World} (h : RjS w Y k v X) {S : Nat → Prop} (hb : But S X X') (hs : ∀ i, S i → w.heap.size + 3 ≤ i ∧ i < w.heap.size + 6) : RjS w Y k v X' :=
  ⟨h.box.but hb (fun q => by have := hs _ q; omega) (fun q => by have := hs _ q; omega) (fun q => by have := hs _ q; omega) (fun i q => by have := hs _ q; omega), h.row.but hb fun i q => (hs i q).2⟩
theorem RjS.keep {w : World} {Y : List ByteArray} {k : Nat} {v : Value} {X X' : World} (h : RjS w Y k v X) (hb : Below X.heap.size X X') : RjS w Y k v X' := ⟨h.box.keep hb, h.row.below hb (Nat.le_refl _)⟩
theorem implRecover_long (s : ByteArray) (w : World) (h : 16000 < s.size) :
    Calls Tryd.prog 10 #[.string s] w (SaysTIB [] 0 false w) := by
  have d0 : decide ((s.size : Int) > 16000) = true := by simp; omega
  go_enter Tryd.func10, Tryd.ntmps10
  go_wp2_with fail
  go_ret3
  exact ⟨_, rfl, SI.nil _ (Nat.le_refl _) _ _, Below.refl _ _⟩
set_option maxRecDepth 100000 in
set_option maxHeartbeats 4000000 in
theorem implRecover_main (s : ByteArray) (w : World) (h : s.size ≤ 16000) (hp : PowTab w) (M : Nat) (hM : M + 1 = (lnY s).length) :
    Calls Tryd.prog 10 #[.string s] w (SaysTIB (rL (lnY s) (rN (lnY s))) (rS (lnY s) (rN (lnY s)) : Nat) true w) := by
  have d0 : decide ((s.size : Int) > 16000) = false := by simp; omega
  have HP := Lib.hid hp
  have HM := Lib.hid hM
  clear hp hM
  refine (callsIn_wide (n := 5)).1 ?_
  refine callsIn_of_wp_marks Tryd.func10 rfl trivial ?_ rfl
  simp only [Tryd.ntmps10, List.size_toArray, List.length_cons, List.length_nil, Nat.reduceAdd, Nat.reduceSub, Array.replicate_succ, Array.replicate_zero, List.push_toArray, List.append_toArray, List.nil_append, List.cons_append]
  gi_wp2_with (refine ⟨trivial, ?_⟩; gi_at_call 38; refine (callsIn_wide.2 (linesF_any _ _)).mono ?_; rintro e w' ⟨rfl, rfl⟩)
  obtain ⟨W, hW⟩ : ∃ W, W = (((w.alloc (.cells #[.slice none 0 0] 22)).alloc (.cells #[.int .i64 0] 2)).alloc (.cells #[.int .i64 0] 3)).alloc (.cells #[.string s] 9) := ⟨_, rfl⟩
  have hz : W.heap.size = w.heap.size + 4 := by rw [hW]; simp
  have hbW : Below w.heap.size w W := by rw [hW]; exact (((below_alloc w _).alloc (by simp) _).alloc (by simp; omega) _).alloc (by simp; omega) _
  have hx : BoxT (w.heap.size + 3) s W := by
    have k1 := World.cell?_alloc_new (((w.alloc (.cells #[.slice none 0 0] 22)).alloc (.cells #[.int .i64 0] 2)).alloc (.cells #[.int .i64 0] 3)) #[.string s] 9 0
    have f1 := World.frozen?_alloc_new (((w.alloc (.cells #[.slice none 0 0] 22)).alloc (.cells #[.int .i64 0] 2)).alloc (.cells #[.int .i64 0] 3)) #[.string s] 9 0
    simp only [World.size_alloc] at k1 f1
    rw [hW]
    exact ⟨k1, f1⟩
  have hr : Rs3 w w.heap.size (.slice none 0 0) (.int .i64 0) (.int .i64 0) W := by rw [hW]; exact rs3_new _ _ _ _ _ _ _ _
  have hR0 : RjS w (lnY s) 0 (.slice none 0 0) W := ⟨hr, Grows.nil _ _ _ _⟩
  rw [← hW]
  clear hW hr
  have HB := Lib.hid hbW
  have HX := Lib.hid hx
  have HR0 := Lib.hid hR0
  clear hbW hx hR0
  have HZ := Lib.hid hz
  refine rangeS (c := w.heap.size + 3) (w0 := w) 5 66 _ (by rfl) rfl (enters_of Tryd.func66 (by kernel_rfl) rfl)
    (fun i => i = w.heap.size ∨ i = w.heap.size + 1 ∨ i = w.heap.size + 1 + 1 ∨ w.heap.size + 6 ≤ i)
    (fun pre X => ∃ v, pre.length ≤ M ∧ (∀ j, j < pre.length → rG (lnY s) j = true) ∧ RjS w (lnY s) pre.length v X)
    (fun d _ X => d = .exit 0 ∧ ∃ v, RjS w (lnY s) (rN (lnY s)) v X)
    (toldY s) (fun X => BoxT (w.heap.size + 3) s X)
    (fun n l S' J Jx T X hn hJ hX => lines1_any w n l _ S' J Jx s T X hn hJ hX (by omega))
    (fun X hb => ⟨keep_cell HX.out.1 hb (by omega), by rw [hb.frozen (p := ⟨w.heap.size + 3, 0, none⟩) (by show w.heap.size + 3 < _; omega)]; exact HX.out.2⟩)
    HB.out (by omega) (by omega) (by omega) (by omega) (by omega) ?keep ?keepx ?low ⟨_, Nat.zero_le _, fun j hj => absurd hj (Nat.not_lt_zero _), HR0.out⟩ ?round ?done ?stop
  case keep =>
    rintro pre X X' ⟨v, h1, h2, h3⟩ hb
    exact ⟨v, h1, h2, h3.but hb fun i hi => by omega⟩
  case keepx =>
    rintro d q X X' ⟨h1, v, h3⟩ hb
    exact ⟨h1, v, h3.but hb fun i hi => by omega⟩
  case low =>
    rintro pre X ⟨v, -, -, h3⟩
    exact h3.box.below
  case round =>
    rintro pre C X hpre hI hzX
    refine ⟨_, fun K hK => by gi_wp2; exact hK, fun X2 hb2 hI2 hz2 => ?_⟩
    clear hI hzX hb2 X
    obtain ⟨v, hk, hg, hS⟩ := hI2
    have HS := Lib.hid hS
    have HG := Lib.hid hg
    obtain ⟨k, hkk⟩ : ∃ k, k = pre.length := ⟨_, rfl⟩
    have hcs := toldY_at HM.out hpre hkk.symm (hkk ▸ hk)
    have hkM : k ≤ M := hkk ▸ hk
    rw [← hkk] at HS HG
    have HK1 : Hid ((pre ++ [C]).length = k + 1) := Lib.hid (by rw [List.length_append, ← hkk]; rfl)
    clear hS hg hk hkk hpre
    obtain ⟨hy1, hy2⟩ := lnK_in s k
    have hMs : M ≤ s.size := by have := lnY_len s; have := HM.out; omega
    have hrs := rS_le (fun j => (lnK_in s j).1) k
    have hrb : rS (lnY s) k ≤ 16000 * 16001 := Nat.le_trans hrs (Nat.mul_le_mul (by omega) (by omega))
    have HY1 : Hid (rS (lnY s) (k + 1) = rS (lnY s) k + ((lnK (lnY s) k).size + 1)) := Lib.hid rfl
    have HC1 : Hid (rC (lnY s) (k + 1) = chkTo (rC (lnY s) k) (aftB (lnK (lnY s) k)) (aftB (lnK (lnY s) k)).size) := Lib.hid rfl
    have HL1 : Hid (rL (lnY s) (k + 1) = rL (lnY s) k ++ [aftB (lnK (lnY s) k)]) := Lib.hid (rL_succ _ _)
    have HG1 : Hid (rG (lnY s) k = decide ((lnK (lnY s) k).data.toList ++ [10] = jEnt (rC (lnY s) (k + 1)) (aftB (lnK (lnY s) k)))) := Lib.hid rfl
    have hcin := rC_in (lnY s) k
    have HRN := Lib.hid (fun (h2 : k = M ∨ rG (lnY s) k = false) => rN_of HM.out hkM HG.out h2)
    have hll : (rL (lnY s) k).length = k := rL_len _ _
    have HLL := Lib.hid hll
    obtain ⟨y, hy⟩ : ∃ y, lnK (lnY s) k = y := ⟨_, rfl⟩
    rw [hy] at hcs hy1 hy2 HY1 HC1 HL1 HG1
    have hCl : (bsOf C).size ≤ 16001 := by
      have e : y.data.toList.length = y.size := Array.length_toList
      rw [bs_size]
      rcases hcs with ⟨-, rfl⟩ | ⟨-, rfl, -⟩
      · rw [List.length_append, e]; show y.size + 1 ≤ _; omega
      · omega
    have TR := Lib.hid (fun W => (show Calls Tryd.prog 40 #[.string (bsOf C), .string ⟨#[10]⟩] W fun e w' => e = .returned (.string y) ∧ W = w' from by
      have h := trimNl_any (bsOf C) W (by omega)
      have e : bsOf (Lib.trimSuffix (bsOf C).data.toList [10]) = y := by
        rw [bs_list]
        rcases hcs with ⟨-, rfl⟩ | ⟨-, rfl, -⟩
        · rw [trim_ten, bs_eq']
        · rw [trim_no hy2, bs_eq']
      rw [e] at h
      exact h))
    have CU := Lib.hid (fun W => cutBlank_any y W (by omega))
    have hal := aftB_size y
    obtain ⟨ln, hln⟩ : ∃ ln, aftB y = ln := ⟨_, rfl⟩
    unfold SaysCut at CU
    rw [hln] at CU HC1 HL1 HG1 hal
    have EN := Lib.hid (fun W hp => entryOf_any (rC (lnY s) k) ln W (by omega) hcin.1 hcin.2 hp)
    rw [← HC1.out] at EN
    have hcin2 := rC_in (lnY s) (k + 1)
    have hel := jEnt_len (s := ln) hcin2
    obtain ⟨E, hE⟩ : ∃ E, jEnt (rC (lnY s) (k + 1)) ln = E := ⟨_, rfl⟩
    rw [hE] at EN HG1 hel
    have HP2 := Lib.hid (HP.out.below' HS.out.box.below)
    by_cases hgd : k < M ∧ y.data.toList ++ [10] = E
    · have hCE : C = E := by
        rcases hcs with ⟨-, rfl⟩ | ⟨h, -, -⟩
        · exact hgd.2
        · omega
      subst hCE
      have HGT : Hid (rG (lnY s) k = true) := Lib.hid (by rw [HG1.out, decide_eq_true hgd.2])
      have HSZ : Hid ((bsOf C).size = y.size + 1) := Lib.hid (by
        have e : y.data.toList.length = y.size := Array.length_toList
        rw [bs_size, ← hgd.2, List.length_append, e]; rfl)
      have hkl := hgd.1
      clear hcs hgd HG1 HRN hy2 hrs hy hln hE
      obtain ⟨i0, hi, hz0, hz1, hze⟩ := info_parts Tryd.infoRj
      have hm1 : (rL (lnY s) k).length + 1 ≤ maxLen := by unfold maxLen; omega
      have hm2 : ((rL (lnY s) k).length + 1) * 16 ≤ 140737488355328 := by omega
      have H6 := Lib.hid (fun w3 (b : Below X2.heap.size X2 w3) => (show w.heap.size + 6 ≤ w3.heap.size from by have := b.size; omega))
      obtain ⟨tb, htb⟩ : ∃ tb, bsOf C = tb := ⟨_, rfl⟩
      rw [htb] at TR HSZ hCl ⊢
      unfold SaysE at EN
      rw [htb] at EN
      have HWR : Hid (wrap64 (((rS (lnY s) k : Nat) : Int) + (tb.size : Int)) = ((rS (lnY s) (k + 1) : Nat) : Int)) := Lib.hid (by
        unfold wrap64
        rw [HY1.out, HSZ.out]; omega)
      have c2 := HS.out.box.c2
      clear htb hll hcin hcin2 hrb hel hal hy1 HY1 HSZ hkM
      gi_wp2_with (first
          | (refine ⟨trivial, ?_⟩; gi_at_call 40; refine (CallsIn.inRound _ (callsIn_wide.2 (TR.out _))).mono ?_; rintro e w2 ⟨rfl, rfl⟩)
          | (refine ⟨trivial, ?_⟩; gi_at_call 39; refine (CallsIn.inRound _ (callsIn_wide.2 (CU.out _))).mono ?_; rintro e w2 ⟨x, b, n, rfl, rfl⟩)
          | (refine ⟨trivial, ?_⟩; gi_at_call 41; refine (CallsIn.inRound _ (callsIn_wide.2 (EN.out _ (HP2.out.below' (below_drewN (Below.refl _ _) _))))).mono ?_; rintro e w3 ⟨rfl, b3⟩; have B3 := Lib.hid ((below_drewN (Below.refl X2.heap.size X2) n).trans b3); have S3 := Lib.hid (HS.out.keep B3.out); have k1 := S3.out.box.c1; have k2 := S3.out.box.c2; have k3 := S3.out.box.c3; have k4 := S3.out.box.f1; have k5 := S3.out.box.f2; have k6 := S3.out.box.f3; have h6 := H6.out _ B3.out; clear b3)
          | (gi_at_builtin; refine wpListIn_append_own _ rfl _ _ 22 rfl (w.heap.size + 6) 9 i0 (.string (bsOf [])) 1 16 Tryd.underlying22 hi hz0 hz1 hze rfl (by decide) _ _ _ rfl (Grows.alloc S3.out.row _) ⟨w3.heap.size, 0, none⟩ 1 1 [.string ln] rfl rfl (cell_one_new _ _ _) (by simp [Value.oneCell']) hm1 hm2 (by simp; omega) ?_; intro v' w4 hown hgrow _; obtain ⟨g', cap', rfl⟩ := ownsRow_succ hown; have B4 := Lib.hid (((Below.refl (w.heap.size + 6) w3).alloc h6 _).grown hgrow (by simp; omega) (fun i hi => S3.out.row.block i hi)); have GN := Lib.hid (Grows.more (news := [ln]) rfl hown); have R4 := Lib.hid (S3.out.box.low B4.out (by omega) (by omega)); have j1 := R4.out.c1; have j2 := R4.out.c2; have j3 := R4.out.c3; have j4 := R4.out.f1; have j5 := R4.out.f2; have j6 := R4.out.f3; clear k1 k2 k3 k4 k5 k6 hown hgrow))
      have BF : But (fun i => i < w.heap.size + 6) w4 (((w4.setCell ⟨w.heap.size, 0, none⟩ (.slice (some ⟨g', 0, none⟩) ((rL (lnY s) k).length + 1) cap')).setCell ⟨w.heap.size + 1, 0, none⟩ (.int .i64 (rC (lnY s) (k + 1)))).setCell ⟨w.heap.size + 1 + 1, 0, none⟩ (.int .i64 (wrap64 (((rS (lnY s) k : Nat) : Int) + (tb.size : Int))))) :=
        (((But.refl _ w4).setCell (p := ⟨w.heap.size, 0, none⟩) (by show w.heap.size < _; omega) _).setCell (p := ⟨w.heap.size + 1, 0, none⟩) (by show w.heap.size + 1 < _; omega) _).setCell (p := ⟨w.heap.size + 1 + 1, 0, none⟩) (by show w.heap.size + 1 + 1 < _; omega) _
      have B34 : But (fun i => i = w.heap.size ∨ i = w.heap.size + 1 ∨ i = w.heap.size + 1 + 1 ∨ w.heap.size + 6 ≤ i) w3 w4 := ⟨B4.out.os, B4.out.tape, B4.out.output, B4.out.size, fun i _ hs => B4.out.block i (by omega)⟩
      refine ⟨((((But.of_below B3.out).trans B34).setCell (p := ⟨w.heap.size, 0, none⟩) (Or.inl rfl) _).setCell (p := ⟨w.heap.size + 1, 0, none⟩) (Or.inr (Or.inl rfl)) _).setCell (p := ⟨w.heap.size + 1 + 1, 0, none⟩) (Or.inr (Or.inr (Or.inl rfl))) _, .slice (some ⟨g', 0, none⟩) ((rL (lnY s) k).length + 1) cap', ?_, fun j hj => ?_, ?_⟩
      · rw [HK1.out]; omega
      · rw [HK1.out] at hj
        by_cases e : j = k
        · rw [e]; exact HGT.out
        · exact HG.out j (by omega)
      · rw [HK1.out]
        refine ⟨?_, ?_⟩
        · have := R4.out.put (Nat.le_refl _) (.slice (some ⟨g', 0, none⟩) ((rL (lnY s) k).length + 1) cap') (.int .i64 (rC (lnY s) (k + 1))) (.int .i64 (wrap64 (((rS (lnY s) k : Nat) : Int) + (tb.size : Int))))
          rw [HWR.out] at this ⊢
          exact this
        · rw [HL1.out]
          exact GN.out.but BF fun i hi => hi
    · have HE : Hid (k = M ∨ rG (lnY s) k = false) := Lib.hid (by
        by_cases h : k = M
        · exact Or.inl h
        · exact Or.inr (by rw [HG1.out]; exact decide_eq_false fun q => hgd ⟨by omega, q⟩))
      have hne : ¬ C = E := fun q => by
        rcases hcs with ⟨h1, rfl⟩ | ⟨h1, rfl, -⟩
        · exact hgd ⟨h1, q⟩
        · refine hy2 10 ?_ rfl
          rw [q, ← hE]
          unfold jEnt
          simp
      have HRK := Lib.hid (HRN.out HE.out)
      obtain ⟨tb, htb⟩ : ∃ tb, bsOf C = tb := ⟨_, rfl⟩
      obtain ⟨eb, heb⟩ : ∃ eb, bsOf E = eb := ⟨_, rfl⟩
      have q : (tb.toList == eb.toList) = false := by
        rw [beq_eq_false_iff_ne, ← htb, ← heb, ByteArray.toList_eq, ByteArray.toList_eq, bs_list, bs_list]
        exact hne
      unfold SaysE at EN
      rw [htb] at TR ⊢
      rw [heb] at EN
      have c2 := HS.out.box.c2
      clear hcs hgd HG1 HRN hy2 hrs hy hln hE hne htb heb HG HY1 HC1 HL1 hel hll hrb hCl
      gi_wp2_with (first
          | (refine ⟨trivial, ?_⟩; gi_at_call 40; refine (CallsIn.inRound _ (callsIn_wide.2 (TR.out _))).mono ?_; rintro e w2 ⟨rfl, rfl⟩)
          | (refine ⟨trivial, ?_⟩; gi_at_call 39; refine (CallsIn.inRound _ (callsIn_wide.2 (CU.out _))).mono ?_; rintro e w2 ⟨x, b, n, rfl, rfl⟩)
          | (refine ⟨trivial, ?_⟩; gi_at_call 41; refine (CallsIn.inRound _ (callsIn_wide.2 (EN.out _ (HP2.out.below' (below_drewN (Below.refl _ _) _))))).mono ?_; rintro e w3 ⟨rfl, b3⟩; have B3 := Lib.hid ((below_drewN (Below.refl X2.heap.size X2) n).trans b3); clear b3))
      exact ⟨But.of_below B3.out, rfl, v, by rw [HRK.out]; exact HS.out.keep B3.out⟩
  case done =>
    rintro X ⟨v, h1, h2, h3⟩ hK
    have hMe := toldY_end HM.out
    have hN : rN (lnY s) = (toldY s).length := rN_of HM.out h1 h2 (Or.inl (by omega))
    rw [← hN] at h3
    have H3 := Lib.hid h3
    have HKK := Lib.hid hK
    obtain ⟨c1, c2, c3, -, -, -, -⟩ := h3.box
    clear h1 h2 h3 hK hMe hN
    gi_wp2
    gi_region
    gi_wp2
    have hF : RjS w (lnY s) (rN (lnY s)) v (X.drew.putObj W.heap.size (.deferred none)) :=
      (H3.out.keep (below_drewN (Below.refl X.heap.size X) 1)).but (But.putObj (S := fun k => k = W.heap.size) _ rfl) (fun i hi => by omega)
    refine ⟨by simp, .inl ⟨_, _, rfl, run_takeDeferred (ds := []) HKK.out, ?_⟩⟩
    refine ⟨.tuple #[v, .int .i64 ((rS (lnY s) (rN (lnY s)) : Nat) : Int), .bool true], by simp [results, Tryd.results10, go_sem], ?_⟩
    exact ⟨_, rfl, SI.wide hF.row.si (by omega) (Nat.le_refl _) (Nat.le_refl _), hF.box.below⟩
  case stop =>
    rintro d q X - - ⟨rfl, v, h3⟩ hK
    have H3 := Lib.hid h3
    have HKK := Lib.hid hK
    obtain ⟨c1, c2, c3, -, -, -, -⟩ := h3.box
    clear h3 hK
    gi_wp2
    gi_region
    gi_wp2
    have hF : RjS w (lnY s) (rN (lnY s)) v (X.drew.putObj W.heap.size (.deferred none)) :=
      (H3.out.keep (below_drewN (Below.refl X.heap.size X) 1)).but (But.putObj (S := fun k => k = W.heap.size) _ rfl) (fun i hi => by omega)
    refine ⟨by simp, .inl ⟨_, _, rfl, run_takeDeferred (ds := []) HKK.out, ?_⟩⟩
    refine ⟨.tuple #[v, .int .i64 ((rS (lnY s) (rN (lnY s)) : Nat) : Int), .bool true], by simp [results, Tryd.results10, go_sem], ?_⟩
    exact ⟨_, rfl, SI.wide hF.row.si (by omega) (Nat.le_refl _) (Nat.le_refl _), hF.box.below⟩
end Go.Proofs.YtcgdkjbbdpmmhaaDoor
