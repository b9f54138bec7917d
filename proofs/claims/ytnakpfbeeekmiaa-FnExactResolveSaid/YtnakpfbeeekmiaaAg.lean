/- Lists of literals of different letters: the program puts them in order. -/
import Derived.Test.YtnakpfbeeekmiaaSfP
import Derived.Shelf.SlSortCmp.NoneTotal
import Derived.Test.YtnakpfbeeekmiaaClI
import Derived.Test.YtnakpfbeeekmiaaClP
import Derived.Test.YtnakpfbeeekmiaaIns1
import Derived.Sort.Statements
import Derived.Deep.QuietTactic
import Derived.BigQuiet
namespace Go.Proofs.Ytnakpfbeeekmiaa
open Go.RowKit Go.ChangeShapes Go.WideShapes Go.Sort

theorem isNaNC (a : Int) (w : World) : Calls Try.prog 132 #[.int .i64 a] w (fun e w' => e = .returned (.bool false) ∧ w = w') := by
  have h : ((a : Int) != a) = false := by simp
  go_enter Try.func132, Try.ntmps132
  go_wp2_with fail
  go_ret
  exact ⟨rfl, rfl⟩
theorem compare_any (a b : Int) (w : World) : Calls Try.prog 119 #[.int .i64 a, .int .i64 b] w (fun e w' => e = .returned (.int .i64 (cmpI a b)) ∧ w = w') := by
  unfold cmpI
  by_cases h : a < b
  · rw [if_pos h]
    go_enter Try.func119, Try.ntmps119
    go_wp2_with (go_at_call 132; refine (isNaNC _ _).mono ?_; rintro e w' ⟨rfl, rfl⟩)
    go_ret
    exact ⟨rfl, rfl⟩
  · rw [if_neg h]
    by_cases h2 : b < a
    · rw [if_pos h2]
      have d : decide (a > b) = true := by simp; omega
      go_enter Try.func119, Try.ntmps119
      go_wp2_with (go_at_call 132; refine (isNaNC _ _).mono ?_; rintro e w' ⟨rfl, rfl⟩)
      go_ret
      exact ⟨rfl, rfl⟩
    · rw [if_neg h2]
      have d : decide (a > b) = false := by simp; omega
      go_enter Try.func119, Try.ntmps119
      go_wp2_with (go_at_call 132; refine (isNaNC _ _).mono ?_; rintro e w' ⟨rfl, rfl⟩)
      go_ret
      exact ⟨rfl, rfl⟩
/-- 64-bit integers, as lists of literals hold them. -/
abbrev I6 : Type := {x : Int // -9223372036854775808 ≤ x ∧ x ≤ 9223372036854775807}
instance : Inhabited I6 := ⟨⟨0, by decide⟩⟩
def encI (x : I6) : Value := .int .i64 x.val
def cfI (x y : I6) : Int := cmpI (lw x.val) (lw y.val)
theorem ordC_is (x y : Int) (w : World) (x1 : -9223372036854775808 ≤ x) (x2 : x ≤ 9223372036854775807) (y1 : -9223372036854775808 ≤ y) (y2 : y ≤ 9223372036854775807) :
    Calls Try.prog 118 #[.int .i64 x, .int .i64 y] w (fun e w' => e = .returned (.int .i64 (cmpI (lw x) (lw y))) ∧ ∃ q, w' = w.drewN q) := by
  have LX := Lib.hid fun W => letterOf_is x W x1 x2
  have LY := Lib.hid fun W => letterOf_is y W y1 y2
  generalize lw x = a at LX ⊢
  generalize lw y = b at LY ⊢
  have CC := Lib.hid (compare_any a b)
  generalize cmpI a b = r at CC ⊢
  clear x1 x2 y1 y2
  go_enter Try.func118, Try.ntmps118
  go_wp2_with fail
  go_at_call 120; refine (LX.out _).mono ?_; rintro e w' ⟨rfl, rfl⟩
  go_wp2_with fail
  go_at_call 120; refine (LY.out _).mono ?_; rintro e w' ⟨rfl, rfl⟩
  go_wp2_with fail
  go_at_call 119; refine (CC.out _).mono ?_; rintro e w' ⟨rfl, rfl⟩
  go_wp2_with fail
  go_ret
  exact ⟨rfl, 0, rfl⟩
theorem ordC_any (x y : I6) (w : World) : Calls Try.prog 118 #[.int .i64 x.val, .int .i64 y.val] w (fun e w' => e = .returned (.int .i64 (cfI x y)) ∧ ∃ q, w' = w.drewN q) :=
  ordC_is x.val y.val w x.property.1 x.property.2 y.property.1 y.property.2
theorem swoI : SWO (ltOf cfI) := by
  have e : ∀ x y, ltOf cfI x y = decide (lw x.val < lw y.val) := fun x y => cmpI_neg _ _
  refine ⟨fun x => by rw [e]; simp, fun x y z h1 h2 => ?_, fun x y z h1 h2 => ?_⟩
  · rw [e, decide_eq_true_eq] at *; omega
  · rw [e, decide_eq_false_iff_not] at *; omega
/-- A list as an array of such integers. -/
def arrI (Z : List Int) (h : ∀ x ∈ Z, -9223372036854775808 ≤ x ∧ x ≤ 9223372036854775807) : Array I6 := (Z.attach.map fun x => (⟨x.1, h x.1 x.2⟩ : I6)).toArray
theorem arrI_size (Z : List Int) (h) : (arrI Z h).size = Z.length := by simp [arrI]
def valI (D : Array I6) : List Int := D.toList.map Subtype.val
theorem valI_arr (Z : List Int) (h) : valI (arrI Z h) = Z := by
  unfold valI arrI
  simp
theorem valI_len (D : Array I6) : (valI D).length = D.size := by simp [valI]
theorem valI_at {D : Array I6} {i : Nat} (h : i < D.size) : (valI D).getD i 0 = (D[i]!).val := by
  simp [valI, List.getD, h, getElem!_pos]
theorem holdsI {w : World} {g off : Nat} {Z : List Int} {D : Array I6} (h : Arr (Value.int .i64) 0 w g off Z) (e : valI D = Z) : Holds encI w g off D := by
  intro j hj
  have hj2 : j < Z.length := by rw [← e, valI_len]; exact hj
  refine ⟨?_, h.free _⟩
  rw [h.cells j hj2, ← e, valI_at hj]
  rfl
theorem turnedI {w : World} {g off n : Nat} {d : Array I6} {os : Array Obj} : Turned g (g + 1) w (grow (putRow encI (Sort.ahead w n) g off d) os) := by
  refine ⟨rfl, rfl, rfl, by simp, fun b hb hne => ?_⟩
  rw [heap_grow_old _ os (by simpa using hb)]
  show (w.heap.modify g _)[b]? = w.heap[b]?
  rw [Array.getElem?_modify, if_neg (by omega)]
theorem arrI_sort {w : World} {g off n : Nat} {Z : List Int} {D0 D : Array I6} {os : Array Obj} (h : Arr (Value.int .i64) 0 w g off Z) (e : valI D0 = Z) (hs : D.size = D0.size) (hg : g < w.heap.size) :
    Arr (Value.int .i64) 0 (grow (putRow encI (Sort.ahead w n) g off D) os) g off (valI D) := by
  have h1 : Holds encI (putRow encI (Sort.ahead w n) g off D) g off D := holds_putRow _ _ _ _ D0 D (holds_ahead _ _ n _ _ _ (holdsI h e)) hs
  refine ⟨fun i hi => ?_, fun i => ?_⟩
  · rw [valI_len] at hi
    rw [cell?_grow _ os _ (by simpa using hg), (h1 i hi).1, valI_at hi]
    rfl
  · rw [frozen?_grow _ os _ (by simpa using hg), frozen?_putRow]
    exact h.free i
/-- The literals in order of their letters. -/
structure InOrd (Z Y : List Int) : Prop where
  perm : Y.Perm Z
  up : ∀ i j, i < j → j < Y.length → lw (Y.getD i 0) ≤ lw (Y.getD j 0)
set_option maxRecDepth 100000 in
theorem sortF_any (g off cap : Nat) (Z : List Int) (w : World) (hA : Arr (Value.int .i64) 0 w g off Z) (hg : g < w.heap.size) (hn : Z.length ≤ 1048576) (hr : ∀ x ∈ Z, -9223372036854775808 ≤ x ∧ x ≤ 9223372036854775807) :
    Calls Try.prog 117 #[.slice (some ⟨g, off, none⟩) Z.length cap, .func (.func 118) #[] #[]] w
      (fun e w' => ∃ Y, e = .returned (.tuple #[]) ∧ InOrd Z Y ∧ Turned g (g + 1) w w' ∧ Arr (Value.int .i64) 0 w' g off Y) := by
  have hc : CmpReads Try.prog 118 #[] encI cfI g off (arrI Z hr).size w := fun m os dk _ x y => ordC_any x y _
  have h := Any.slices_SortFunc Try.sortF encI (fun _ => rfl) cfI swoI 118 #[] g off cap (arrI Z hr) w (fun _ _ => rfl) hc.lays (holdsI hA (valI_arr Z hr)) hg (by rw [arrI_size]; omega)
  rw [arrI_size] at h
  refine h.mono fun e w' ⟨he, D, n, os, ⟨p1, p2, p3⟩, s, hw⟩ => ?_
  subst hw
  have q1 : D.size = Z.length := by rw [p1, arrI_size]
  refine ⟨valI D, he, ⟨?_, fun i j hij hj => ?_⟩, turnedI, arrI_sort hA (valI_arr Z hr) p1 hg⟩
  · have hp := p3.map Subtype.val
    have e1 : D.extract 0 Z.length = D := by rw [← q1]; simp
    have e2 : (arrI Z hr).extract 0 Z.length = arrI Z hr := by
      have := arrI_size Z hr
      rw [← this]; simp
    rw [e1, e2] at hp
    have e3 := valI_arr Z hr
    unfold valI at e3 ⊢
    rwa [e3] at hp
  · rw [valI_len] at hj
    have h1 := s i j (Nat.zero_le _) hij (by omega)
    have e : ltOf cfI D[j]! D[i]! = decide (lw (D[j]!).val < lw (D[i]!).val) := cmpI_neg _ _
    rw [e, decide_eq_false_iff_not] at h1
    rw [valI_at (by omega), valI_at hj]
    omega
/-- What literals of different letters are. -/
structure LitsOk (n : Int) (Z : List Int) : Prop where
  rng : ∀ x ∈ Z, 1 ≤ ltr x ∧ ltr x ≤ n
  nd : (Z.map ltr).Nodup
theorem litsB_ok {n : Int} {Z : List Int} (h : litsB n Z = true) : LitsOk n Z := by
  have each : ∀ i, i < Z.length → lit1 n Z i = true := fun i hi => rngAt h hi
  refine ⟨fun x hx => ?_, ?_⟩
  · obtain ⟨i, hi, rfl⟩ := List.getElem_of_mem hx
    have h1 := each i hi
    have e : Z.getD i 0 = Z[i] := by simp [List.getD, hi]
    unfold lit1 at h1
    rw [e] at h1
    simp only [Bool.and_eq_true, Bool.not_eq_true', beq_eq_false_iff_ne] at h1
    have h2 := inB_ok h1.1
    have h3 := h1.2.1
    unfold ltr
    split <;> omega
  · rw [List.nodup_iff_pairwise_ne, List.pairwise_iff_getElem]
    intro i j hi hj hij
    rw [List.length_map] at hi hj
    have h1 := each j hj
    unfold lit1 at h1
    simp only [Bool.and_eq_true, Bool.not_eq_true'] at h1
    have h2 := seenA_no h1.2.2 hij
    rw [show Z.getD i 0 = Z[i] by simp [List.getD, hi], show Z.getD j 0 = Z[j] by simp [List.getD, hj]] at h2
    simpa using h2
theorem litsB_mk {n : Int} {Z : List Int} (h : LitsOk n Z) : litsB n Z = true := by
  refine rngAll fun i hi => ?_
  have hm : Z.getD i 0 ∈ Z := by rw [show Z.getD i 0 = Z[i] by simp [List.getD, hi]]; exact List.getElem_mem _
  have h1 := h.rng _ hm
  unfold lit1
  have h0 : Z.getD i 0 ≠ 0 := by intro e; rw [e] at h1; unfold ltr at h1; omega
  have h2 : inB (Z.getD i 0) (-n) n = true := by
    have : -n ≤ Z.getD i 0 ∧ Z.getD i 0 ≤ n := by
      unfold ltr at h1
      split at h1 <;> omega
    unfold inB
    rw [decide_eq_true this.1, decide_eq_true this.2]; rfl
  have h3 : seenA Z i (ltr (Z.getD i 0)) = false := seenA_none fun j hj e => by
    have nd := h.nd
    rw [List.nodup_iff_pairwise_ne, List.pairwise_iff_getElem] at nd
    have := nd j i (by rw [List.length_map]; omega) (by rw [List.length_map]; exact hi) hj
    rw [show Z.getD j 0 = Z[j] by simp [List.getD, (show j < Z.length by omega)], show Z.getD i 0 = Z[i] by simp [List.getD, hi]] at e
    simp at this
    exact this e
  rw [h2, h3]
  simp only [Bool.not_false, Bool.and_true, Bool.true_and, Bool.not_eq_true', beq_eq_false_iff_ne]
  exact h0
theorem LitsOk.perm {n : Int} {Z Y : List Int} (h : LitsOk n Z) (p : Y.Perm Z) : LitsOk n Y := ⟨fun x hx => h.rng x (p.mem_iff.1 hx), (p.map ltr).nodup_iff.2 h.nd⟩
theorem lits_sorted {n : Int} {Z Y : List Int} (n1 : 1 ≤ n) (n2 : n ≤ 10) (h : InOrd Z Y) : clB n Y = litsB n Z := by
  rw [Bool.eq_iff_iff]
  constructor
  · intro hc
    exact litsB_mk ((litsB_ok (litsB_of (clB_ok hc))).perm h.perm.symm)
  · intro hl
    have hY := (litsB_ok hl).perm h.perm
    have mem : ∀ i, i < Y.length → Y.getD i 0 ∈ Y := fun i hi => by rw [show Y.getD i 0 = Y[i] by simp [List.getD, hi]]; exact List.getElem_mem _
    have hlw : ∀ i, i < Y.length → lw (Y.getD i 0) = ltr (Y.getD i 0) := fun i hi => lw_ltr (fun e => by
      have := (hY.rng _ (mem i hi)).2
      rw [e] at this
      unfold ltr at this; omega)
    refine clB_of ⟨n1, n2, fun i hi => hY.rng _ (mem i hi), fun i j hij hj => ?_⟩
    have h1 := h.up i j hij hj
    rw [hlw i (by omega), hlw j hj] at h1
    have nd := hY.nd
    rw [List.nodup_iff_pairwise_ne, List.pairwise_iff_getElem] at nd
    have h2 := nd i j (by rw [List.length_map]; omega) (by rw [List.length_map]; exact hj) hij
    have h3 : ltr (Y.getD i 0) ≠ ltr (Y.getD j 0) := by
      rw [show Y.getD i 0 = Y[i] by simp [List.getD, (show i < Y.length by omega)], show Y.getD j 0 = Y[j] by simp [List.getD, hj]]
      simpa using h2
    omega
set_option maxHeartbeats 1000000 in
theorem inOrder_any (v : Value) (Z : List Int) (w : World) (hv : IL w v Z) (hn : Z.length ≤ 1048576) (hr : ∀ x ∈ Z, -9223372036854775808 ≤ x ∧ x ≤ 9223372036854775807) :
    Calls Try.prog 94 #[v] w (fun e w' => ∃ Y u, InOrd Z Y ∧ e = .returned u ∧ II w.heap.size w'.heap.size w' u Y ∧ Below w.heap.size w w') := by
  have HV := Lib.hid hv
  obtain ⟨ao, cap, rfl⟩ := hv.long
  have HR := Lib.hid hr
  clear hv hr
  go_enter Try.func94, Try.ntmps94
  go_wp2_with fail
  go_at_call 76; refine (cloneI_any _ Z _ HV.out hn).mono ?_; rintro e w1 ⟨u, rfl, i1, b1⟩
  have B1 := Lib.hid b1
  obtain ⟨hs, ⟨rfl, ao2, cap2, rfl⟩ | ⟨b, off, c2, rfl, h2, h3, h4, h5, h6⟩⟩ := i1
  · have HN : Hid (InOrd [] []) := Lib.hid ⟨List.Perm.refl _, fun i j _ hj => by simp at hj⟩
    clear b1 hs
    go_wp2_with fail
    go_at_call 117; refine (AnyF.slices_SortFunc_none (P := Try.prog) (ρ := Try.sortF_ren) { Try.sortF with } ao2 cap2 _ w1).mono ?_; rintro e w2 ⟨rfl, rfl⟩
    go_wp2_with fail
    refine bodyPost_ret (results_tmp rfl _ _ _) rfl ?_
    exact ⟨[], _, HN.out, rfl, SI.nil _ (Nat.le_refl _) _ _, B1.out⟩
  · have HA : Hid (Arr (Value.int .i64) 0 w1 b off Z) := Lib.hid ⟨h6, h5⟩
    have HLT : Hid (w.heap.size ≤ b ∧ b < w1.heap.size) := Lib.hid ⟨h3, h4⟩
    clear h3 h4 h5 h6 b1 hs
    go_wp2_with fail
    go_at_call 117; refine (sortF_any b off _ Z w1 HA.out HLT.out.2 hn HR.out).mono ?_; rintro e w2 ⟨Y, rfl, ho, ht, ha⟩
    have HO := Lib.hid ho
    have hyl : Y.length = Z.length := ho.perm.length_eq
    have HY := Lib.hid hyl
    have HT := Lib.hid ht
    have HA2 := Lib.hid ha
    clear ho ht ha hyl
    go_wp2_with fail
    refine bodyPost_ret (results_tmp rfl _ _ _) rfl ?_
    have hlt := HLT.out
    have hs2 := HT.out.size
    exact ⟨Y, _, HO.out, rfl, ⟨Nat.le_refl _, Or.inr ⟨b, off, c2, by rw [HY.out]; rfl, by rw [HY.out]; exact h2, hlt.1, by omega, HA2.out.free, HA2.out.cells⟩⟩, B1.out.trans ((HT.out.below (by omega)).mono hlt.1)⟩
set_option maxHeartbeats 1000000 in
theorem areGiven_any (n : Int) (v : Value) (G : List Int) (w : World) (hv : IL w v G) (o : OKI G) (n1 : 1 ≤ n) (n2 : n ≤ 10) :
    Calls Try.prog 51 #[.int .i64 n, v] w (Says (litsB n G) w) := by
  have HV := Lib.hid hv
  obtain ⟨ao, cap, rfl⟩ := hv.long
  have HO := Lib.hid o
  have HQ := Lib.hid (fun Y (h : InOrd G Y) => lits_sorted n1 n2 h)
  clear hv o n1 n2
  go_enter Try.func51, Try.ntmps51
  go_wp2_with fail
  go_at_call 94; refine (inOrder_any _ G _ HV.out HO.out.size HO.out.fit.2).mono ?_; rintro e w1 ⟨Y, u, hy, rfl, i1, b1⟩
  have HY := Lib.hid hy
  have I1 := Lib.hid i1.il
  have B1 := Lib.hid b1
  obtain ⟨ya, yc, rfl⟩ := I1.out.long
  clear hy i1 b1
  go_wp2_with fail
  go_at_call 85; refine (implClause_any n _ Y _ I1.out (by rw [HY.out.perm.length_eq]; exact HO.out.size) (fun i => by
    by_cases hi : i < Y.length
    · refine HO.out.fit.2 _ (HY.out.perm.mem_iff.1 ?_)
      rw [show Y.getD i 0 = Y[i] by simp [List.getD, hi]]; exact List.getElem_mem _
    · simp [List.getD, List.getElem?_eq_none (Nat.le_of_not_lt hi)])).mono ?_; rintro e w2 ⟨rfl, b2⟩
  rw [HQ.out Y HY.out]
  have B2 := Lib.hid (B1.out.trans (b2.mono B1.out.size))
  clear b2
  go_wp2_with fail
  go_ret
  exact says rfl B2.out
end Go.Proofs.Ytnakpfbeeekmiaa
