/- What UnitsOf needs: Ag IxGv GvI LsG Frame. -/
import Derived.Test.YtnakpfbeeekmiaaUnitsOfC
import Derived.Test.YtnakpfbeeekmiaaUnitsOfB
import Derived.Shelf.SlSortCmp.NoneTotal
import Derived.Sort.Statements
import Derived.Deep.QuietTactic
import Derived.BigQuiet
import Derived.Deep.RegionLawGrows
import Derived.Deep.AppendLies
import Derived.Test.YtnakpfbeeekmiaaUnitsOfA
import Derived.ProofKit
import Derived.SizedLaws
import Derived.WalkSmall
/- Lists of literals of different letters: the program puts them in order. -/
namespace Go.Proofs.Ytnakpfbeeekmiaa
open Go.RowKit Go.ChangeShapes Go.WideShapes Go.Sort

theorem isNaNC (a : Int) (w : World) : Calls Try.prog 132 #[.int .i64 a] w (fun e w' => e = .returned (.bool false) ∧ w = w') := by
  have h : ((a : Int) != a) = false := by simp
  go_enter Try.func132, Try.ntmps132
  go_wp2_with fail
  go_ret
  exact ⟨rfl, rfl⟩
theorem compare_any (a b : Int) (w : World) : Calls Try.prog 119 #[.int .i64 a, .int .i64 b] w (fun e w' => e = .returned (.int .i64 (cmpI a b)) ∧ w = w') := by
  unfold cmpI
  by_cases h : a < b
  · rw [if_pos h]
    go_enter Try.func119, Try.ntmps119
    go_wp2_with (go_at_call 132; refine (isNaNC _ _).mono ?_; rintro e w' ⟨rfl, rfl⟩)
    go_ret
    exact ⟨rfl, rfl⟩
  · rw [if_neg h]
    by_cases h2 : b < a
    · rw [if_pos h2]
      have d : decide (a > b) = true := by simp; omega
      go_enter Try.func119, Try.ntmps119
      go_wp2_with (go_at_call 132; refine (isNaNC _ _).mono ?_; rintro e w' ⟨rfl, rfl⟩)
      go_ret
      exact ⟨rfl, rfl⟩
    · rw [if_neg h2]
      have d : decide (a > b) = false := by simp; omega
      go_enter Try.func119, Try.ntmps119
      go_wp2_with (go_at_call 132; refine (isNaNC _ _).mono ?_; rintro e w' ⟨rfl, rfl⟩)
      go_ret
      exact ⟨rfl, rfl⟩
/-- 64-bit integers, as lists of literals hold them. -/
abbrev I6 : Type := {x : Int // -9223372036854775808 ≤ x ∧ x ≤ 9223372036854775807}
instance : Inhabited I6 := ⟨⟨0, by decide⟩⟩
def encI (x : I6) : Value := .int .i64 x.val
def cfI (x y : I6) : Int := cmpI (lw x.val) (lw y.val)
theorem ordC_is (x y : Int) (w : World) (x1 : -9223372036854775808 ≤ x) (x2 : x ≤ 9223372036854775807) (y1 : -9223372036854775808 ≤ y) (y2 : y ≤ 9223372036854775807) :
    Calls Try.prog 118 #[.int .i64 x, .int .i64 y] w (fun e w' => e = .returned (.int .i64 (cmpI (lw x) (lw y))) ∧ ∃ q, w' = w.drewN q) := by
  have LX := Lib.hid fun W => letterOf_is x W x1 x2
  have LY := Lib.hid fun W => letterOf_is y W y1 y2
  generalize lw x = a at LX ⊢
  generalize lw y = b at LY ⊢
  have CC := Lib.hid (compare_any a b)
  generalize cmpI a b = r at CC ⊢
  clear x1 x2 y1 y2
  go_enter Try.func118, Try.ntmps118
  go_wp2_with fail
  go_at_call 120; refine (LX.out _).mono ?_; rintro e w' ⟨rfl, rfl⟩
  go_wp2_with fail
  go_at_call 120; refine (LY.out _).mono ?_; rintro e w' ⟨rfl, rfl⟩
  go_wp2_with fail
  go_at_call 119; refine (CC.out _).mono ?_; rintro e w' ⟨rfl, rfl⟩
  go_wp2_with fail
  go_ret
  exact ⟨rfl, 0, rfl⟩
theorem ordC_any (x y : I6) (w : World) : Calls Try.prog 118 #[.int .i64 x.val, .int .i64 y.val] w (fun e w' => e = .returned (.int .i64 (cfI x y)) ∧ ∃ q, w' = w.drewN q) :=
  ordC_is x.val y.val w x.property.1 x.property.2 y.property.1 y.property.2
theorem swoI : SWO (ltOf cfI) := by
  have e : ∀ x y, ltOf cfI x y = decide (lw x.val < lw y.val) := fun x y => cmpI_neg _ _
  refine ⟨fun x => by rw [e]; simp, fun x y z h1 h2 => ?_, fun x y z h1 h2 => ?_⟩
  · rw [e, decide_eq_true_eq] at *; omega
  · rw [e, decide_eq_false_iff_not] at *; omega
/-- A list as an array of such integers. -/
def arrI (Z : List Int) (h : ∀ x ∈ Z, -9223372036854775808 ≤ x ∧ x ≤ 9223372036854775807) : Array I6 := (Z.attach.map fun x => (⟨x.1, h x.1 x.2⟩ : I6)).toArray
theorem arrI_size (Z : List Int) (h) : (arrI Z h).size = Z.length := by simp [arrI]
def valI (D : Array I6) : List Int := D.toList.map Subtype.val
theorem valI_arr (Z : List Int) (h) : valI (arrI Z h) = Z := by
  unfold valI arrI
  simp
theorem valI_len (D : Array I6) : (valI D).length = D.size := by simp [valI]
theorem valI_at {D : Array I6} {i : Nat} (h : i < D.size) : (valI D).getD i 0 = (D[i]!).val := by
  simp [valI, List.getD, h, getElem!_pos]
theorem holdsI {w : World} {g off : Nat} {Z : List Int} {D : Array I6} (h : Arr (Value.int .i64) 0 w g off Z) (e : valI D = Z) : Holds encI w g off D := by
  intro j hj
  have hj2 : j < Z.length := by rw [← e, valI_len]; exact hj
  refine ⟨?_, h.free _⟩
  rw [h.cells j hj2, ← e, valI_at hj]
  rfl
theorem turnedI {w : World} {g off n : Nat} {d : Array I6} {os : Array Obj} : Turned g (g + 1) w (grow (putRow encI (Sort.ahead w n) g off d) os) := by
  refine ⟨rfl, rfl, rfl, by simp, fun b hb hne => ?_⟩
  rw [heap_grow_old _ os (by simpa using hb)]
  show (w.heap.modify g _)[b]? = w.heap[b]?
  rw [Array.getElem?_modify, if_neg (by omega)]
theorem arrI_sort {w : World} {g off n : Nat} {Z : List Int} {D0 D : Array I6} {os : Array Obj} (h : Arr (Value.int .i64) 0 w g off Z) (e : valI D0 = Z) (hs : D.size = D0.size) (hg : g < w.heap.size) :
    Arr (Value.int .i64) 0 (grow (putRow encI (Sort.ahead w n) g off D) os) g off (valI D) := by
  have h1 : Holds encI (putRow encI (Sort.ahead w n) g off D) g off D := holds_putRow _ _ _ _ D0 D (holds_ahead _ _ n _ _ _ (holdsI h e)) hs
  refine ⟨fun i hi => ?_, fun i => ?_⟩
  · rw [valI_len] at hi
    rw [cell?_grow _ os _ (by simpa using hg), (h1 i hi).1, valI_at hi]
    rfl
  · rw [frozen?_grow _ os _ (by simpa using hg), frozen?_putRow]
    exact h.free i
/-- The literals in order of their letters. -/
structure InOrd (Z Y : List Int) : Prop where
  perm : Y.Perm Z
  up : ∀ i j, i < j → j < Y.length → lw (Y.getD i 0) ≤ lw (Y.getD j 0)
set_option maxRecDepth 100000 in
theorem sortF_any (g off cap : Nat) (Z : List Int) (w : World) (hA : Arr (Value.int .i64) 0 w g off Z) (hg : g < w.heap.size) (hn : Z.length ≤ 1048576) (hr : ∀ x ∈ Z, -9223372036854775808 ≤ x ∧ x ≤ 9223372036854775807) :
    Calls Try.prog 117 #[.slice (some ⟨g, off, none⟩) Z.length cap, .func (.func 118) #[] #[]] w
      (fun e w' => ∃ Y, e = .returned (.tuple #[]) ∧ InOrd Z Y ∧ Turned g (g + 1) w w' ∧ Arr (Value.int .i64) 0 w' g off Y) := by
  have hc : CmpReads Try.prog 118 #[] encI cfI g off (arrI Z hr).size w := fun m os dk _ x y => ordC_any x y _
  have h := Any.slices_SortFunc Try.sortF encI (fun _ => rfl) cfI swoI 118 #[] g off cap (arrI Z hr) w (fun _ _ => rfl) hc.lays (holdsI hA (valI_arr Z hr)) hg (by rw [arrI_size]; omega)
  rw [arrI_size] at h
  refine h.mono fun e w' ⟨he, D, n, os, ⟨p1, p2, p3⟩, s, hw⟩ => ?_
  subst hw
  have q1 : D.size = Z.length := by rw [p1, arrI_size]
  refine ⟨valI D, he, ⟨?_, fun i j hij hj => ?_⟩, turnedI, arrI_sort hA (valI_arr Z hr) p1 hg⟩
  · have hp := p3.map Subtype.val
    have e1 : D.extract 0 Z.length = D := by rw [← q1]; simp
    have e2 : (arrI Z hr).extract 0 Z.length = arrI Z hr := by
      have := arrI_size Z hr
      rw [← this]; simp
    rw [e1, e2] at hp
    have e3 := valI_arr Z hr
    unfold valI at e3 ⊢
    rwa [e3] at hp
  · rw [valI_len] at hj
    have h1 := s i j (Nat.zero_le _) hij (by omega)
    have e : ltOf cfI D[j]! D[i]! = decide (lw (D[j]!).val < lw (D[i]!).val) := cmpI_neg _ _
    rw [e, decide_eq_false_iff_not] at h1
    rw [valI_at (by omega), valI_at hj]
    omega
theorem lits_sorted {n : Int} {Z Y : List Int} (n1 : 1 ≤ n) (n2 : n ≤ 10) (h : InOrd Z Y) : clB n Y = litsB n Z := by
  rw [Bool.eq_iff_iff]
  constructor
  · intro hc
    exact litsB_mk ((litsB_ok (litsB_of (clB_ok hc))).perm h.perm.symm)
  · intro hl
    have hY := (litsB_ok hl).perm h.perm
    have mem : ∀ i, i < Y.length → Y.getD i 0 ∈ Y := fun i hi => by rw [show Y.getD i 0 = Y[i] by simp [List.getD, hi]]; exact List.getElem_mem _
    have hlw : ∀ i, i < Y.length → lw (Y.getD i 0) = ltr (Y.getD i 0) := fun i hi => lw_ltr (fun e => by
      have := (hY.rng _ (mem i hi)).2
      rw [e] at this
      unfold ltr at this; omega)
    refine clB_of ⟨n1, n2, fun i hi => hY.rng _ (mem i hi), fun i j hij hj => ?_⟩
    have h1 := h.up i j hij hj
    rw [hlw i (by omega), hlw j hj] at h1
    have nd := hY.nd
    rw [List.nodup_iff_pairwise_ne, List.pairwise_iff_getElem] at nd
    have h2 := nd i j (by rw [List.length_map]; omega) (by rw [List.length_map]; exact hj) hij
    have h3 : ltr (Y.getD i 0) ≠ ltr (Y.getD j 0) := by
      rw [show Y.getD i 0 = Y[i] by simp [List.getD, (show i < Y.length by omega)], show Y.getD j 0 = Y[j] by simp [List.getD, hj]]
      simpa using h2
    omega
set_option maxHeartbeats 1000000 in
theorem inOrder_any (v : Value) (Z : List Int) (w : World) (hv : IL w v Z) (hn : Z.length ≤ 1048576) (hr : ∀ x ∈ Z, -9223372036854775808 ≤ x ∧ x ≤ 9223372036854775807) :
    Calls Try.prog 94 #[v] w (fun e w' => ∃ Y u, InOrd Z Y ∧ e = .returned u ∧ II w.heap.size w'.heap.size w' u Y ∧ Below w.heap.size w w') := by
  have HV := Lib.hid hv
  obtain ⟨ao, cap, rfl⟩ := hv.long
  have HR := Lib.hid hr
  clear hv hr
  go_enter Try.func94, Try.ntmps94
  go_wp2_with fail
  go_at_call 76; refine (cloneI_any _ Z _ HV.out hn).mono ?_; rintro e w1 ⟨u, rfl, i1, b1⟩
  have B1 := Lib.hid b1
  obtain ⟨hs, ⟨rfl, ao2, cap2, rfl⟩ | ⟨b, off, c2, rfl, h2, h3, h4, h5, h6⟩⟩ := i1
  · have HN : Hid (InOrd [] []) := Lib.hid ⟨List.Perm.refl _, fun i j _ hj => by simp at hj⟩
    clear b1 hs
    go_wp2_with fail
    go_at_call 117; refine (AnyF.slices_SortFunc_none (P := Try.prog) (ρ := Try.sortF_ren) { Try.sortF with } ao2 cap2 _ w1).mono ?_; rintro e w2 ⟨rfl, rfl⟩
    go_wp2_with fail
    refine bodyPost_ret (results_tmp rfl _ _ _) rfl ?_
    exact ⟨[], _, HN.out, rfl, SI.nil _ (Nat.le_refl _) _ _, B1.out⟩
  · have HA : Hid (Arr (Value.int .i64) 0 w1 b off Z) := Lib.hid ⟨h6, h5⟩
    have HLT : Hid (w.heap.size ≤ b ∧ b < w1.heap.size) := Lib.hid ⟨h3, h4⟩
    clear h3 h4 h5 h6 b1 hs
    go_wp2_with fail
    go_at_call 117; refine (sortF_any b off _ Z w1 HA.out HLT.out.2 hn HR.out).mono ?_; rintro e w2 ⟨Y, rfl, ho, ht, ha⟩
    have HO := Lib.hid ho
    have hyl : Y.length = Z.length := ho.perm.length_eq
    have HY := Lib.hid hyl
    have HT := Lib.hid ht
    have HA2 := Lib.hid ha
    clear ho ht ha hyl
    go_wp2_with fail
    refine bodyPost_ret (results_tmp rfl _ _ _) rfl ?_
    have hlt := HLT.out
    have hs2 := HT.out.size
    exact ⟨Y, _, HO.out, rfl, ⟨Nat.le_refl _, Or.inr ⟨b, off, c2, by rw [HY.out]; rfl, by rw [HY.out]; exact h2, hlt.1, by omega, HA2.out.free, HA2.out.cells⟩⟩, B1.out.trans ((HT.out.below (by omega)).mono hlt.1)⟩
set_option maxHeartbeats 1000000 in
theorem areGiven_any (n : Int) (v : Value) (G : List Int) (w : World) (hv : IL w v G) (o : OKI G) (n1 : 1 ≤ n) (n2 : n ≤ 10) :
    Calls Try.prog 51 #[.int .i64 n, v] w (Says (litsB n G) w) := by
  have HV := Lib.hid hv
  obtain ⟨ao, cap, rfl⟩ := hv.long
  have HO := Lib.hid o
  have HQ := Lib.hid (fun Y (h : InOrd G Y) => lits_sorted n1 n2 h)
  clear hv o n1 n2
  go_enter Try.func51, Try.ntmps51
  go_wp2_with fail
  go_at_call 94; refine (inOrder_any _ G _ HV.out HO.out.size HO.out.fit.2).mono ?_; rintro e w1 ⟨Y, u, hy, rfl, i1, b1⟩
  have HY := Lib.hid hy
  have I1 := Lib.hid i1.il
  have B1 := Lib.hid b1
  obtain ⟨ya, yc, rfl⟩ := I1.out.long
  clear hy i1 b1
  go_wp2_with fail
  go_at_call 85; refine (implClause_any n _ Y _ I1.out (by rw [HY.out.perm.length_eq]; exact HO.out.size) (fun i => by
    by_cases hi : i < Y.length
    · refine HO.out.fit.2 _ (HY.out.perm.mem_iff.1 ?_)
      rw [show Y.getD i 0 = Y[i] by simp [List.getD, hi]]; exact List.getElem_mem _
    · simp [List.getD, List.getElem?_eq_none (Nat.le_of_not_lt hi)])).mono ?_; rintro e w2 ⟨rfl, b2⟩
  rw [HQ.out Y HY.out]
  have B2 := Lib.hid (B1.out.trans (b2.mono B1.out.size))
  clear b2
  go_wp2_with fail
  go_ret
  exact says rfl B2.out
end Go.Proofs.Ytnakpfbeeekmiaa
/- slices.IndexFunc over a list of integers, with a closure of impl.GiveForm. -/
namespace Go.Proofs.Ytnakpfbeeekmiaa
open Go.RowKit Go.ChangeShapes Go.WideShapes

set_option maxHeartbeats 1000000 in
theorem ixGv_any (p : Int → Bool) (B : Nat) (v : Value) (Z : List Int) (w : World) (hv : IL w v Z) (hn : Z.length ≤ 1048576)
    (hcl : ∀ k w', k < Z.length → Below w.heap.size w w' → Calls Try.prog 70 #[.int .i64 (Z.getD k 0), .pointer (some ⟨B, 0, none⟩)] w' (Says (p (Z.getD k 0)) w')) :
    Calls Try.prog 106 #[v, .func (.func 70) #[] #[.pointer (some ⟨B, 0, none⟩)]] w (FirstI p Z w) := by
  rcases hv with ⟨rfl, ao, cap, rfl⟩ | ⟨b, off, cap, rfl, hpos, hbl, hcell⟩
  · clear hcl
    go_enter Try.func106, Try.ntmps106
    go_wp2_with fail
    refine wp_loop_rounds 1 ?_
    rw [rounds_succ]
    go_wp2
    go_ret
    exact ⟨Or.inr ⟨fun j hj => absurd hj (Nat.not_lt_zero _), rfl⟩, Below.refl _ _⟩
  have HC := Lib.hid hcell
  have HCL := Lib.hid hcl
  clear hcell hcl
  go_enter Try.func106, Try.ntmps106
  go_wp2_with fail
  go_loopg [8] Z.length (fun gk i wr => ∃ k : Nat, k ≤ Z.length ∧ gk + k = Z.length ∧ i = .int .i64 k ∧ (∀ j, j < k → p (Z.getD j 0) = false) ∧ Below w.heap.size w wr)
  case atStart => exact ⟨0, Nat.zero_le _, by omega, rfl, fun j hj => by omega, Below.refl _ _⟩
  case round =>
    obtain ⟨k, hk, hgk, rfl, hall, hwr⟩ := hrel
    have HL := Lib.hid hall
    have HW := Lib.hid hwr
    clear hall
    by_cases hlt : k < Z.length
    · have c0 : wr.cell? ⟨b, off + k, none⟩ = some (.int .i64 (Z.getD k 0)) := by rw [hwr.cell (p := ⟨b, off + k, none⟩) hbl]; exact HC.out k hlt
      have HK := Lib.hid (HCL.out k wr hlt hwr)
      have HP : Hid (∀ t, p (Z.getD k 0) = t → p (Z.getD k 0) = t) := Lib.hid fun _ h => h
      clear hwr
      cases q : p (Z.getD k 0) with
      | true =>
        have HQ := Lib.hid q
        rw [q] at HK
        generalize Z.getD k 0 = x at c0 HK
        clear q
        go_wp2_with fail
        go_at_call 70; refine (HK.out).mono ?_; rintro e w1 ⟨rfl, b1⟩
        have H1 := Lib.hid (HW.out.trans (b1.mono HW.out.size))
        clear b1 c0
        go_wp2_with fail
        go_ret
        exact ⟨Or.inl ⟨k, ⟨hlt, HQ.out, HL.out⟩, rfl⟩, H1.out⟩
      | false =>
        have HQ := Lib.hid q
        rw [q] at HK
        generalize Z.getD k 0 = x at c0 HK
        clear q
        go_wp2_with fail
        go_at_call 70; refine (HK.out).mono ?_; rintro e w1 ⟨rfl, b1⟩
        have H1 := Lib.hid (HW.out.trans (b1.mono HW.out.size))
        clear b1 c0
        go_wp2_with fail
        go_roundg (gk - 1)
        case measure => omega
        case rel => exact ⟨k + 1, by omega, by omega, by go_num, fun j hj => by
          by_cases e : j = k
          · subst e; exact HQ.out
          · exact HL.out j (by omega), H1.out⟩
    · obtain rfl : k = Z.length := by omega
      clear hwr
      go_wp2_with fail
      go_ret
      exact ⟨Or.inr ⟨HL.out, rfl⟩, HW.out⟩
theorem ctGv_any (p : Int → Bool) (B : Nat) (v : Value) (Z : List Int) (w : World) (hv : IL w v Z) (hn : Z.length ≤ 1048576)
    (hcl : ∀ k w', k < Z.length → Below w.heap.size w w' → Calls Try.prog 70 #[.int .i64 (Z.getD k 0), .pointer (some ⟨B, 0, none⟩)] w' (Says (p (Z.getD k 0)) w')) :
    Calls Try.prog 72 #[v, .func (.func 70) #[] #[.pointer (some ⟨B, 0, none⟩)]] w (Says (anyZ p Z) w) := by
  have HV := Lib.hid hv
  have HCL := Lib.hid hcl
  obtain ⟨ao, cap, rfl⟩ := hv.long
  clear hv hcl
  go_enter Try.func72, Try.ntmps72
  go_wp2_with fail
  go_at_call 106; refine (ixGv_any p B _ Z _ HV.out hn HCL.out).mono ?_; rintro e w1 ⟨⟨k, hf, rfl⟩ | ⟨hf, rfl⟩, b1⟩
  · have HT := Lib.hid hf.any
    have H1 := Lib.hid b1
    have hk0 : (0 : Int) ≤ (k : Int) := by omega
    clear hf b1
    go_wp2_with fail
    go_ret
    exact says HT.out.symm H1.out
  · have HT := Lib.hid (anyZ_none hf)
    have H1 := Lib.hid b1
    clear hf b1
    go_wp2_with fail
    go_ret
    exact says HT.out.symm H1.out
end Go.Proofs.Ytnakpfbeeekmiaa
/- Forms with given literals: the program. -/
namespace Go.Proofs.Ytnakpfbeeekmiaa
open Go.RowKit Go.ChangeShapes Go.WideShapes

theorem Try.infoLI : (Try.prog.info? 25).map (fun i => (i.zero, i.size, i.bytes)) = some (some (.slice none 0 0), 1, 24) := by kernel_rfl
theorem gvCl_any (B : Nat) (x : Int) (u : Value) (G : List Int) (w : World) (hc : w.cell? ⟨B, 0, none⟩ = some u) (hu : IL w u G) (hG : G.length ≤ 1048576) :
    Calls Try.prog 70 #[.int .i64 x, .pointer (some ⟨B, 0, none⟩)] w (Says (inS G x) w) := by
  have HU := Lib.hid hu
  clear hu
  go_enter Try.func70, Try.ntmps70
  go_wp2_with fail
  go_at_call 71; refine (contains_any _ G x _ HU.out hG).mono ?_; rintro e w4 ⟨rfl, rfl⟩
  go_wp2_with fail
  go_ret
  exact says rfl (Below.refl _ _)
/-- The boxes of the call: the form that came in, the literals, the result. -/
structure GvBox (B : Nat) (L : Int) (s u : Value) (W : World) : Prop where
  c0 : W.cell? ⟨B, 0, none⟩ = some (.int .i64 L)
  c1 : W.cell? ⟨B, 1, none⟩ = some s
  d0 : W.cell? ⟨B + 1, 0, none⟩ = some u
  r : Res2 W (B + 1 + 1)
theorem GvBox.keep {B C : Nat} {L : Int} {s u : Value} {W W' : World} (h : GvBox B L s u W) (b : Below C W W') (hC : B + 1 + 1 < C) : GvBox B L s u W' :=
  ⟨by rw [b.cell (p := ⟨B, 0, none⟩) (by show B < C; omega)]; exact h.c0, by rw [b.cell (p := ⟨B, 1, none⟩) (by show B < C; omega)]; exact h.c1, by rw [b.cell (p := ⟨B + 1, 0, none⟩) (by show B + 1 < C; omega)]; exact h.d0, h.r.keep b hC⟩
set_option maxRecDepth 100000 in
set_option maxHeartbeats 8000000 in
theorem implGv_yes (v u : Value) (F : Fm) (G : List Int) (w : World) (hv : FmV w v F) (hu : IL w u G) (o : OKFm F) (oG : OKI G) (h : givB F G = true) :
    Calls Try.prog 35 #[v, u] w (SaysFB ⟨F.letters, gvK G F.cs F.cs.length⟩ true w) := by
  obtain ⟨j0, hj, hy0, hy1, hy2⟩ := info_parts Try.infoLI
  unfold givB at h
  rw [Bool.and_eq_true] at h
  obtain ⟨h1, h2⟩ := h
  have H1 := Lib.hid h1
  have H2 := Lib.hid h2
  have HOK := Lib.hid (formB_ok h1)
  have n1 := HOK.out.n1
  have n2 := HOK.out.n2
  have hfew := HOK.out.few
  have nG := oG.size
  obtain ⟨s1, rfl, hl⟩ := hv
  have HL : Hid (∀ W, Below w.heap.size w W → LV W s1 F.cs) := Lib.hid fun W b => hl.below b (Nat.le_refl _)
  have HU : Hid (∀ W, Below w.heap.size w W → IL W u G) := Lib.hid fun W b => hu.below b (Nat.le_refl _)
  have HB3 : Hid (∀ A B C, Below w.heap.size w (((w.alloc A).alloc B).alloc C)) := Lib.hid fun A B C => ((below_alloc w A).alloc (by simp) B).alloc (by simp; omega) C
  have HX0 : Hid (∀ T, GvBox w.heap.size F.letters s1 u (((w.alloc (.cells #[.int .i64 F.letters, s1] 29)).alloc (.cells #[u] T)).alloc (.cells #[.int .i64 0, .slice none 0 0] 29))) := Lib.hid fun T => ⟨by go_simp, by go_simp, by go_simp, ⟨⟨.int .i64 0, by go_simp⟩, ⟨.slice none 0 0, by go_simp⟩, fun i => by go_simp⟩⟩
  obtain ⟨ga, gc, rfl⟩ := hu.long
  obtain ⟨fa, fc, rfl⟩ := hl.long
  clear hl hu h1 h2
  go_enter Try.func35, Try.ntmps35
  go_wp2_with fail
  go_at_call 50; refine (implForm_any _ F _ ⟨_, rfl, HL.out _ (HB3.out _ _ _)⟩ o).mono ?_; rintro e w4 ⟨rfl, b4⟩
  rw [H1.out]
  have B4 := Lib.hid ((HB3.out _ _ _).trans (b4.mono (by simp; omega)))
  have X4 := Lib.hid ((HX0.out _).keep b4 (by simp))
  clear b4 HX0
  obtain ⟨x0, x1, x2, xr⟩ := X4.out
  clear xr
  go_wp2_with fail
  go_at_call 51; refine (areGiven_any F.letters _ G _ (HU.out _ B4.out) oG n1 n2).mono ?_; rintro e w5 ⟨rfl, b5⟩
  rw [H2.out]
  have B5 := Lib.hid (B4.out.trans (b5.mono B4.out.size))
  have X5 := Lib.hid (X4.out.keep b5 X4.out.r.lt)
  clear b5 x0 x1 x2 X4 B4
  obtain ⟨x0, x1, x2, xr⟩ := X5.out
  have hs5 : w.heap.size + 1 + 1 < w5.heap.size := xr.lt
  have hw5 : w.heap.size ≤ w5.heap.size := by omega
  have HBW : Hid (∀ W, Below w5.heap.size w5 W → Below w.heap.size w W) := Lib.hid fun W b => B5.out.trans (b.mono hw5)
  have HX : Hid (∀ W, Below w5.heap.size w5 W → GvBox w.heap.size F.letters (.slice fa F.cs.length fc) (.slice ga G.length gc) W) := Lib.hid fun W b => X5.out.keep b hs5
  have F0 := Lib.hid (FoUp.start F.letters (Below.refl w5.heap.size w5))
  obtain ⟨xx0, xx1, xx2, xxr⟩ := HX.out (w5.alloc (.cells #[.int .i64 F.letters, .slice none 0 0] 29)) (below_alloc _ _)
  clear xr xxr
  go_wp2_with fail
  go_loopg [27] F.cs.length (fun gk i wr => ∃ (k : Nat) (s : Value) (U : Nat → Value), k ≤ F.cs.length ∧ gk + k = F.cs.length ∧ i = .int .i64 k ∧ FoUp F.letters (gvK G F.cs k) w5.heap.size s w5 wr U)
  case atStart => exact ⟨0, _, _, Nat.zero_le _, by omega, rfl, F0.out⟩
  case round =>
    clear F0 xx0 xx1 xx2 x0 x1 x2
    obtain ⟨k, s, U, hk, hgk, rfl, hF⟩ := hrel
    have HF := Lib.hid hF
    have hww : w5.heap.size ≤ wr.heap.size := hF.out.below.size
    have HBK := Lib.hid hF.out.below
    clear hF
    by_cases hlt : k < F.cs.length
    · have hcl := HOK.out.cl k hlt
      have hEl : (F.cs.getD k []).length ≤ 10 := by have := hcl.len; omega
      have HER := Lib.hid (cl_range hcl)
      have HSL : Hid (∀ W, Below w.heap.size w W → ∃ b off cap D, (Value.slice fa F.cs.length fc) = .slice (some ⟨b, off, none⟩) F.cs.length (F.cs.length + cap) ∧ W.cell? ⟨b, off + k, none⟩ = some D ∧ IL W D (F.cs.getD k [])) := Lib.hid fun W hb => by
        rcases HL.out W hb with ⟨hz, -⟩ | ⟨b, off, cap, D, e, hpos, hbl, hcell⟩
        · rw [hz] at hlt; simp at hlt
        · exact ⟨b, off, cap, D k, e, (hcell k hlt).1, (hcell k hlt).2⟩
      obtain ⟨b, off, cap, D, e, cD, iD⟩ := HSL.out _ (HBW.out _ HBK.out)
      have HID : Hid (∀ W, Below wr.heap.size wr W → IL W D (F.cs.getD k [])) := Lib.hid fun W hb => iD.below hb (Nat.le_refl _)
      injection e with e1 _ e3
      subst e1
      have HGY := Lib.hid (@gvK_yes G F.cs k)
      have HGN := Lib.hid (@gvK_no G F.cs k)
      have hvl := gvK_few G F.cs k
      generalize gvK G F.cs k = T at HF HGY HGN hvl
      obtain ⟨E, hE⟩ : ∃ E, E = F.cs.getD k [] := ⟨_, rfl⟩
      rw [← hE] at hEl HER HID HGY HGN
      clear hcl iD e3 HSL hE
      obtain ⟨da, dc, rfl⟩ := (HID.out wr (Below.refl _ _)).long
      have HCLO : Hid (∀ W, Below wr.heap.size wr W → ∀ x, Calls Try.prog 70 #[.int .i64 x, .pointer (some ⟨w.heap.size + 1, 0, none⟩)] W (Says (inS G x) W)) := Lib.hid fun W hb x =>
        gvCl_any _ x _ G W (HX.out W (HBK.out.trans (hb.mono hww))).d0 (HU.out W (HBW.out W (HBK.out.trans (hb.mono hww)))) nG
      have HUG : Hid (∀ W, Below wr.heap.size wr W → IL W (.slice ga G.length gc) G) := Lib.hid fun W hb => HU.out W (HBW.out W (HBK.out.trans (hb.mono hww)))
      have HXR : Hid (∀ W, Below wr.heap.size wr W → W.cell? ⟨w.heap.size + 1, 0, none⟩ = some (.slice ga G.length gc)) := Lib.hid fun W hb => (HX.out W (HBK.out.trans (hb.mono hww))).d0
      obtain ⟨wA, rfl⟩ : ∃ x : World, x = wr := ⟨_, rfl⟩
      cases hs : hasG G E with
      | true =>
        have HS := Lib.hid hs
        have HN := Lib.hid (HGY.out hs)
        clear hs HGY HGN
        go_wp2_with fail
        go_at_call 72; refine (ctGv_any (inS G) (w.heap.size + 1) _ E _ (HID.out _ (Below.refl _ _)) (by omega) (fun k w' _ hb => HCLO.out w' hb _)).mono ?_; rintro e w6 ⟨rfl, b6⟩
        rw [show anyZ (inS G) E = true from HS.out]
        have B6 := Lib.hid b6
        clear b6
        go_wp2_with fail
        go_roundg (gk - 1)
        case measure => omega
        case rel => exact ⟨k + 1, _, _, by omega, by omega, by go_num, by rw [HN.out]; exact HF.out.keep B6.out⟩
      | false =>
        have HS := Lib.hid hs
        have HN := Lib.hid (HGN.out hs)
        clear hs HGY HGN
        go_wp2_with fail
        go_at_call 72; refine (ctGv_any (inS G) (w.heap.size + 1) _ E _ (HID.out _ (Below.refl _ _)) (by omega) (fun k w' _ hb => HCLO.out w' hb _)).mono ?_; rintro e w6 ⟨rfl, b6⟩
        rw [show anyZ (inS G) E = false from HS.out]
        have hw6 : wA.heap.size ≤ w6.heap.size := b6.size
        have HF6 := Lib.hid (HF.out.keep b6)
        have HI6 : Hid (∀ W, Below w6.heap.size w6 W → IL W (.slice da E.length dc) E ∧ IL W (.slice ga G.length gc) G) := Lib.hid fun W hb => ⟨HID.out W (b6.trans (hb.mono hw6)), HUG.out W (b6.trans (hb.mono hw6))⟩
        have c6 := HF6.out.cells.2.1
        have d6 := HXR.out w6 b6
        have hl6 : w5.heap.size < w6.heap.size := HF6.out.lt
        have hl66 : w5.heap.size ≤ w6.heap.size := by omega
        have RO : Hid (∀ W, Below w6.heap.size w6 W → Calls Try.prog 73 #[.slice da E.length dc, .slice ga G.length gc] W (GrownI (rst G E) W)) := Lib.hid fun W hb => restOf_any _ _ E G W (HI6.out W hb).1 (HI6.out W hb).2 (by omega) nG (fun i hi => by have := HER.out i hi; omega)
        generalize rst G E = Z at RO HN
        clear b6
        go_wp2_with fail
        go_region_law (first
          | (go_simp; go_at_call 73; refine (RO.out _ (by first | exact Below.refl _ _ | exact below_drewN (Below.refl _ _) _ | exact (Below.refl _ _).drew)).mono ?_; rintro e w7 ⟨dv, rfl, hd, b7⟩; have B7 : Hid (Below w6.heap.size w6 w7) := Lib.hid (by first | exact b7 | exact (below_drewN (Below.refl w6.heap.size w6) _).trans b7 | exact (Below.refl w6.heap.size w6).drew.trans b7); have D7 : Hid (Grows (Value.int .i64) 2 w6.heap.size dv Z w7) := Lib.hid hd; clear hd b7; obtain ⟨za, zc, rfl⟩ := SI.len (d := (0 : Int)) D7.out.si; have HF7 := Lib.hid (HF6.out.keep B7.out); have c7 := HF7.out.cells.2.1; have d7 : w7.cell? ⟨w.heap.size + 1, 0, none⟩ = some (.slice ga G.length gc) := keep_cell d6 B7.out (cell_block d6); have HOWN : Hid (∀ W, Below w7.heap.size w7 W → W.ownsRow w5.heap.size 25 1 s T.length ((List.range T.length).map U)) := Lib.hid fun W hb => (HF7.out.keep hb).out.own; have hz7 : w6.heap.size ≤ w7.heap.size := B7.out.size; have c7a : ∀ o, (w7.alloc o).cell? ⟨w5.heap.size, 1, none⟩ = some s := fun o => keep_cell c7 (below_alloc w7 o) (Nat.lt_of_lt_of_le hl6 hz7); go_wp2_with fail)
          | (refine step_append_lies _ (by rfl) _ _ _ (by rfl) w5.heap.size 25 j0 _ 1 24 Try.underlying22 hj hy0 hy1 hy2 rfl (by omega) s T.length ((List.range T.length).map U) (by rfl) (HOWN.out _ (by first | exact below_alloc _ _ | exact (below_drewN (Below.refl _ _) _).alloc (Nat.le_refl _) _ | exact below_drewN (below_alloc _ _) _ | exact (Below.refl _ _).drew.alloc (Nat.le_refl _) _ | exact (below_alloc _ _).drew)) ⟨w7.heap.size, 0, none⟩ 1 1 [.slice za Z.length zc] (by rfl) (by rfl) (World.news_of_block (cs := #[_]) (t := 25) (fr := (0, 0)) (heap_alloc_new _ _)) (by simp [Value.oneCell']) (by omega) (by unfold maxLen; omega) (by omega) (by simp; omega) (w7.heap.size + 1) (by simp) ?_; intro gg gcap w9 hown hgrow hat hlt9; obtain ⟨hk9, hf9⟩ := HF7.out.kept (by first | exact below_alloc w7 _ | exact (below_drewN (Below.refl w7.heap.size w7) _).alloc (Nat.le_refl _) _ | exact below_drewN (below_alloc w7 _) _ | exact (Below.refl w7.heap.size w7).drew.alloc (Nat.le_refl _) _ | exact (below_alloc w7 _).drew) hgrow; have HNX := Lib.hid (fun q => FoUp.next HF6.out (by first | exact B7.out.trans ((below_alloc w7 _).mono hz7) | exact B7.out.trans (((below_drewN (Below.refl w7.heap.size w7) _).alloc (Nat.le_refl _) _).mono hz7) | exact B7.out.trans ((below_drewN (below_alloc w7 _) _).mono hz7) | exact B7.out.trans (((Below.refl w7.heap.size w7).drew.alloc (Nat.le_refl _) _).mono hz7) | exact B7.out.trans ((below_alloc w7 _).drew.mono hz7)) (D7.out.below (by first | exact below_alloc w7 _ | exact (below_drewN (Below.refl w7.heap.size w7) _).alloc (Nat.le_refl _) _ | exact below_drewN (below_alloc w7 _) _ | exact (Below.refl w7.heap.size w7).drew.alloc (Nat.le_refl _) _ | exact (below_alloc w7 _).drew) (Nat.le_refl _)) hown hgrow (hat.imp id (fun e => by rw [e]; simp)) q); clear hown hgrow hat hlt9))
        all_goals
          go_wp2_with fail
          go_roundg (gk - 1)
          case measure => omega
          case rel => exact ⟨k + 1, _, _, by omega, by omega, by go_num, by rw [HN.out]; exact HNX.out 0⟩
    · obtain rfl : k = F.cs.length := by omega
      obtain ⟨sa, sc, rfl⟩ := HF.out.slice
      obtain ⟨c0, c1, c2⟩ := HF.out.cells
      obtain ⟨⟨u0, r0⟩, ⟨u1, r1⟩, rf⟩ := (HX.out _ HBK.out).r
      have rf0 := rf 0
      have rf1 := rf 1
      have BF := Lib.hid (HBW.out _ HBK.out)
      have hne : ¬ w5.heap.size = w.heap.size + 1 + 1 := by omega
      have hne2 : ¬ w.heap.size + 1 + 1 = w5.heap.size := by omega
      clear rf
      go_wp2_with fail
      refine bodyPost_ret (v := .tuple #[.agg #[.int .i64 F.letters, .slice sa (gvK G F.cs F.cs.length).length sc], .bool true]) (by simp [results, Try.results35, r0, r1, go_sem]) rfl ?_
      generalize hX : World.setCell _ _ _ = X
      have hT : Turned (w.heap.size + 1 + 1) (w.heap.size + 1 + 1 + 1) wr X := by
        rw [← hX]
        repeat (refine Turned.setCell ?_ (by simp) (by simp) _)
        exact Turned.refl _ _ _
      clear hX
      exact ⟨_, rfl, HF.out.res hT (by omega) hw5, BF.out.trans ((hT.below (by omega)).mono (by omega))⟩
end Go.Proofs.Ytnakpfbeeekmiaa
/- Lists of lists: what the laws' walks ask (sizes, how one comes in). -/
namespace Go.Proofs.Ytnakpfbeeekmiaa
open Go.RowKit Go.ChangeShapes Go.WideShapes

theorem szSS_yes2 (v : Value) (C : List (List Int)) (m : Int) (w : World) (hv : LV w v C) (hm : (szL C : Int) ≤ m) (hb : m ≤ 1048576) :
    Calls Try.prog 23 #[v, .int .i64 m] w fun e w' => e = .returned (.int .i64 (m - szL C)) ∧ Below w.heap.size w w' :=
  (szSS_yes v C m w hv hm hb).mono fun _ _ ⟨h1, h2⟩ => ⟨h1, by rw [← h2]; exact Below.refl _ _⟩
theorem szSS_no2 (v : Value) (C : List (List Int)) (m : Int) (w : World) (hv : LV w v C) (hm : m < (szL C : Int)) (h0 : 0 ≤ m) (hb : m ≤ 1048576) (hf : FitL C) :
    Calls Try.prog 23 #[v, .int .i64 m] w fun e w' => e = .returned (.int .i64 (-1)) ∧ Below w.heap.size w w' :=
  (szSS_no v C m w hv hm h0 hb hf).mono fun _ _ ⟨h1, h2⟩ => ⟨h1, by rw [← h2]; exact Below.refl _ _⟩
set_option maxRecDepth 100000 in
theorem open_lvs {H : Type} {enc : TypeId × Value → H} {w : World} {v : Value} {d : DataW H} {ps : List MemPlace} {b0 : Nat}
    (hval : Value.okWide Try.prog w .any b0 22 v) (hd : DataW.Trod enc Try.prog w 0 (fun _ => true) true 22 v d ps) : ∃ C : List (List Int), LV w v C ∧ FitL C := by
  obtain ⟨a0, len, cap, rfl⟩ := okWide_slice Try.underlying22 hval
  obtain ⟨fuel, hf⟩ := hd
  exact open_lv hf
end Go.Proofs.Ytnakpfbeeekmiaa
/- A law that returns true and lets the old memory be: its row, from its walk. -/
namespace Go.Proofs.Ytnakpfbeeekmiaa.Frame
open Go.ChangeShapes Go.WideShapes Go.ChangeAt Go.RowKit

theorem trodAll_below {H : Type} {enc : TypeId × Value → H} {P : Program} (hl : laidOutB P = true) {W W' : World} (hb : Below W.heap.size W W') :
    ∀ {ts : List TypeId} {vs : List Value} {ds : List (DataW H)} {ps : List MemPlace}, (∀ t ∈ ts, P.readableRec t = true ∧ t < P.types.size) →
      DataW.TrodAll enc P W 0 (fun _ => true) true ts vs ds ps → (∀ x ∈ ps, x.block < W.heap.size) →
      DataW.TrodAll enc P W' 0 (fun b => decide (b < W.heap.size)) true ts vs ds ps
  | [], [], [], ps, _, h, _ => h
  | t :: ts, v :: vs, d :: ds, ps, hr, h, hlt => by
    obtain ⟨p, q, h1, h2, rfl⟩ := h
    exact ⟨p, q, Below.trod hl (hr t (by simp)).1 (hr t (by simp)).2 h1 hb (fun x hx => hlt x (by simp [hx])), trodAll_below hl hb (fun t' ht' => hr t' (by simp [ht'])) h2 (fun x hx => hlt x (by simp [hx])), rfl⟩
  | [], _ :: _, _, _, _, h, _ => h.elim
  | [], [], _ :: _, _, _, h, _ => h.elim
  | _ :: _, [], _, _, _, h, _ => h.elim
  | _ :: _, _ :: _, [], _, _, h, _ => h.elim

section
variable {H : Type} {enc : TypeId × Value → H} {P : Program}
/-- The end of a law's proof: it returned true, and below the old heap nothing has turned. -/
theorem law_post {f : Func} {s : ChangeSpec} {W W' : World} {args : Array Value} {ds gs : List (DataW H)} {before : List MemPlace} {tb : TypeId}
    (hW : DataW.Whole enc P f.params.toList s.vars false W args.toList ds gs before)
    (hl : laidOutB P = true) (hread : ∀ t ∈ f.params.toList, P.readableRec t = true ∧ t < P.types.size)
    (hvars : s.vars = []) (hres : f.resultTypes = #[tb]) (htb : P.underlying tb = some .bool)
    (hspec : (s.fn H (ds ++ [])).results = [.lit (.bool true)] ∧ (s.fn H (ds ++ [])).args = ds ∧ (s.fn H (ds ++ [])).vars = [])
    (hb : Below W.heap.size W W') : s.post enc P f false true false false W args (.bool true) W' := by
  have hlt : ∀ p ∈ before, p.block < W.heap.size := fun p hp => hW.lt p hp
  have hW0 := hW
  obtain ⟨p, q, hA, hV, hpq, hz, hn⟩ := hW
  rw [hvars] at hV
  obtain ⟨rfl, rfl⟩ := trodVars_none hV
  rw [List.append_nil] at hpq
  subst hpq
  refine ⟨ds, [], before, [], before, [], hW0, ?_, ?_, ?_, World.keptBut_mono (fun p hp => ⟨hp, ?_⟩) (hb.frame (· ∈ before)), fun hg => by cases hg⟩
  · rw [hspec.1, hres]
    exact trodAll_mk1 (shut_bool htb _)
  · rw [hspec.2.1]
    exact trodAll_below hl hb hread hA hlt
  · rw [hspec.2.2, hvars]; exact rfl
  · simpa using hp
end

theorem length_of_trodAll {H : Type} {enc : TypeId × Value → H} {P : Program} {W : World} {base : Nat} {sp : Nat → Bool} {hd : Bool} : ∀ {ts : List TypeId} {vs : List Value} {ds : List (DataW H)} {ps : List MemPlace}, DataW.TrodAll enc P W base sp hd ts vs ds ps → ds.length = ts.length
  | [], [], [], _, _ => rfl
  | _ :: ts, _ :: vs, _ :: ds, _, ⟨_, _, _, h, _⟩ => by simp [length_of_trodAll h]
  | [], _ :: _, _, _, h => h.elim
  | [], [], _ :: _, _, h => h.elim
  | _ :: _, [], _, _, h => h.elim
  | _ :: _, _ :: _, [], _, h => h.elim

/-- A LAW's ROW, FROM ITS WALK. 'n': how many parameters. -/
theorem law_lifted {H : Type} {enc : TypeId × Value → H} {C : Checked} {os : Os} {f : FuncId} {fn : Func} {s : ChangeSpec} {tb : TypeId}
    (own : ownKnob C.prog.godebug = none) (started : os.Started) (noInit : C.prog.inits.idxOf? f = none) (hfn : C.prog.funcs[f]? = some fn)
    (witness : ∃ (w : World) (tape : Tape) (i : Input), w.os = os ∧ (w.forCall tape i).Shaped C.prog ∧ i.vars = [] ∧ Input.okWide C.prog (w.forCall tape i) .any w.heap.size f i ∧
      s.pre6 enc C.prog fn [] false (w.forCall tape i).memory i.args ∧ ({} : Assume).holds C.prog (lone (Frame.enter C.prog f i.args .normal) [] (w.forCall tape i)))
    (hl : laidOutB C.prog = true) (hread : (fn.params.toList.all fun t => C.prog.readableRec t && decide (t < C.prog.types.size)) = true)
    (hvars : s.vars = []) (hres : fn.resultTypes = #[tb]) (htb : C.prog.underlying tb = some .bool)
    (hspec : ∀ ds : List (DataW H), ds.length = fn.params.toList.length → (s.fn H (ds ++ [])).results = [.lit (.bool true)] ∧ (s.fn H (ds ++ [])).args = ds ∧ (s.fn H (ds ++ [])).vars = [])
    (walk : ∀ (W : World) (base : Nat) (args : Array Value) (ds : List (DataW H)) (p : List MemPlace),
      (∀ (j : Nat) t v, fn.params[j]? = some t → args[j]? = some v → Value.okWide C.prog W .any base t v) →
      DataW.TrodAll enc C.prog W 0 (fun _ => true) true fn.params.toList args.toList ds p → (∀ x ∈ p, x.block < W.heap.size) →
      (DataW.weightsEach C.prog fn.params.toList ds).all (· ≤ reachBytes) = true →
      Calls C.prog f args W fun e W' => e = .returned (.bool true) ∧ Below W.heap.size W W') :
    ReturnsInHanded {} C os f .any (s.pre6 enc C.prog fn [] false) (s.post enc C.prog fn false true false false) := by
  refine returnsInHanded_of_change_sized own started noInit hfn witness ?_
  intro W base args ds gs before hval hW _ hsz _
  have hlt : ∀ x ∈ before, x.block < W.heap.size := fun x hx => hW.lt x hx
  have hW0 := hW
  obtain ⟨p, q, hA, hV, hpq, hz, hn⟩ := hW
  have hgs : gs = [] := by
    rw [hvars] at hV
    exact (trodVars_none hV).1
  have hq : q = [] := by
    rw [hvars] at hV
    exact (trodVars_none hV).2
  subst hgs; subst hq
  rw [List.append_nil] at hpq
  subst hpq
  have hty : s.plain.varTypes C.prog = [] := by
    have : s.plain.vars = [] := hvars
    unfold DataSpec.varTypes
    rw [this]; rfl
  rw [hty, List.append_nil, List.append_nil] at hsz
  refine (walk W base args ds before hval hA hlt hsz).mono fun e W' ⟨he, hb⟩ => ⟨_, he, ?_⟩
  refine law_post hW0 hl (fun t ht => ?_) hvars hres htb (hspec ds (length_of_trodAll hA)) hb
  have := List.all_eq_true.1 hread t ht
  simpa using this
end Go.Proofs.Ytnakpfbeeekmiaa.Frame
