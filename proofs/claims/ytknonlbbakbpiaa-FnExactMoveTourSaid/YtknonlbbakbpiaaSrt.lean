/- slices.insertionSortOrdered of integers. -/
import Derived.Test.YtknonlbbakbpiaaLl
import Derived.BigRegion
import Derived.Deep.RegionWith
import Derived.Deep.QuietTactic
import Derived.BigQuiet
import Derived.Deep.LoopGhost
namespace Go.Proofs.Ytknonlbbakbpiaa
open Go.RowKit Go.ChangeShapes Go.WideShapes

/-- Two neighbours changed. -/
def swapL (Z : List Int) (j : Nat) : List Int := (Z.set j (Z.getD (j - 1) 0)).set (j - 1) (Z.getD j 0)
theorem swapL_len (Z : List Int) (j : Nat) : (swapL Z j).length = Z.length := by simp [swapL]
theorem swapL_perm {Z : List Int} {j : Nat} (h : j < Z.length) : (swapL Z j).Perm Z := by
  have h2 := @List.set_set_perm _ Z j (j - 1) h (by omega)
  have e1 : Z.getD (j - 1) 0 = Z[j - 1]'(by omega) := by simp [List.getD, show j - 1 < Z.length by omega]
  have e2 : Z.getD j 0 = Z[j]'h := by simp [List.getD, h]
  unfold swapL
  rw [e1, e2]
  exact h2
theorem swapL_at {Z : List Int} {j i : Nat} (h0 : 0 < j) (h : j < Z.length) : (swapL Z j).getD i 0 = if i = j - 1 then Z.getD j 0 else if i = j then Z.getD (j - 1) 0 else Z.getD i 0 := by
  unfold swapL
  rw [List.getD, List.getElem?_set, List.length_set]
  by_cases e : j - 1 = i
  · subst e; simp [show j - 1 < Z.length by omega]
  · rw [if_neg e, if_neg (fun x => e x.symm), List.getElem?_set]
    by_cases e2 : j = i
    · subst e2; simp [h]
    · rw [if_neg e2, if_neg (fun x => e2 x.symm)]; rfl
/-- In order up to i, but for what lies at j. -/
def Ord (Y : List Int) (i j : Nat) : Prop := ∀ a b, a < b → b ≤ i → b ≠ j → Y.getD a 0 ≤ Y.getD b 0
theorem Ord.swap {Y : List Int} {i j : Nat} (h : Ord Y i j) (h0 : 0 < j) (hj : j ≤ i) (hl : i < Y.length) (hlt : Y.getD j 0 < Y.getD (j - 1) 0) : Ord (swapL Y j) i (j - 1) := by
  intro a b hab hb hbj
  rw [swapL_at h0 (by omega), swapL_at h0 (by omega), if_neg hbj]
  by_cases e : b = j
  · rw [if_pos e]
    by_cases e2 : a = j - 1
    · rw [if_pos e2]; omega
    · rw [if_neg e2, if_neg (by omega)]
      exact h a (j - 1) (by omega) (by omega) (by omega)
  · rw [if_neg e]
    by_cases e2 : a = j - 1
    · rw [if_pos e2]; exact h j b (by omega) hb e
    · rw [if_neg e2]
      by_cases e3 : a = j
      · rw [if_pos e3]; exact h (j - 1) b (by omega) hb e
      · rw [if_neg e3]; exact h a b hab hb e
theorem Ord.zero {Y : List Int} {i : Nat} (h : Ord Y i 0) : ∀ a b, a < b → b < i + 1 → Y.getD a 0 ≤ Y.getD b 0 := fun a b hab hb => h a b hab (by omega) (by omega)
theorem Ord.stop {Y : List Int} {i j : Nat} (h : Ord Y i j) (h0 : 0 < j) (hj : j ≤ i) (hle : Y.getD (j - 1) 0 ≤ Y.getD j 0) : ∀ a b, a < b → b < i + 1 → Y.getD a 0 ≤ Y.getD b 0 := fun a b hab hb => by
  by_cases e : b = j
  · subst e
    by_cases e2 : a = b - 1
    · rw [e2]; exact hle
    · have := h a (b - 1) (by omega) (by omega) (by omega)
      omega
  · exact h a b hab (by omega) e
/-- What holds while a list is put in order. -/
structure SrtAt (w : World) (g off : Nat) (Z Y : List Int) (wr : World) : Prop where
  turned : Turned g (g + 1) w wr
  arr : Arr (Value.int .i64) 0 wr g off Y
  perm : Y.Perm Z
theorem SrtAt.drew {w wr : World} {g off : Nat} {Z Y : List Int} (h : SrtAt w g off Z Y wr) (n : Nat) : SrtAt w g off Z Y (wr.drewN n) := ⟨h.turned.drewN n, h.arr.drewN n, h.perm⟩
theorem SrtAt.swap {w wr : World} {g off : Nat} {Z Y : List Int} {j : Nat} (h : SrtAt w g off Z Y wr) (hj : j < Y.length) :
    SrtAt w g off Z (swapL Y j) ((wr.setCell ⟨g, off + j, none⟩ (.int .i64 (Y.getD (j - 1) 0))).setCell ⟨g, off + (j - 1), none⟩ (.int .i64 (Y.getD j 0))) :=
  ⟨(h.turned.setCell (Nat.le_refl _) (Nat.lt_succ_self _) _).setCell (Nat.le_refl _) (Nat.lt_succ_self _) _, (h.arr.set hj _).set (by rw [List.length_set]; omega) _, (swapL_perm hj).trans h.perm⟩
def Sorted (g off : Nat) (Z : List Int) (w : World) (e : Ending) (w' : World) : Prop := e = .returned (.tuple #[]) ∧ ∃ Y, SrtAt w g off Z Y w' ∧ ∀ a b, a < b → b < Z.length → Y.getD a 0 ≤ Y.getD b 0
theorem isNaN_is (a : Int) (w : World) : Calls Try.prog 200 #[.int .i64 a] w (fun e w' => e = .returned (.bool false) ∧ w = w') := by
  have h : ((a : Int) != a) = false := by simp
  go_enter Try.func200, Try.ntmps200
  go_wp2_with fail
  go_ret
  exact ⟨rfl, rfl⟩
theorem less_is (a b : Int) (w : World) : Calls Try.prog 247 #[.int .i64 a, .int .i64 b] w (Tells (decide (a < b)) w) := by
  go_enter Try.func247, Try.ntmps247
  go_wp2_with fail
  go_at_call 200; refine (isNaN_is a _).mono ?_; rintro e w' ⟨rfl, rfl⟩
  go_wp2_with fail
  go_ret
  exact tells 0 rfl
theorem less_t (t : Bool) (a b : Int) (w : World) (h : decide (a < b) = t) : Calls Try.prog 247 #[.int .i64 a, .int .i64 b] w (Tells t w) := by subst h; exact less_is a b w
set_option maxRecDepth 100000 in
set_option maxHeartbeats 4000000 in
theorem insSort_any (g off cap : Nat) (Z : List Int) (w : World) (hA : Arr (Value.int .i64) 0 w g off Z) (h1 : 1 ≤ Z.length) (hn : Z.length ≤ 1048576) :
    Calls Try.prog 241 #[.slice (some ⟨g, off, none⟩) Z.length (Z.length + cap), .int .i64 0, .int .i64 Z.length] w (Sorted g off Z w) := by
  have H0 : Hid (SrtAt w g off Z Z w) := Lib.hid ⟨Turned.refl _ _ _, hA, List.Perm.refl _⟩
  obtain ⟨n, hz⟩ : ∃ n, n = Z.length := ⟨_, rfl⟩
  have HZ := Lib.hid hz
  rw [← hz]
  have hn1 : 1 ≤ n := by omega
  have hn2 : n ≤ 1048576 := by omega
  clear hz hn hA h1
  go_enter Try.func241, Try.ntmps241
  go_wp2_with fail
  go_loopg [6] n (fun gk s wr => ∃ (i : Nat) (Y : List Int), 1 ≤ i ∧ i ≤ n ∧ gk + i = n + 1 ∧ s = .int .i64 i ∧ SrtAt w g off Z Y wr ∧ ∀ a b, a < b → b < i → Y.getD a 0 ≤ Y.getD b 0)
  case atStart => exact ⟨1, Z, Nat.le_refl _, hn1, by omega, rfl, H0.out, fun a b h1 h2 => by omega⟩
  case round =>
    clear H0
    obtain ⟨i, Y, hi1, hi, hgi, rfl, hat, hord⟩ := hrel
    have HS := Lib.hid hat
    have HO := Lib.hid hord
    clear hat hord
    by_cases hlt : i < n
    · go_wp2_with fail
      obtain ⟨wo, rfl⟩ : ∃ x : World, x = wr := ⟨_, rfl⟩
      obtain ⟨g2, rfl⟩ : ∃ x : Nat, x = gk := ⟨_, rfl⟩
      go_loopg [7] i (fun gk s wr => ∃ (j : Nat) (X : List Int), j ≤ i ∧ j = gk ∧ s = .int .i64 j ∧ SrtAt w g off Z X wr ∧ Ord X i j)
      case atStart => exact ⟨i, Y, Nat.le_refl _, rfl, rfl, HS.out, fun a b h1 h2 h3 => HO.out a b h1 (by omega)⟩
      case round =>
        clear HS HO
        obtain ⟨j, X, hj, rfl, rfl, hat, hord⟩ := hrel
        have HS := Lib.hid hat
        have HO := Lib.hid hord
        have hlx : X.length = n := by rw [hat.perm.length_eq, ← HZ.out]
        have HLX := Lib.hid hlx
        clear hat hord
        by_cases hj0 : j = 0
        · subst hj0
          have HE := Lib.hid (Ord.zero HO.out)
          go_wp2_with fail
          go_quiet (fail)
          go_wp2_with fail
          go_roundg (g2 - 1)
          case measure => omega
          case rel => exact ⟨i + 1, X, by omega, by omega, by omega, by go_num, HS.out.drew _, HE.out⟩
        · obtain ⟨p, rfl⟩ : ∃ p, j = p + 1 := ⟨j - 1, by omega⟩
          have hjp : decide ((0 : Int) < (p : Int) + 1) = true := decide_eq_true (by omega)
          have hjp2 : decide (0 < p + 1) = true := decide_eq_true (by omega)
          have x0 := HS.out.arr.cells (p + 1) (by rw [hlx]; omega)
          have x1 := HS.out.arr.cells p (by rw [hlx]; omega)
          have hw1 : IntKind.i64.wrap ((p : Int) + 1 - 1) = (p : Int) := by rw [show (p : Int) + 1 - 1 = (p : Int) by omega]; exact IntWalk.i64_in _ (by omega)
          have hw2 : (0 : Int) ≤ (p : Int) + 1 := by omega
          have hw3 : ((p : Int) + 1).toNat = p + 1 := by omega
          have f0 := HS.out.arr.free (off + (p + 1))
          have f1 := HS.out.arr.free (off + p)
          have lj : (p : Int) + 1 < (n : Int) := by omega
          have lp : (p : Int) < (n : Int) := by omega
          have hwp : IntKind.i64.wrap (p : Int) = (p : Int) := IntWalk.i64_in _ (by omega)
          have lp2 : p < n := by omega
          have lp3 : p + 1 < n := by omega
          have lp4 : (p : Int) + 1 - 1 = (p : Int) := by omega
          by_cases hsw : X.getD (p + 1) 0 < X.getD p 0
          · have HSW : Hid (∀ m, SrtAt w g off Z (swapL X (p + 1)) (((wr.drewN m).setCell ⟨g, off + (p + 1), none⟩ (.int .i64 (X.getD p 0))).setCell ⟨g, off + p, none⟩ (.int .i64 (X.getD (p + 1) 0)))) := Lib.hid fun m => (HS.out.drew m).swap (j := p + 1) (by rw [HLX.out]; omega)
            have HOR : Hid (Ord (swapL X (p + 1)) i p) := Lib.hid (HO.out.swap (by omega) hj (by rw [HLX.out]; omega) hsw)
            have LESS : Hid (∀ W, Calls Try.prog 247 #[.int .i64 (X.getD (p + 1) 0), .int .i64 (X.getD p 0)] W (Tells true W)) := Lib.hid fun W => less_t true _ _ W (by simpa using hsw)
            generalize X.getD (p + 1) 0 = x at x0 LESS HSW hsw
            generalize X.getD p 0 = y at x1 LESS HSW hsw
            have hne : ¬ p + 1 = p := by omega
            have hne2 : ¬ p = p + 1 := by omega
            clear hlx
            go_wp2_with fail
            go_quiet ((go_at_call 247; with_reducible exact Calls.quiet_of (LESS.out _)))
            go_wp2_with fail
            go_region_with (fail)
            all_goals
              go_wp2_with fail
              go_roundg p
              case measure => omega
              case rel => exact ⟨p, swapL X (p + 1), by omega, rfl, by go_num, HSW.out _, HOR.out⟩
          · have HE : Hid (∀ a b, a < b → b < i + 1 → X.getD a 0 ≤ X.getD b 0) := Lib.hid (HO.out.stop (by omega) hj (by rw [Nat.add_sub_cancel]; omega))
            have LESS : Hid (∀ W, Calls Try.prog 247 #[.int .i64 (X.getD (p + 1) 0), .int .i64 (X.getD p 0)] W (Tells false W)) := Lib.hid fun W => less_t false _ _ W (by simpa using hsw)
            generalize X.getD (p + 1) 0 = x at x0 LESS
            generalize X.getD p 0 = y at x1 LESS
            clear hlx hsw
            go_wp2_with fail
            go_quiet ((go_at_call 247; with_reducible exact Calls.quiet_of (LESS.out _)))
            go_wp2_with fail
            go_roundg (g2 - 1)
            case measure => omega
            case rel => exact ⟨i + 1, X, by omega, by omega, by omega, by go_num, HS.out.drew _, HE.out⟩
    · obtain rfl : i = n := by omega
      go_wp2_with fail
      refine bodyPost_ret (v := .tuple #[]) (by simp [results, Try.results241, go_sem]) rfl ?_
      exact ⟨rfl, Y, HS.out, by rw [← HZ.out]; exact HO.out⟩
end Go.Proofs.Ytknonlbbakbpiaa
