/- Are lists the same? Both sides' functions say so: singles by their bits, integers. -/
import Derived.Test.YtiobbclciboggaaDkT
import Derived.Test.YtiobbclciboggaaNumD
import Derived.Test.YtiobbclciboggaaSn
namespace Go.Proofs.Ytiobbclciboggaa
open Go.RowKit Go.ChangeShapes Go.WideShapes

def sameB (a b : Nat) : Bool := (Fl.told a : Int) == (Fl.told b : Int)
def sameL (Y Z : List Nat) : Bool := decide (Y.length = Z.length) && (List.range Y.length).all fun i => sameB (Y.getD i 0) (Z.getD i 0)
def sameI (Y Z : List Int) : Bool := decide (Y.length = Z.length) && (List.range Y.length).all fun i => Y.getD i 0 == Z.getD i 0
theorem all_range {p : Nat → Bool} {n : Nat} (h : ∀ i, i < n → p i = true) : (List.range n).all p = true := by
  rw [List.all_eq_true]
  intro x hx
  exact h x (List.mem_range.1 hx)
theorem not_range {p : Nat → Bool} {n i : Nat} (hi : i < n) (h : p i = false) : (List.range n).all p = false := by
  rw [Bool.eq_false_iff]
  intro hc
  have := List.all_eq_true.1 hc i (List.mem_range.2 hi)
  rw [h] at this; cases this
theorem sameL_lens {Y Z : List Nat} (h : Y.length ≠ Z.length) : sameL Y Z = false := by unfold sameL; rw [decide_eq_false h]; rfl
theorem sameL_yes {Y Z : List Nat} (h : Y.length = Z.length) (k : ∀ i, i < Y.length → sameB (Y.getD i 0) (Z.getD i 0) = true) : sameL Y Z = true := by unfold sameL; rw [decide_eq_true h, all_range k]; rfl
theorem sameL_no {Y Z : List Nat} {i : Nat} (hi : i < Y.length) (k : sameB (Y.getD i 0) (Z.getD i 0) = false) : sameL Y Z = false := by unfold sameL; rw [not_range hi k]; simp
theorem sameI_lens {Y Z : List Int} (h : Y.length ≠ Z.length) : sameI Y Z = false := by unfold sameI; rw [decide_eq_false h]; rfl
theorem sameI_yes {Y Z : List Int} (h : Y.length = Z.length) (k : ∀ i, i < Y.length → (Y.getD i 0 == Z.getD i 0) = true) : sameI Y Z = true := by unfold sameI; rw [decide_eq_true h, all_range k]; rfl
theorem sameI_no {Y Z : List Int} {i : Nat} (hi : i < Y.length) (k : (Y.getD i 0 == Z.getD i 0) = false) : sameI Y Z = false := by unfold sameI; rw [not_range hi k]; simp
theorem getD_fit {Z : List Nat} (h : ∀ x ∈ Z, x < 4294967296) {i : Nat} (hi : i < Z.length) : Z.getD i 0 < 4294967296 := by rw [getD_at hi]; exact h _ (List.getElem_mem hi)

theorem l01Same_is (t : Bool) (a b : Nat) (ha : a < 4294967296) (hb : b < 4294967296) (w : World) (h : sameB a b = t) :
    Calls Try.prog 160 #[.float .f32 a, .float .f32 b] w (Tells t w) := by
  subst h
  exact (l01Same_any a b ha hb w).mono fun _ _ ⟨h1, h2⟩ => ⟨h1, 0, h2.symm⟩
theorem implSame_is (t : Bool) (a b : Nat) (ha : a < 4294967296) (hb : b < 4294967296) (w : World) (h : sameB a b = t) :
    Calls Try.prog 162 #[.float .f32 a, .float .f32 b] w fun e w' => e = .returned (.bool t) ∧ w = w' := by
  subst h
  exact implSame_any a b ha hb w

set_option maxHeartbeats 1000000 in
theorem l01SameAll_num (b1 off1 cap1 b2 off2 cap2 : Nat) (Y Z : List Nat) (w : World) (hn : Y.length ≤ 1048576) (he : Y.length = Z.length) (fY : ∀ x ∈ Y, x < 4294967296) (fZ : ∀ x ∈ Z, x < 4294967296)
    (hc1 : ∀ i, i < Y.length → w.cell? ⟨b1, off1 + i, none⟩ = some (.float .f32 (Y.getD i 0))) (hc2 : ∀ i, i < Z.length → w.cell? ⟨b2, off2 + i, none⟩ = some (.float .f32 (Z.getD i 0))) :
    Calls Try.prog 137 #[.slice (some ⟨b1, off1, none⟩) Y.length cap1, .slice (some ⟨b2, off2, none⟩) Z.length cap2] w (Tells (sameL Y Z) w) := by
  have hne : ((Y.length : Int) != (Z.length : Int)) = false := by simp; omega
  have HE := Lib.hid he
  have hle : Z.length ≤ 1048576 := by omega
  have hle2 : Y.length ≤ Z.length := by omega
  clear he
  go_enter Try.func137, Try.ntmps137
  go_wp2
  go_loopw [5] (fun i wr => ∃ k : Nat, k ≤ Y.length ∧ i = .int .i64 k ∧ (∀ j, j < k → sameB (Y.getD j 0) (Z.getD j 0) = true) ∧ ∃ n, wr = w.drewN n) (fun i _ => Y.length - (intOf i).toNat)
  case atStart => exact ⟨0, Nat.zero_le _, rfl, fun j hj => by omega, 0, rfl⟩
  case round =>
    obtain ⟨k, hk, rfl, hall, hwr⟩ := hrel
    have HA := Lib.hid hall
    clear hall
    by_cases hlt : k < Y.length
    · have hlt2 : k < Z.length := by omega
      have c1 : wr.cell? ⟨b1, off1 + k, none⟩ = some (.float .f32 (Y.getD k 0)) := by obtain ⟨n, rfl⟩ := hwr; exact hc1 k hlt
      have c2 : wr.cell? ⟨b2, off2 + k, none⟩ = some (.float .f32 (Z.getD k 0)) := by obtain ⟨n, rfl⟩ := hwr; exact hc2 k hlt2
      have HW : Hid (∀ m, ∃ n, wr.drewN m = w.drewN n) := Lib.hid (fun m => by obtain ⟨n, rfl⟩ := hwr; exact ⟨n + m, World.drewN_drewN _ _ _⟩)
      have fy := getD_fit fY hlt
      have fz := getD_fit fZ hlt2
      clear hc1 hc2 hwr
      cases hs : sameB (Y.getD k 0) (Z.getD k 0) with
      | true =>
        have HS := Lib.hid hs
        have HS2 := Lib.hid hs
        clear hs
        generalize Y.getD k 0 = y at c1 fy HS2
        generalize Z.getD k 0 = z at c2 fz HS2
        go_wp2
        go_quiet ((go_at_call 160; exact Calls.quiet_of (l01Same_is true _ _ fy fz _ HS2.out)))
        go_wp2
        go_roundw
        case rel => exact ⟨k + 1, by omega, by go_num, fun j hj => by
          by_cases e : j = k
          · subst e; exact HS.out
          · exact HA.out j (by omega), HW.out _⟩
        case measure => simp [intOf]; omega
      | false =>
        have HS := Lib.hid hs
        have HS2 := Lib.hid hs
        clear hs
        generalize Y.getD k 0 = y at c1 fy HS2
        generalize Z.getD k 0 = z at c2 fz HS2
        go_wp2
        go_quiet ((go_at_call 160; exact Calls.quiet_of (l01Same_is false _ _ fy fz _ HS2.out)))
        go_wp2
        go_ret
        exact ⟨by rw [sameL_no hlt HS.out]; rfl, HW.out _⟩
    · obtain rfl : k = Y.length := by omega
      have HW := Lib.hid hwr
      clear hc1 hc2 hwr
      go_wp2
      go_ret
      exact ⟨by rw [sameL_yes HE.out HA.out]; rfl, HW.out⟩
theorem l01SameAll_any (v u : Value) (Y Z : List Nat) (w : World) (hv : SL w v Y) (hu : SL w u Z) (hn : Y.length ≤ 1048576) (hn2 : Z.length ≤ 1048576) (fY : ∀ x ∈ Y, x < 4294967296) (fZ : ∀ x ∈ Z, x < 4294967296) :
    Calls Try.prog 137 #[v, u] w (Tells (sameL Y Z) w) := by
  by_cases he : Y.length = Z.length
  · rcases hv with ⟨rfl, ao, cap, rfl⟩ | ⟨b, off, cap, rfl, hpos, hbl, hcell⟩
    · have hz : Z = [] := List.eq_nil_of_length_eq_zero (by rw [← he]; rfl)
      subst hz
      rcases hu with ⟨-, ao2, cap2, rfl⟩ | ⟨b2, off2, cap2, rfl, hpos2, -, -⟩
      · clear he fY fZ
        go_enter Try.func137, Try.ntmps137
        go_wp2
        refine wp_loop_rounds 1 ?_
        rw [rounds_succ]
        go_wp2
        go_ret
        exact tells 0 rfl
      · exact absurd hpos2 (by simp)
    · rcases hu with ⟨rfl, ao2, cap2, rfl⟩ | ⟨b2, off2, cap2, rfl, hpos2, hbl2, hcell2⟩
      · rw [he] at hpos; exact absurd hpos (by simp)
      · exact l01SameAll_num _ _ _ _ _ _ Y Z w hn he fY fZ hcell hcell2
  · have H := Lib.hid (sameL_lens he)
    obtain ⟨ao, cap, rfl⟩ := hv.long
    obtain ⟨ao2, cap2, rfl⟩ := hu.long
    have hne : ((Y.length : Int) != (Z.length : Int)) = true := by simp; omega
    clear hv hu he fY fZ
    go_enter Try.func137, Try.ntmps137
    go_wp2
    go_ret
    exact tells 0 H.out.symm

set_option maxHeartbeats 1000000 in
theorem equalFunc_num (b1 off1 cap1 b2 off2 cap2 : Nat) (Y Z : List Nat) (w : World) (hn : Y.length ≤ 1048576) (he : Y.length = Z.length) (fY : ∀ x ∈ Y, x < 4294967296) (fZ : ∀ x ∈ Z, x < 4294967296)
    (hc1 : ∀ i, i < Y.length → w.cell? ⟨b1, off1 + i, none⟩ = some (.float .f32 (Y.getD i 0))) (hc2 : ∀ i, i < Z.length → w.cell? ⟨b2, off2 + i, none⟩ = some (.float .f32 (Z.getD i 0))) :
    Calls Try.prog 161 #[.slice (some ⟨b1, off1, none⟩) Y.length cap1, .slice (some ⟨b2, off2, none⟩) Z.length cap2, .func (.func 162) #[] #[]] w fun e w' => e = .returned (.bool (sameL Y Z)) ∧ w = w' := by
  have hne : ((Y.length : Int) != (Z.length : Int)) = false := by simp; omega
  have HE := Lib.hid he
  have hle : Z.length ≤ 1048576 := by omega
  have hle2 : Y.length ≤ Z.length := by omega
  clear he
  go_enter Try.func161, Try.ntmps161
  go_wp2
  go_loop [17] (fun i => ∃ k : Nat, k ≤ Y.length ∧ i = .int .i64 k ∧ (∀ j, j < k → sameB (Y.getD j 0) (Z.getD j 0) = true)) (fun i => Y.length - (intOf i).toNat)
  case atStart => exact ⟨0, Nat.zero_le _, rfl, fun j hj => by omega⟩
  case round =>
    obtain ⟨k, hk, rfl, hall⟩ := hrel
    have HA := Lib.hid hall
    clear hall
    by_cases hlt : k < Y.length
    · have hlt2 : k < Z.length := by omega
      have c1 := hc1 k hlt
      have c2 := hc2 k hlt2
      have fy := getD_fit fY hlt
      have fz := getD_fit fZ hlt2
      clear hc1 hc2
      cases hs : sameB (Y.getD k 0) (Z.getD k 0) with
      | true =>
        have HS := Lib.hid hs
        have HS2 := Lib.hid hs
        clear hs
        generalize Y.getD k 0 = y at c1 fy HS2
        generalize Z.getD k 0 = z at c2 fz HS2
        go_wp2_with (go_at_call 162; refine (implSame_is true _ _ fy fz _ HS2.out).mono ?_; rintro e w' ⟨rfl, rfl⟩)
        go_round
        case rel => exact ⟨k + 1, by omega, by go_num, fun j hj => by
          by_cases e : j = k
          · subst e; exact HS.out
          · exact HA.out j (by omega)⟩
        case measure => simp [intOf]; omega
      | false =>
        have HS := Lib.hid hs
        have HS2 := Lib.hid hs
        clear hs
        generalize Y.getD k 0 = y at c1 fy HS2
        generalize Z.getD k 0 = z at c2 fz HS2
        go_wp2_with (go_at_call 162; refine (implSame_is false _ _ fy fz _ HS2.out).mono ?_; rintro e w' ⟨rfl, rfl⟩)
        go_ret
        exact ⟨by rw [sameL_no hlt HS.out]; rfl, rfl⟩
    · obtain rfl : k = Y.length := by omega
      clear hc1 hc2
      go_wp2
      go_ret
      exact ⟨by rw [sameL_yes HE.out HA.out]; rfl, rfl⟩
theorem equalFunc_any (v u : Value) (Y Z : List Nat) (w : World) (hv : SL w v Y) (hu : SL w u Z) (hn : Y.length ≤ 1048576) (hn2 : Z.length ≤ 1048576) (fY : ∀ x ∈ Y, x < 4294967296) (fZ : ∀ x ∈ Z, x < 4294967296) :
    Calls Try.prog 161 #[v, u, .func (.func 162) #[] #[]] w fun e w' => e = .returned (.bool (sameL Y Z)) ∧ w = w' := by
  by_cases he : Y.length = Z.length
  · rcases hv with ⟨rfl, ao, cap, rfl⟩ | ⟨b, off, cap, rfl, hpos, hbl, hcell⟩
    · have hz : Z = [] := List.eq_nil_of_length_eq_zero (by rw [← he]; rfl)
      subst hz
      rcases hu with ⟨-, ao2, cap2, rfl⟩ | ⟨b2, off2, cap2, rfl, hpos2, -, -⟩
      · clear he fY fZ
        go_enter Try.func161, Try.ntmps161
        go_wp2
        refine wp_loop_rounds 1 ?_
        rw [rounds_succ]
        go_wp2
        go_ret
        exact ⟨rfl, rfl⟩
      · exact absurd hpos2 (by simp)
    · rcases hu with ⟨rfl, ao2, cap2, rfl⟩ | ⟨b2, off2, cap2, rfl, hpos2, hbl2, hcell2⟩
      · rw [he] at hpos; exact absurd hpos (by simp)
      · exact equalFunc_num _ _ _ _ _ _ Y Z w hn he fY fZ hcell hcell2
  · have H := Lib.hid (sameL_lens he)
    obtain ⟨ao, cap, rfl⟩ := hv.long
    obtain ⟨ao2, cap2, rfl⟩ := hu.long
    have hne : ((Y.length : Int) != (Z.length : Int)) = true := by simp; omega
    clear hv hu he fY fZ
    go_enter Try.func161, Try.ntmps161
    go_wp2
    go_ret
    exact ⟨by rw [H.out]; rfl, rfl⟩
theorem sameNumbers_any (v u : Value) (Y Z : List Nat) (w : World) (hv : SL w v Y) (hu : SL w u Z) (hn : Y.length ≤ 1048576) (hn2 : Z.length ≤ 1048576) (fY : ∀ x ∈ Y, x < 4294967296) (fZ : ∀ x ∈ Z, x < 4294967296) :
    Calls Try.prog 140 #[v, u] w (Tells (sameL Y Z) w) := by
  have HV := Lib.hid hv
  have HU := Lib.hid hu
  have HY := Lib.hid fY
  have HZ := Lib.hid fZ
  clear hv hu fY fZ
  go_enter Try.func140, Try.ntmps140
  go_wp2_with (go_at_call 161; refine (equalFunc_any _ _ Y Z _ HV.out HU.out hn hn2 HY.out HZ.out).mono ?_; rintro e w' ⟨rfl, rfl⟩)
  go_ret
  exact tells 0 rfl

/-! ### integers -/
set_option maxHeartbeats 1000000 in
theorem l02SameBasis_num (b1 off1 cap1 b2 off2 cap2 : Nat) (Y Z : List Int) (w : World) (hn : Y.length ≤ 1048576) (he : Y.length = Z.length)
    (hc1 : ∀ i, i < Y.length → w.cell? ⟨b1, off1 + i, none⟩ = some (.int .i64 (Y.getD i 0))) (hc2 : ∀ i, i < Z.length → w.cell? ⟨b2, off2 + i, none⟩ = some (.int .i64 (Z.getD i 0))) :
    Calls Try.prog 94 #[.slice (some ⟨b1, off1, none⟩) Y.length cap1, .slice (some ⟨b2, off2, none⟩) Z.length cap2] w (Tells (sameI Y Z) w) := by
  have hne : ((Y.length : Int) != (Z.length : Int)) = false := by simp; omega
  have HE := Lib.hid he
  have hle : Z.length ≤ 1048576 := by omega
  have hle2 : Y.length ≤ Z.length := by omega
  clear he
  go_enter Try.func94, Try.ntmps94
  go_wp2
  go_loopw [5] (fun i wr => ∃ k : Nat, k ≤ Y.length ∧ i = .int .i64 k ∧ (∀ j, j < k → (Y.getD j 0 == Z.getD j 0) = true) ∧ ∃ n, wr = w.drewN n) (fun i _ => Y.length - (intOf i).toNat)
  case atStart => exact ⟨0, Nat.zero_le _, rfl, fun j hj => by omega, 0, rfl⟩
  case round =>
    obtain ⟨k, hk, rfl, hall, hwr⟩ := hrel
    have HA := Lib.hid hall
    clear hall
    by_cases hlt : k < Y.length
    · have hlt2 : k < Z.length := by omega
      have c1 : wr.cell? ⟨b1, off1 + k, none⟩ = some (.int .i64 (Y.getD k 0)) := by obtain ⟨n, rfl⟩ := hwr; exact hc1 k hlt
      have c2 : wr.cell? ⟨b2, off2 + k, none⟩ = some (.int .i64 (Z.getD k 0)) := by obtain ⟨n, rfl⟩ := hwr; exact hc2 k hlt2
      have HW : Hid (∀ m, ∃ n, wr.drewN m = w.drewN n) := Lib.hid (fun m => by obtain ⟨n, rfl⟩ := hwr; exact ⟨n + m, World.drewN_drewN _ _ _⟩)
      clear hc1 hc2 hwr
      cases hs : (Y.getD k 0 == Z.getD k 0) with
      | true =>
        have HS := Lib.hid hs
        generalize Y.getD k 0 = y at c1 hs
        generalize Z.getD k 0 = z at c2 hs
        have hs2 : (y != z) = false := by rw [bne, hs]; rfl
        clear hs
        go_wp2
        go_quiet (fail)
        go_wp2
        go_roundw
        case rel => exact ⟨k + 1, by omega, by go_num, fun j hj => by
          by_cases e : j = k
          · subst e; exact HS.out
          · exact HA.out j (by omega), HW.out _⟩
        case measure => simp [intOf]; omega
      | false =>
        have HS := Lib.hid hs
        generalize Y.getD k 0 = y at c1 hs
        generalize Z.getD k 0 = z at c2 hs
        have hs2 : (y != z) = true := by rw [bne, hs]; rfl
        clear hs
        go_wp2
        go_quiet (fail)
        go_wp2
        go_ret
        exact ⟨by rw [sameI_no hlt HS.out]; rfl, HW.out _⟩
    · obtain rfl : k = Y.length := by omega
      have HW := Lib.hid hwr
      clear hc1 hc2 hwr
      go_wp2
      go_ret
      exact ⟨by rw [sameI_yes HE.out HA.out]; rfl, HW.out⟩
theorem l02SameBasis_any (v u : Value) (Y Z : List Int) (w : World) (hv : IL w v Y) (hu : IL w u Z) (hn : Y.length ≤ 1048576) (hn2 : Z.length ≤ 1048576) :
    Calls Try.prog 94 #[v, u] w (Tells (sameI Y Z) w) := by
  by_cases he : Y.length = Z.length
  · rcases hv with ⟨rfl, ao, cap, rfl⟩ | ⟨b, off, cap, rfl, hpos, hbl, hcell⟩
    · have hz : Z = [] := List.eq_nil_of_length_eq_zero (by rw [← he]; rfl)
      subst hz
      rcases hu with ⟨-, ao2, cap2, rfl⟩ | ⟨b2, off2, cap2, rfl, hpos2, -, -⟩
      · clear he
        go_enter Try.func94, Try.ntmps94
        go_wp2
        refine wp_loop_rounds 1 ?_
        rw [rounds_succ]
        go_wp2
        go_ret
        exact tells 0 rfl
      · exact absurd hpos2 (by simp)
    · rcases hu with ⟨rfl, ao2, cap2, rfl⟩ | ⟨b2, off2, cap2, rfl, hpos2, hbl2, hcell2⟩
      · rw [he] at hpos; exact absurd hpos (by simp)
      · exact l02SameBasis_num _ _ _ _ _ _ Y Z w hn he hcell hcell2
  · have H := Lib.hid (sameI_lens he)
    obtain ⟨ao, cap, rfl⟩ := hv.long
    obtain ⟨ao2, cap2, rfl⟩ := hu.long
    have hne : ((Y.length : Int) != (Z.length : Int)) = true := by simp; omega
    clear hv hu he
    go_enter Try.func94, Try.ntmps94
    go_wp2
    go_ret
    exact tells 0 H.out.symm
set_option maxHeartbeats 1000000 in
theorem slEqual_num (b1 off1 cap1 b2 off2 cap2 : Nat) (Y Z : List Int) (w : World) (hn : Y.length ≤ 1048576) (he : Y.length = Z.length)
    (hc1 : ∀ i, i < Y.length → w.cell? ⟨b1, off1 + i, none⟩ = some (.int .i64 (Y.getD i 0))) (hc2 : ∀ i, i < Z.length → w.cell? ⟨b2, off2 + i, none⟩ = some (.int .i64 (Z.getD i 0))) :
    Calls Try.prog 98 #[.slice (some ⟨b1, off1, none⟩) Y.length cap1, .slice (some ⟨b2, off2, none⟩) Z.length cap2] w (Tells (sameI Y Z) w) := by
  have hne : ((Y.length : Int) != (Z.length : Int)) = false := by simp; omega
  have HE := Lib.hid he
  have hle : Z.length ≤ 1048576 := by omega
  have hle2 : Y.length ≤ Z.length := by omega
  clear he
  go_enter Try.func98, Try.ntmps98
  go_wp2
  go_loopw [13] (fun i wr => ∃ k : Nat, k ≤ Y.length ∧ i = .int .i64 k ∧ (∀ j, j < k → (Y.getD j 0 == Z.getD j 0) = true) ∧ ∃ n, wr = w.drewN n) (fun i _ => Y.length - (intOf i).toNat)
  case atStart => exact ⟨0, Nat.zero_le _, rfl, fun j hj => by omega, 0, rfl⟩
  case round =>
    obtain ⟨k, hk, rfl, hall, hwr⟩ := hrel
    have HA := Lib.hid hall
    clear hall
    by_cases hlt : k < Y.length
    · have hlt2 : k < Z.length := by omega
      have c1 : wr.cell? ⟨b1, off1 + k, none⟩ = some (.int .i64 (Y.getD k 0)) := by obtain ⟨n, rfl⟩ := hwr; exact hc1 k hlt
      have c2 : wr.cell? ⟨b2, off2 + k, none⟩ = some (.int .i64 (Z.getD k 0)) := by obtain ⟨n, rfl⟩ := hwr; exact hc2 k hlt2
      have HW : Hid (∀ m, ∃ n, wr.drewN m = w.drewN n) := Lib.hid (fun m => by obtain ⟨n, rfl⟩ := hwr; exact ⟨n + m, World.drewN_drewN _ _ _⟩)
      clear hc1 hc2 hwr
      cases hs : (Y.getD k 0 == Z.getD k 0) with
      | true =>
        have HS := Lib.hid hs
        generalize Y.getD k 0 = y at c1 hs
        generalize Z.getD k 0 = z at c2 hs
        have hs2 : (y != z) = false := by rw [bne, hs]; rfl
        clear hs
        go_wp2
        go_quiet (fail)
        go_wp2
        go_roundw
        case rel => exact ⟨k + 1, by omega, by go_num, fun j hj => by
          by_cases e : j = k
          · subst e; exact HS.out
          · exact HA.out j (by omega), HW.out _⟩
        case measure => simp [intOf]; omega
      | false =>
        have HS := Lib.hid hs
        generalize Y.getD k 0 = y at c1 hs
        generalize Z.getD k 0 = z at c2 hs
        have hs2 : (y != z) = true := by rw [bne, hs]; rfl
        clear hs
        go_wp2
        go_quiet (fail)
        go_wp2
        go_ret
        exact ⟨by rw [sameI_no hlt HS.out]; rfl, HW.out _⟩
    · obtain rfl : k = Y.length := by omega
      have HW := Lib.hid hwr
      clear hc1 hc2 hwr
      go_wp2
      go_ret
      exact ⟨by rw [sameI_yes HE.out HA.out]; rfl, HW.out⟩
theorem slEqual_any (v u : Value) (Y Z : List Int) (w : World) (hv : IL w v Y) (hu : IL w u Z) (hn : Y.length ≤ 1048576) (hn2 : Z.length ≤ 1048576) :
    Calls Try.prog 98 #[v, u] w (Tells (sameI Y Z) w) := by
  by_cases he : Y.length = Z.length
  · rcases hv with ⟨rfl, ao, cap, rfl⟩ | ⟨b, off, cap, rfl, hpos, hbl, hcell⟩
    · have hz : Z = [] := List.eq_nil_of_length_eq_zero (by rw [← he]; rfl)
      subst hz
      rcases hu with ⟨-, ao2, cap2, rfl⟩ | ⟨b2, off2, cap2, rfl, hpos2, -, -⟩
      · clear he
        go_enter Try.func98, Try.ntmps98
        go_wp2
        refine wp_loop_rounds 1 ?_
        rw [rounds_succ]
        go_wp2
        go_ret
        exact tells 0 rfl
      · exact absurd hpos2 (by simp)
    · rcases hu with ⟨rfl, ao2, cap2, rfl⟩ | ⟨b2, off2, cap2, rfl, hpos2, hbl2, hcell2⟩
      · rw [he] at hpos; exact absurd hpos (by simp)
      · exact slEqual_num _ _ _ _ _ _ Y Z w hn he hcell hcell2
  · have H := Lib.hid (sameI_lens he)
    obtain ⟨ao, cap, rfl⟩ := hv.long
    obtain ⟨ao2, cap2, rfl⟩ := hu.long
    have hne : ((Y.length : Int) != (Z.length : Int)) = true := by simp; omega
    clear hv hu he
    go_enter Try.func98, Try.ntmps98
    go_wp2
    go_ret
    exact tells 0 H.out.symm
end Go.Proofs.Ytiobbclciboggaa
