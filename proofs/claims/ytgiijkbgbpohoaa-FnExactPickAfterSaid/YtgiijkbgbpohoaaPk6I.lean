/- The first number that is greater than all before: the program. -/
import Derived.Test.YtgiijkbgbpohoaaPk6
import Derived.Test.YtgiijkbgbpohoaaIxPkC
import Derived.Test.YtgiijkbgbpohoaaRowA
import Derived.Deep.QuietTactic
import Derived.BigQuiet
namespace Go.Proofs.Ytgiijkbgbpohoaa
open Go.RowKit Go.ChangeShapes Go.WideShapes

theorem pkCl_any (g : Nat) (x y : Int) (w : World) (hc : w.cell? ⟨g, 0, none⟩ = some (.int .i64 x)) :
    Calls Try.prog 81 #[.int .i64 y, .pointer (some ⟨g, 0, none⟩)] w (Says (decide (x ≤ y)) w) := by
  by_cases h : x ≤ y
  · rw [decide_eq_true h]
    have hd : decide (y ≥ x) = true := by simp; omega
    go_enter Try.func81, Try.ntmps81
    go_wp2_with fail
    go_ret
    exact says rfl (Below.refl _ _)
  · rw [decide_eq_false h]
    have hd : decide (y ≥ x) = false := by simp; omega
    go_enter Try.func81, Try.ntmps81
    go_wp2_with fail
    go_ret
    exact says rfl (Below.refl _ _)
theorem take_getD {L : List Int} {k l : Nat} (h : k < l) : (L.take l).getD k 0 = L.getD k 0 := by
  rw [List.getD, List.getD, List.getElem?_take, if_pos h]
theorem il_take {w : World} {b off cap l : Nat} {L : List Int} (hc : ∀ i, i < L.length → w.cell? ⟨b, off + i, none⟩ = some (.int .i64 (L.getD i 0))) (hb : b < w.heap.size) (h : l ≤ L.length) :
    IL w (.slice (some ⟨b, off, none⟩) l (L.length + cap)) (L.take l) := by
  have hl : (L.take l).length = l := by rw [List.length_take]; omega
  by_cases h0 : l = 0
  · subst h0
    exact Or.inl ⟨rfl, _, _, rfl⟩
  · refine Or.inr ⟨b, off, L.length + cap - l, by rw [hl]; congr 1; omega, by omega, hb, fun i hi => ?_⟩
    rw [hl] at hi
    rw [hc i (by omega), take_getD hi]
theorem any_take {L : List Int} {l i : Nat} (h : l ≤ L.length) : anyZ (fun y => decide (L.getD i 0 ≤ y)) (L.take l) = !grB L l i := by
  have hl : (L.take l).length = l := by rw [List.length_take]; omega
  cases q : grB L l i with
  | true =>
    refine anyZ_none fun j hj => ?_
    rw [hl] at hj
    rw [take_getD hj]
    have := rngAt q hj
    simp only [decide_eq_true_eq] at this
    rw [decide_eq_false_iff_not]; omega
  | false =>
    unfold grB at q
    rw [List.all_eq_false] at q
    obtain ⟨j, hj, hn⟩ := q
    have hj := List.mem_range.1 hj
    simp only [decide_eq_true_eq] at hn
    show anyZ _ _ = true
    unfold anyZ
    rw [List.any_eq_true]
    refine ⟨j, List.mem_range.2 (by omega), ?_⟩
    rw [take_getD hj, decide_eq_true_eq]; omega
theorem isIndex_in (t : Bool) (n i : Int) (w : World) (h1 : 0 ≤ n) (h2 : n ≤ 1048576) (h : inB i 0 (n - 1) = t) : Calls Try.prog 79 #[.int .i64 n, .int .i64 i] w (Tells t w) := by
  have T := Lib.hid (show (decide (0 ≤ i) && decide (i ≤ n - 1)) = t from h)
  have wn : IntKind.i64.wrap (n - 1) = n - 1 := IntWalk.i64_in _ (by omega)
  clear h
  go_enter Try.func79, Try.ntmps79
  go_wp2_with fail
  go_at_call 54; refine (isFrom_is t i 0 (n - 1) _ T.out).mono ?_; rintro e w' ⟨rfl, m, rfl⟩
  go_wp2_with fail
  go_ret
  exact tells _ rfl
set_option maxHeartbeats 1000000 in
theorem implPick_no (v : Value) (L : List Int) (l : Int) (w : World) (hv : IL w v L) (hn : L.length ≤ 1048576) (h : pkB L l = false) :
    Calls Try.prog 47 #[v, .int .i64 l] w (SaysIB 0 false w) := by
  obtain ⟨ao, cap, rfl⟩ := hv.long
  clear hv
  cases h1 : pk64 L.length with
  | false =>
    have T := Lib.hid (show (decide (1 ≤ (L.length : Int)) && decide ((L.length : Int) ≤ 64)) = false from h1)
    clear h h1
    go_enter Try.func47, Try.ntmps47
    go_wp2_with fail
    go_at_call 54; refine (isFrom_is false _ 1 64 _ T.out).mono ?_; rintro e w' ⟨rfl, m, rfl⟩
    go_wp2_with fail
    go_ret2
    exact saysIB rfl (below_drewN (Below.refl _ _) _)
  | true =>
    have T := Lib.hid (show (decide (1 ≤ (L.length : Int)) && decide ((L.length : Int) ≤ 64)) = true from h1)
    have T2 := Lib.hid (show inB l 0 ((L.length : Int) - 1) = false by unfold pkB at h; rw [h1, Bool.true_and] at h; exact h)
    clear h h1
    go_enter Try.func47, Try.ntmps47
    go_wp2_with fail
    go_at_call 54; refine (isFrom_is true _ 1 64 _ T.out).mono ?_; rintro e w' ⟨rfl, m, rfl⟩
    go_wp2_with fail
    go_at_call 79; refine (isIndex_in false _ l _ (by omega) (by omega) T2.out).mono ?_; rintro e w' ⟨rfl, m2, rfl⟩
    go_wp2_with fail
    go_ret2
    exact saysIB rfl (below_drewN (Below.refl _ _) _)
set_option maxRecDepth 100000 in
set_option maxHeartbeats 4000000 in
theorem implPick_yes (v : Value) (L : List Int) (l d : Nat) (w : World) (hv : IL w v L) (n1 : 1 ≤ L.length) (n2 : L.length ≤ 64) (hd : L.length = l + d) (hd1 : 1 ≤ d) :
    Calls Try.prog 47 #[v, .int .i64 l] w (SaysIB (pkF L l d l : Nat) true w) := by
  have T := Lib.hid (show (decide (1 ≤ (L.length : Int)) && decide ((L.length : Int) ≤ 64)) = true by simp; omega)
  have T2 := Lib.hid (show inB (l : Int) 0 ((L.length : Int) - 1) = true by unfold inB; simp; omega)
  obtain ⟨G, hG⟩ : ∃ G, pkF L l d l = G := ⟨_, rfl⟩
  rw [hG]
  have HG := Lib.hid hG
  rcases hv with ⟨hz, -⟩ | ⟨b, off, cap, rfl, hpos, hbl, hcell⟩
  · rw [hz] at n1; simp at n1
  have HC := Lib.hid hcell
  have HD := Lib.hid hd
  have hcap : ¬ L.length + cap = l := by omega
  have hl1 : l ≤ L.length := by omega
  have hl2 : l ≤ L.length + cap := by omega
  have hl3 : l + d ≤ 64 := by omega
  clear hcell hG hd
  go_enter Try.func47, Try.ntmps47
  go_wp2_with fail
  go_at_call 54; refine (isFrom_is true _ 1 64 _ T.out).mono ?_; rintro e w' ⟨rfl, m, rfl⟩
  go_wp2_with fail
  go_at_call 79; refine (isIndex_in true _ (l : Int) _ (by omega) (by omega) T2.out).mono ?_; rintro e w' ⟨rfl, m2, rfl⟩
  go_wp2_with fail
  have e0 : L.length - l = d := by have := HD.out; omega
  rw [e0]
  clear e0
  go_loopg [24] d (fun gk i wr => ∃ k : Nat, k ≤ d ∧ gk + k = d ∧ i = .int .i64 k ∧ pkF L l gk (l + k) = G ∧ Below w.heap.size w wr)
  case atStart => exact ⟨0, Nat.zero_le _, by omega, rfl, HG.out, below_drewN (Below.refl _ _) _⟩
  case round =>
    obtain ⟨k, hk, hgk, rfl, hpk, hwr⟩ := hrel
    have HW := Lib.hid hwr
    have HPK := Lib.hid hpk
    have hbw : b < wr.heap.size := Nat.lt_of_lt_of_le hbl hwr.size
    clear hpk
    by_cases hlt : k < d
    · obtain ⟨g, rfl⟩ : ∃ g, gk = g + 1 := ⟨gk - 1, by omega⟩
      have c1 : wr.cell? ⟨b, off + l + k, none⟩ = some (.int .i64 (L.getD (l + k) 0)) := by
        rw [hwr.cell (p := ⟨b, off + l + k, none⟩) hbl, Nat.add_assoc]
        exact HC.out (l + k) (by have := HD.out; omega)
      have HAT := Lib.hid (any_take (L := L) (l := l) (i := l + k) hl1)
      obtain ⟨x, hx⟩ : ∃ x, x = L.getD (l + k) 0 := ⟨_, rfl⟩
      rw [← hx] at c1 HAT
      have X0 := Lib.hid (World.cell?_alloc_new wr #[.int .i64 x] 2 0)
      have BX := Lib.hid (HW.out.trans ((below_alloc wr (.cells #[.int .i64 x] 2)).mono HW.out.size))
      have HT := Lib.hid (il_take (w := wr.alloc (.cells #[.int .i64 x] 2)) (cap := cap) (l := l) (fun i hi => by rw [BX.out.cell (p := ⟨b, off + i, none⟩) hbl]; exact HC.out i hi) (Nat.lt_of_lt_of_le hbl BX.out.size) hl1)
      have HLL : Hid ((L.take l).length ≤ 1048576) := Lib.hid (by rw [List.length_take]; omega)
      have WS : Hid (wr.heap.size < (wr.alloc (.cells #[.int .i64 x] 2)).heap.size) := Lib.hid (by simp)
      clear hwr hx
      go_wp2_with fail
      go_at_call 80; refine (ctPkC_any (fun y => decide (x ≤ y)) wr.heap.size _ (L.take l) _ HT.out HLL.out (fun j w' _ hb => pkCl_any _ x _ w' (by rw [hb.cell (p := ⟨wr.heap.size, 0, none⟩) WS.out]; exact X0.out))).mono ?_; rintro e w1 ⟨rfl, b1⟩
      have B2 := Lib.hid (BX.out.trans (b1.mono BX.out.size))
      rw [HAT.out]
      clear b1 c1
      cases q : grB L l (l + k) with
      | true =>
        have HY := Lib.hid ((pkF_yes (g := g) q).symm.trans HPK.out)
        clear q
        have ws : IntKind.i64.wrap ((l : Int) + (k : Int)) = (l : Int) + (k : Int) := IntWalk.i64_in _ (by omega)
        go_wp2_with fail
        go_ret2
        exact saysIB (by rw [← HY.out]; omega) B2.out
      | false =>
        have HY := Lib.hid ((pkF_no (g := g) q).symm.trans HPK.out)
        clear q
        go_wp2_with fail
        go_roundg g
        case measure => omega
        case rel => exact ⟨k + 1, by omega, by omega, by go_num, HY.out, B2.out⟩
    · obtain rfl : k = d := by omega
      obtain rfl : gk = 0 := by omega
      have HY : Hid (((L.length - 1 : Nat) : Int) = (G : Int)) := Lib.hid (by rw [← HPK.out]; rfl)
      clear hwr
      go_wp2_with fail
      go_ret2
      exact saysIB (by rw [← HY.out]; omega) HW.out
theorem implPickAfter_any (v : Value) (L : List Int) (l : Int) (w : World) (hv : IL w v L) (o : OKI L) (_ : -9223372036854775808 ≤ l ∧ l ≤ 9223372036854775807) :
    Calls Try.prog 47 #[v, .int .i64 l] w (SaysIB (pkI L l) (pkB L l) w) := by
  cases h : pkB L l with
  | false => rw [pkI_no h]; exact implPick_no v L l w hv o.size h
  | true =>
    obtain ⟨n1, n2, hl, hlt⟩ := pkB_ok h
    rw [pkI_yes h]
    have := implPick_yes v L l.toNat (L.length - l.toNat) w hv n1 n2 (by omega) (by omega)
    rw [← hl] at this
    exact this
end Go.Proofs.Ytgiijkbgbpohoaa
