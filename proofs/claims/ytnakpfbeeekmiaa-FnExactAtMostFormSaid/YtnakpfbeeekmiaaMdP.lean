/- Sets of clauses that do not hold: the program's side. -/
import Derived.Test.YtnakpfbeeekmiaaVf
import Derived.Test.YtnakpfbeeekmiaaMd0
import Derived.Test.YtnakpfbeeekmiaaRowA
import Derived.IntWalk
import Derived.Laws.BitsAll
import Derived.Laws.ShiftsVar
namespace Go.Proofs.Ytnakpfbeeekmiaa
open Go.RowKit Go.ChangeShapes Go.WideShapes

theorem i64_and62 (a b : Nat) (ha : a < 4611686018427387904) (hb : b < 4611686018427387904) : bits .and .i64 (a : Int) (b : Int) = ((a &&& b : Nat) : Int) := by
  have hx : a &&& b ≤ a := Nat.and_le_left
  show IntKind.i64.wrap ((BitVec.ofInt 64 (a : Int) &&& BitVec.ofInt 64 (b : Int)).toNat : Int) = _
  rw [BitVec.toNat_and, ofInt_u64 a (by omega), ofInt_u64 b (by omega)]
  exact IntWalk.i64_in _ (by omega)
theorem i64_or62 (a b : Nat) (ha : a < 4611686018427387904) (hb : b < 4611686018427387904) : bits .or .i64 (a : Int) (b : Int) = ((a ||| b : Nat) : Int) := by
  have hx : a ||| b < 2 ^ 62 := Nat.or_lt_two_pow (n := 62) (by simpa using ha) (by simpa using hb)
  show IntKind.i64.wrap ((BitVec.ofInt 64 (a : Int) ||| BitVec.ofInt 64 (b : Int)).toNat : Int) = _
  rw [BitVec.toNat_or, ofInt_u64 a (by omega), ofInt_u64 b (by omega)]
  exact IntWalk.i64_in _ (by omega)
theorem pow_cast (d : Nat) : ((2 ^ d : Nat) : Int) = (2 : Int) ^ d := by simp
theorem pow10 {L : Nat} (h : L ≤ 10) : 1 ≤ 2 ^ L ∧ 2 ^ L ≤ 1024 := by
  have h1 : 2 ^ L ≤ 2 ^ 10 := Nat.pow_le_pow_right (by omega) h
  have h2 : 0 < 2 ^ L := Nat.two_pow_pos L
  omega
theorem digitOf_is (n a : Int) (L A : Nat) (w : World) (hn : n = (L : Int)) (ha : a = (A : Int)) (h1 : A ≤ L) (h2 : L ≤ 10) :
    Calls Try.prog 110 #[.int .i64 n, .int .i64 a] w (fun e w' => e = .returned (.int .i64 ((2 ^ (L - A) : Nat) : Int)) ∧ w = w') := by
  obtain ⟨p1, p2⟩ := pow10 (L := L - A) (by omega)
  have e : (n - a).toNat = L - A := by omega
  have e0 : 0 ≤ n - a := by omega
  have q1 : (1 : Int) ≤ 2 ^ (n - a).toNat := by rw [e, ← pow_cast]; omega
  have q2 : (2 : Int) ^ (n - a).toNat ≤ 1024 := by rw [e, ← pow_cast]; omega
  have HE : Hid ((2 : Int) ^ (n - a).toNat = ((2 ^ (L - A) : Nat) : Int)) := Lib.hid (by rw [e, pow_cast])
  have b1 : n ≤ 10 := by omega
  have b2 : 0 ≤ a := by omega
  have b3 : 0 ≤ n := by omega
  have b4 : a ≤ 10 := by omega
  clear hn ha e p1 p2 h1
  go_enter Try.func110, Try.ntmps110
  go_wp2
  go_ret
  exact ⟨ret_int HE.out, rfl⟩
theorem countOfValues_is (n : Int) (L : Nat) (w : World) (hn : n = (L : Int)) (h2 : L ≤ 10) :
    Calls Try.prog 134 #[.int .i64 n] w (fun e w' => e = .returned (.int .i64 ((2 ^ L : Nat) : Int)) ∧ w = w') := by
  obtain ⟨p1, p2⟩ := pow10 h2
  have e : n.toNat = L := by omega
  have q1 : (1 : Int) ≤ 2 ^ n.toNat := by rw [e, ← pow_cast]; omega
  have q2 : (2 : Int) ^ n.toNat ≤ 1024 := by rw [e, ← pow_cast]; omega
  have HE : Hid ((2 : Int) ^ n.toNat = ((2 ^ L : Nat) : Int)) := Lib.hid (by rw [e, pow_cast])
  have b1 : n ≤ 10 := by omega
  have b3 : 0 ≤ n := by omega
  clear hn e p1 p2
  go_enter Try.func134, Try.ntmps134
  go_wp2
  go_ret
  exact ⟨ret_int HE.out, rfl⟩
theorem ret_ii {a b c d : Int} (h : a = b) (k : c = d) : Ending.returned (.tuple #[.int .i64 a, .int .i64 c]) = .returned (.tuple #[.int .i64 b, .int .i64 d]) := by rw [h, k]
set_option maxHeartbeats 4000000 in
/-- The digits of literals: of different letters from 1 to n. -/
theorem digitsOf_any (n : Int) (v : Value) (c : List Int) (w : World) (hv : IL w v c) (hn : c.length ≤ 1048576) (n1 : 1 ≤ n) (n2 : n ≤ 10) (ha : ∀ i, i < c.length → 1 ≤ ltr (c.getD i 0) ∧ ltr (c.getD i 0) ≤ n) :
    Calls Try.prog 135 #[.int .i64 n, v] w (fun e w' => e = .returned (.tuple #[.int .i64 (plainK n.toNat c c.length : Nat), .int .i64 (turnK n.toNat c c.length : Nat)]) ∧ w = w') := by
  obtain ⟨L, rfl⟩ : ∃ L : Nat, n = (L : Int) := ⟨n.toNat, by omega⟩
  rw [Int.toNat_natCast]
  have hb : ∀ i, i < c.length → 1 ≤ (ltr (c.getD i 0)).toNat ∧ (ltr (c.getD i 0)).toNat ≤ L := fun i hi => by have := ha i hi; omega
  obtain ⟨p1, p2⟩ := pow10 (L := L) (by omega)
  rcases hv with ⟨rfl, ao, cap, rfl⟩ | ⟨b, off, cap, rfl, hpos, hbl, hcell⟩
  · clear ha hb
    go_enter Try.func135, Try.ntmps135
    go_wp2_with fail
    refine wp_loop_rounds 1 ?_
    rw [rounds_succ]
    go_wp2
    go_ret2
    exact ⟨rfl, rfl⟩
  have HC := Lib.hid hcell
  have HA := Lib.hid ha
  have HP := Lib.hid (fun k hk => plain_lt hb k hk)
  have HT := Lib.hid (fun k hk => turn_lt hb k hk)
  clear hcell ha hb
  go_enter Try.func135, Try.ntmps135
  go_wp2_with fail
  go_loopg [4, 5, 10] c.length (fun gk s4 s5 i wr => ∃ k : Nat, k ≤ c.length ∧ gk + k = c.length ∧ i = .int .i64 k ∧ s4 = .int .i64 (plainK L c k : Nat) ∧ s5 = .int .i64 (turnK L c k : Nat) ∧ w = wr)
  case atStart => exact ⟨0, Nat.zero_le _, by omega, rfl, rfl, rfl, rfl⟩
  case round =>
    obtain ⟨k, hk, hgk, rfl, rfl, rfl, rfl⟩ := hrel
    have hp := HP.out k hk
    have ht := HT.out k hk
    by_cases hlt : k < c.length
    · have c0 := HC.out k hlt
      obtain ⟨a1, a2⟩ := HA.out k hlt
      obtain ⟨x, hx⟩ : ∃ x, x = c.getD k 0 := ⟨_, rfl⟩
      rw [← hx] at c0 a1 a2
      by_cases hpos' : 0 < x
      · have HN1 : Hid (plainK L c (k + 1) = plainK L c k ||| 2 ^ (L - x.toNat)) := Lib.hid (by
          have : ltr x = x := by unfold ltr; rw [if_neg (by omega)]
          show (if 0 < c.getD k 0 then _ else _) = _
          rw [← hx, if_pos hpos', this])
        have HN2 : Hid (turnK L c (k + 1) = turnK L c k) := Lib.hid (by
          show (if 0 < c.getD k 0 then _ else _) = _
          rw [← hx, if_pos hpos'])
        have hl : ltr x = x := by unfold ltr; rw [if_neg (by omega)]
        rw [hl] at a1 a2
        have hq := pow10 (L := L - x.toNat) (by omega)
        have hor := i64_or62 (plainK L c k) (2 ^ (L - x.toNat)) (by omega) (by omega)
        generalize plainK L c k = P at hp HN1 hor
        generalize turnK L c k = T at ht HN2
        have hlt' : (k : Int) < (c.length : Int) := by omega
        have HOR := Lib.hid hor
        have hxn : x = (x.toNat : Int) := by omega
        have HXN := Lib.hid hxn
        have HLE : Hid (x.toNat ≤ L) := Lib.hid (by omega)
        generalize hD : 2 ^ (L - x.toNat) = D at HN1 hor hq HOR
        have HDD := Lib.hid hD
        clear hx hD hxn hor
        go_wp2_with fail
        go_at_call 110; refine (digitOf_is (L : Int) x L x.toNat _ rfl HXN.out HLE.out (by omega)).mono ?_; rintro e w' ⟨rfl, rfl⟩
        rw [HDD.out]
        have hor := HOR.out
        go_wp2_with fail
        go_roundg (gk - 1)
        case measure => omega
        case rel => exact ⟨k + 1, by omega, by omega, by go_num, by rw [HN1.out], by rw [HN2.out], rfl⟩
      · have hl : ltr x = -x := by
          unfold ltr
          by_cases h0 : x = 0
          · subst h0; rfl
          · rw [if_pos (by omega)]
        have HN1 : Hid (plainK L c (k + 1) = plainK L c k) := Lib.hid (by
          show (if 0 < c.getD k 0 then _ else _) = _
          rw [← hx, if_neg hpos'])
        have HN2 : Hid (turnK L c (k + 1) = turnK L c k ||| 2 ^ (L - (-x).toNat)) := Lib.hid (by
          show (if 0 < c.getD k 0 then _ else _) = _
          rw [← hx, if_neg hpos', hl])
        rw [hl] at a1 a2
        have hq := pow10 (L := L - (-x).toNat) (by omega)
        have hor := i64_or62 (turnK L c k) (2 ^ (L - (-x).toNat)) (by omega) (by omega)
        generalize plainK L c k = P at hp HN1
        generalize turnK L c k = T at ht HN2 hor
        have hlt' : (k : Int) < (c.length : Int) := by omega
        have hwx : IntKind.i64.wrap (-x) = -x := IntWalk.i64_in _ (by omega)
        have HOR := Lib.hid hor
        have HXN : Hid (-x = ((-x).toNat : Int)) := Lib.hid (by omega)
        have HLE : Hid ((-x).toNat ≤ L) := Lib.hid (by omega)
        generalize hD : 2 ^ (L - (-x).toNat) = D at HN2 hor hq HOR
        have HDD := Lib.hid hD
        clear hx hD hor
        go_wp2_with fail
        go_at_call 110; refine (digitOf_is (L : Int) (-x) L (-x).toNat _ rfl HXN.out HLE.out (by omega)).mono ?_; rintro e w' ⟨rfl, rfl⟩
        rw [HDD.out]
        have hor := HOR.out
        go_wp2_with fail
        go_roundg (gk - 1)
        case measure => omega
        case rel => exact ⟨k + 1, by omega, by omega, by go_num, by rw [HN1.out], by rw [HN2.out], rfl⟩
    · obtain rfl : k = c.length := by omega
      go_wp2_with fail
      go_ret2
      exact ⟨rfl, rfl⟩
/-- A form that is valid, in numbers. -/
structure FmN (F : Fm) (L : Nat) : Prop where
  ok : FormOk F
  n : F.letters = (L : Int)
  L1 : 1 ≤ L
  L2 : L ≤ 10
  p1 : 1 ≤ 2 ^ L
  p2 : 2 ^ L ≤ 1024
theorem FormOk.num {F : Fm} (h : FormOk F) : FmN F F.letters.toNat := by
  have h1 := h.n1
  have h2 := h.n2
  have h3 := pow10 (L := F.letters.toNat) (by omega)
  exact ⟨h, by omega, by omega, by omega, h3.1, h3.2⟩
theorem FmN.cl {F : Fm} {L : Nat} (h : FmN F L) {k : Nat} (hk : k < F.cs.length) : ClOk (L : Int) (F.cs.getD k []) := by rw [← h.n]; exact h.ok.cl k hk
theorem fail62 {L k : Nat} (C : List (List Int)) (n : Nat) (hk : k ≤ 48) : failK L C n k < 4611686018427387904 := by
  have h1 := failK_lt L C n k
  have h2 : 2 ^ k ≤ 2 ^ 48 := Nat.pow_le_pow_right (by omega) hk
  have h3 : (2 : Nat) ^ 48 = 281474976710656 := by decide
  omega
theorem pow48 {k : Nat} (hk : k < 48) : 1 ≤ 2 ^ k ∧ 2 ^ k ≤ 140737488355328 := by
  have h2 : 2 ^ k ≤ 2 ^ 47 := Nat.pow_le_pow_right (by omega) (by omega)
  have h1 : 0 < 2 ^ k := Nat.two_pow_pos k
  have h3 : (2 : Nat) ^ 47 = 140737488355328 := by decide
  omega
theorem Arr.made_i2 {w : World} {n b B e : Nat} (h : w.ownsRow b e 1 (.slice (some ⟨B, 0, none⟩) n n) n (madeCells (Value.int .i64 0).cells (n * 1)).toList) : Arr (Value.int .i64) 0 w B 0 (List.replicate n 0) := by
  refine ⟨fun i hi => ?_, h.frozenAt⟩
  rw [List.length_replicate] at hi
  rw [Nat.zero_add, h.cellAt i (by omega)]
  rcases made_one (.int .i64 0) n hi with h1 | h1
  · rw [h1]; simp [Value.cells, List.getD, hi]
  · exact absurd rfl h1
/-- A row that is made behind a box. -/
structure RowBox (w : World) (x y : Value) (Z : List Int) (wr : World) : Prop where
  row : RowAt w (w.heap.size + 1) Z wr
  box : Box2 wr w.heap.size x y
theorem RowBox.made {w w1 : World} {x y : Value} {T e b n : Nat} (hown : w1.ownsRow b e 1 (.slice (some ⟨(w.alloc (.cells #[x, y] T)).heap.size, 0, none⟩) n n) n (madeCells (Value.int .i64 0).cells (n * 1)).toList) (hgrow : (w.alloc (.cells #[x, y] T)).grownBy w1 none) : RowBox w x y (List.replicate n 0) w1 := by
  have bm := (Below.refl (w.alloc (.cells #[x, y] T)).heap.size (w.alloc (.cells #[x, y] T))).grown hgrow (Nat.le_refl _) (fun g hg => by cases hg)
  have ha := Arr.made_i2 hown
  have hl := (hown.lt _ rfl).2
  rw [show (w.alloc (.cells #[x, y] T)).heap.size = w.heap.size + 1 by simp] at ha hl bm
  exact ⟨⟨(below_alloc w _).trans (bm.mono (by omega)), hl, Nat.le_succ _, ha⟩, (Box2.mk' w x y T).keep bm (Nat.lt_succ_self _)⟩
theorem RowBox.drew {w wr : World} {x y : Value} {Z : List Int} (h : RowBox w x y Z wr) (n : Nat) : RowBox w x y Z (wr.drewN n) := ⟨h.row.drew n, h.box.keep (below_drewN (Below.refl _ _) n) h.box.lt⟩
theorem RowBox.set {w wr : World} {x y : Value} {Z : List Int} (h : RowBox w x y Z wr) {i : Nat} (hi : i < Z.length) (u : Int) : RowBox w x y (Z.set i u) (wr.setCell ⟨w.heap.size + 1, i, none⟩ (.int .i64 u)) :=
  ⟨h.row.set hi u, h.box.keep ((Below.refl (w.heap.size + 1) wr).setCell (p := ⟨w.heap.size + 1, i, none⟩) (Nat.le_refl _) _) (Nat.lt_succ_self _)⟩
theorem RowBox.to {w wr : World} {x y : Value} {Z Y : List Int} (h : RowBox w x y Z wr) (e : Z = Y) : RowBox w x y Y wr := e ▸ h
theorem RowBox.made' {w wr : World} {x y : Value} {Z : List Int} (h : RowBox w x y Z wr) : II w.heap.size wr.heap.size wr (.slice (some ⟨w.heap.size + 1, 0, none⟩) Z.length Z.length) Z := h.row.arr.si (lo := w.heap.size) (Nat.le_succ _) h.row.lt
def failMix (L : Nat) (C : List (List Int)) (k m : Nat) : List Int := mix (fun n => (failK L C n k : Int)) (fun n => (failK L C n (k + 1) : Int)) (2 ^ L) m
theorem failMix_len (L : Nat) (C : List (List Int)) (k m : Nat) : (failMix L C k m).length = 2 ^ L := mix_len _ _ _ _
theorem failMix_zero (L : Nat) (C : List (List Int)) (k : Nat) : failL L C k = failMix L C k 0 := (mix_zero _ _ _).symm
theorem failMix_end (L : Nat) (C : List (List Int)) (k : Nat) : failMix L C k (2 ^ L) = failL L C (k + 1) := mix_end (Nat.le_refl _)
theorem failMix_at {L : Nat} {C : List (List Int)} {k m : Nat} (h : m < 2 ^ L) : (failMix L C k m).getD m 0 = (failK L C m k : Int) := by unfold failMix; rw [mix_at h, if_pos (Nat.le_refl _)]
theorem failMix_up {L : Nat} {C : List (List Int)} {k m : Nat} (h : holdsC L m (C.getD k []) = false) : (failMix L C k m).set m ((failK L C m k ||| 2 ^ k : Nat) : Int) = failMix L C k (m + 1) := by
  rw [← fail_up h]
  exact mix_up
theorem failMix_same {L : Nat} {C : List (List Int)} {k m : Nat} (h : holdsC L m (C.getD k []) = true) : failMix L C k m = failMix L C k (m + 1) := mix_same (by rw [fail_same h])
set_option maxRecDepth 100000 in
set_option maxHeartbeats 8000000 in
theorem failsOf_any (v : Value) (F : Fm) (L : Nat) (w : World) (hv : FmV w v F) (o : OKFm F) (h : FmN F L) :
    Calls Try.prog 123 #[v] w (Made (Value.int .i64) (0 : Int) (failL L F.cs F.cs.length) w) := by
  obtain ⟨i0, hi, hz0, hz1, hz2⟩ := info_parts Try.infoI
  obtain ⟨s1, rfl, g1⟩ := hv
  have HH := Lib.hid h
  have hfew := h.ok.few
  have p1 := h.p1
  have p2 := h.p2
  have L2 := h.L2
  rw [h.n]
  obtain ⟨N, hN⟩ : ∃ N, N = 2 ^ L := ⟨_, rfl⟩
  have HNN := Lib.hid hN
  rw [← hN] at p1 p2
  have hlt0 : (N : Int) ≤ 1024 := by omega
  clear h
  rcases g1 with ⟨hz, ao, cap, rfl⟩ | ⟨b, off, cap, U, rfl, hpos, hbl, hcell⟩
  · have HZ : Hid (failL L F.cs F.cs.length = List.replicate N 0) := Lib.hid (by rw [hz]; unfold failL; rw [← hN]; exact (rep_allF (z := 0) fun x hx => rfl).symm)
    clear hz hN
    go_enter Try.func123, Try.ntmps123
    go_wp2_with fail
    go_at_call 134; refine (countOfValues_is (L : Int) L _ rfl L2).mono ?_; rintro e w' ⟨rfl, rfl⟩
    rw [← HNN.out]
    go_wp2_with (at_make; refine wpList_make_full _ rfl _ _ 25 rfl w.heap.size 2 i0 (.int .i64 0) 1 Try.underlying25 hi hz0 hz1 _ _ _ _ N rfl rfl rfl rfl (by rw [hz2]; omega) (by unfold maxLen; omega) (by simp) ?_; intro w1 hown hgrow; have hA := RowBox.made hown hgrow; have HA := Lib.hid hA; obtain ⟨c0, c1⟩ := hA.box; clear hown hgrow hA)
    go_wp2_with fail
    refine wp_loop_rounds 1 ?_
    rw [rounds_succ]
    go_wp2
    refine bodyPost_ret (results_tmp rfl _ _ _) rfl ?_
    have hs := HA.out.made'
    rw [List.length_replicate] at hs
    exact ⟨_, rfl, by rw [HZ.out]; exact hs, HA.out.row.below⟩
  have HC := Lib.hid hcell
  have HZ : Hid (List.replicate N 0 = failL L F.cs 0) := Lib.hid (by unfold failL; rw [← hN]; exact rep_allF (z := 0) fun x hx => rfl)
  have OK := Lib.hid o.okl
  have HLN : Hid (∀ k, (failL L F.cs k).length = N) := Lib.hid fun k => by rw [failL_len, hN]
  have HMN : Hid (∀ k m, (failMix L F.cs k m).length = N) := Lib.hid fun k m => by rw [failMix_len, hN]
  clear hN hcell
  go_enter Try.func123, Try.ntmps123
  go_wp2_with fail
  go_at_call 134; refine (countOfValues_is (L : Int) L _ rfl L2).mono ?_; rintro e w' ⟨rfl, rfl⟩
  rw [← HNN.out]
  go_wp2_with (at_make; refine wpList_make_full _ rfl _ _ 25 rfl w.heap.size 2 i0 (.int .i64 0) 1 Try.underlying25 hi hz0 hz1 _ _ _ _ N rfl rfl rfl rfl (by rw [hz2]; omega) (by unfold maxLen; omega) (by simp) ?_; intro w1 hown hgrow; have hA := RowBox.made hown hgrow; have HA := Lib.hid (RowBox.to hA HZ.out); obtain ⟨c0, c1⟩ := hA.box; clear hown hgrow hA)
  go_wp2_with fail
  clear c0 c1
  go_loopg [16] F.cs.length (fun gk i wr => ∃ k : Nat, k ≤ F.cs.length ∧ gk + k = F.cs.length ∧ i = .int .i64 k ∧ RowBox w (.int .i64 L) (.slice (some ⟨b, off, none⟩) F.cs.length (F.cs.length + cap)) (failL L F.cs k) wr)
  case atStart => exact ⟨0, Nat.zero_le _, by omega, rfl, HA.out⟩
  case round =>
    clear HA
    obtain ⟨k, hk, hgk, rfl, hA⟩ := hrel
    have HA := Lib.hid hA
    by_cases hlt : k < F.cs.length
    · obtain ⟨c0, c1⟩ := hA.box
      have d0 : wr.cell? ⟨b, off + k, none⟩ = some (U k) := by rw [hA.row.below.cell (p := ⟨b, off + k, none⟩) hbl]; exact (HC.out k hlt).1
      have HI := Lib.hid ((HC.out k hlt).2.below hA.row.below (Nat.le_refl _))
      have CL := HH.out.cl hlt
      have HCL := Lib.hid CL
      have hts := Lib.hid (fun m => test_holds CL m)
      have hnat : (L : Int).toNat = L := Int.toNat_natCast L
      rw [hnat] at hts
      have hpl : plainK L (F.cs.getD k []) (F.cs.getD k []).length < N := by rw [HNN.out]; exact plain_lt (fun i hi => by have := CL.nat hi; rw [hnat] at this; exact this) _ (Nat.le_refl _)
      have htl : turnK L (F.cs.getD k []) (F.cs.getD k []).length < N := by rw [HNN.out]; exact turn_lt (fun i hi => by have := CL.nat hi; rw [hnat] at this; exact this) _ (Nat.le_refl _)
      generalize U k = u at d0 HI
      have L1 := HH.out.L1
      clear hA CL hnat
      go_wp2_with fail
      go_at_call 135; refine (digitsOf_any (L : Int) u (F.cs.getD k []) _ HI.out (OK.out.short k) (by omega) (by omega) HCL.out.a).mono ?_; rintro e w' ⟨rfl, rfl⟩
      rw [Int.toNat_natCast]
      obtain ⟨P, hP⟩ : ∃ P, P = plainK L (F.cs.getD k []) (F.cs.getD k []).length := ⟨_, rfl⟩
      obtain ⟨T, hT⟩ : ∃ T, T = turnK L (F.cs.getD k []) (F.cs.getD k []).length := ⟨_, rfl⟩
      rw [← hP] at hpl hts ⊢
      rw [← hT] at htl hts ⊢
      have hor : bits .or .i64 (P : Int) (T : Int) = ((P ||| T : Nat) : Int) := i64_or62 P T (by omega) (by omega)
      have HOR := Lib.hid hor
      have hq : P ||| T < 4611686018427387904 := by
        have : P ||| T < 2 ^ 10 := Nat.or_lt_two_pow (by omega) (by omega)
        omega
      clear hP hT c0 c1 d0
      go_wp2_with fail
      obtain ⟨g0, rfl⟩ : ∃ x : Nat, x = gk := ⟨_, rfl⟩
      go_loopg [30] N (fun gk i w' => ∃ m : Nat, m ≤ N ∧ gk + m = N ∧ i = .int .i64 m ∧ RowBox w (.int .i64 L) (.slice (some ⟨b, off, none⟩) F.cs.length (F.cs.length + cap)) (failMix L F.cs k m) w')
      case atStart => exact ⟨0, Nat.zero_le _, by omega, rfl, by rw [← failMix_zero]; exact HA.out⟩
      case round =>
        clear HA
        obtain ⟨m, hm, hgm, rfl, hA⟩ := hrel
        have HA := Lib.hid hA
        by_cases hmt : m < N
        · have hand : bits .and .i64 (m : Int) ((P ||| T : Nat) : Int) = ((m &&& (P ||| T) : Nat) : Int) := i64_and62 m (P ||| T) (by omega) hq
          have hmt2 : (m : Int) < (N : Int) := by omega
          cases hh : holdsC L m (F.cs.getD k []) with
          | true =>
            have ht : ((m &&& (P ||| T) : Nat) : Int) ≠ (T : Int) := by
              have := hts.out m
              rw [hh] at this
              simp only [Bool.not_true, decide_eq_false_iff_not] at this
              omega
            have hte : (((m &&& (P ||| T) : Nat) : Int) == (T : Int)) = false := beq_false_of_ne ht
            have HN := Lib.hid (failMix_same (L := L) (C := F.cs) (k := k) (m := m) hh)
            generalize hQ : P ||| T = Q at hor hand hte hq
            generalize hR : m &&& Q = R at hand hte
            clear hA ht hQ hR hh
            go_wp2_with fail
            go_roundg (gk - 1)
            case measure => omega
            case rel => exact ⟨m + 1, by omega, by omega, by go_num, by rw [← HN.out]; exact HA.out⟩
          | false =>
            have ht : ((m &&& (P ||| T) : Nat) : Int) = (T : Int) := by
              have := hts.out m
              rw [hh] at this
              simp only [Bool.not_false, decide_eq_true_eq] at this
              omega
            have hte : (((m &&& (P ||| T) : Nat) : Int) == (T : Int)) = true := by rw [beq_iff_eq]; exact ht
            have hmN : m < (failMix L F.cs k m).length := by rw [HMN.out]; exact hmt
            have r0 : wr.cell? ⟨w.heap.size + 1, m, none⟩ = some (.int .i64 (failK L F.cs m k : Nat)) := by rw [hA.row.cell hmN, failMix_at (by rw [← HNN.out]; exact hmt)]
            have f0 : wr.frozen? ⟨w.heap.size + 1, m, none⟩ = false := hA.row.arr.free m
            have hf := fail62 (L := L) (k := k) F.cs m (by omega)
            obtain ⟨k1, k2⟩ := pow48 (k := k) (by omega)
            have hor2 : bits .or .i64 (failK L F.cs m k : Nat) ((2 ^ k : Nat) : Int) = ((failK L F.cs m k ||| 2 ^ k : Nat) : Int) := i64_or62 _ _ hf (by omega)
            have HN : Hid (RowBox w (.int .i64 L) (.slice (some ⟨b, off, none⟩) F.cs.length (F.cs.length + cap)) (failMix L F.cs k (m + 1)) (wr.setCell ⟨w.heap.size + 1, m, none⟩ (.int .i64 (failK L F.cs m k ||| 2 ^ k : Nat)))) := Lib.hid ((hA.set hmN _).to (failMix_up hh))
            generalize hQ : P ||| T = Q at hor hand hte hq
            generalize hR : m &&& Q = R at hand hte
            generalize failK L F.cs m k = fk at r0 hf hor2 HN
            rw [pow_cast] at hor2
            have q1 : (1 : Int) ≤ 2 ^ k := by rw [← pow_cast]; omega
            have q2 : (2 : Int) ^ k ≤ 140737488355328 := by rw [← pow_cast]; omega
            generalize fk ||| 2 ^ k = fn at hor2 HN
            clear hA ht hQ hR hh k1 k2
            go_wp2_with fail
            go_region
            all_goals
              go_wp2_with fail
              go_roundg (gk - 1)
              case measure => omega
              case rel => exact ⟨m + 1, by omega, by omega, by go_num, HN.out.drew 1⟩
        · obtain rfl : m = N := by omega
          have HE : Hid (failMix L F.cs k m = failL L F.cs (k + 1)) := Lib.hid (by rw [HNN.out]; exact failMix_end L F.cs k)
          clear hA
          go_wp2_with fail
          go_roundg (g0 - 1)
          case measure => omega
          case rel => exact ⟨k + 1, by omega, by omega, by go_num, by rw [← HE.out]; exact HA.out⟩
    · obtain rfl : k = F.cs.length := by omega
      clear hA
      go_wp2_with fail
      refine bodyPost_ret (results_tmp rfl _ _ _) rfl ?_
      have hs := HA.out.made'
      rw [HLN.out] at hs
      exact ⟨_, rfl, hs, HA.out.row.below⟩
end Go.Proofs.Ytnakpfbeeekmiaa
