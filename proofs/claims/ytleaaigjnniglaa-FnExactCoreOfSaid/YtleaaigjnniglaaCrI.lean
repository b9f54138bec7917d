/- Clauses that have no model together: what the program calls. -/
import Derived.Test.YtleaaigjnniglaaCr0
import Derived.Test.YtleaaigjnniglaaHoI
namespace Go.Proofs.Ytleaaigjnniglaa
open Go.RowKit Go.ChangeShapes Go.WideShapes

theorem cr_and_not (a b : Nat) (ha : a < 2 ^ 64) (hb : b < 2 ^ 64) : a &&& (2 ^ 64 - 1 - b) = a ^^^ (a &&& b) := by
  apply Nat.eq_of_testBit_eq
  intro i
  rw [show 2 ^ 64 - 1 - b = 2 ^ 64 - (b + 1) by omega]
  rw [Nat.testBit_and, Nat.testBit_two_pow_sub_succ hb, Nat.testBit_xor, Nat.testBit_and]
  by_cases hi : i < 64
  · simp only [hi, decide_true, Bool.true_and]
    cases a.testBit i <;> cases b.testBit i <;> rfl
  · have h1 : a.testBit i = false := Nat.testBit_lt_two_pow (Nat.lt_of_lt_of_le ha (Nat.pow_le_pow_right (by omega) (by omega)))
    rw [h1]; simp
theorem i64_andNot62 (a b : Nat) (ha : a < 4611686018427387904) (hb : b < 4611686018427387904) : bits .andNot .i64 (a : Int) (b : Int) = ((a ^^^ (a &&& b) : Nat) : Int) := by
  have hx : a ^^^ (a &&& b) < 2 ^ 62 := Nat.xor_lt_two_pow (by omega) (Nat.lt_of_le_of_lt Nat.and_le_left (by omega))
  show IntKind.i64.wrap ((BitVec.ofInt 64 (a : Int) &&& ~~~BitVec.ofInt 64 (b : Int)).toNat : Int) = _
  rw [BitVec.toNat_and, BitVec.toNat_not, ofInt_u64 a (by omega), ofInt_u64 b (by omega), cr_and_not a b (by omega) (by omega)]
  exact IntWalk.i64_in _ (by omega)
theorem setOfAll48 (n : Int) (L : Nat) (w : World) (hn : n = (L : Int)) (h2 : L ≤ 48) :
    Calls Try.prog 78 #[.int .i64 n] w (fun e w' => e = .returned (.int .i64 ((2 ^ L - 1 : Nat) : Int)) ∧ w = w') := by
  obtain ⟨p1, p2⟩ := pow48' h2
  have e : n.toNat = L := by omega
  have q1 : (1 : Int) ≤ 2 ^ n.toNat := by rw [e, ← pow_cast]; omega
  have q2 : (2 : Int) ^ n.toNat ≤ 281474976710656 := by rw [e, ← pow_cast]; omega
  have HE : Hid ((2 : Int) ^ n.toNat - 1 = ((2 ^ L - 1 : Nat) : Int)) := Lib.hid (by rw [e, ← pow_cast]; omega)
  have b1 : n ≤ 48 := by omega
  have b3 : 0 ≤ n := by omega
  clear hn e p1 p2
  go_enter Try.func78, Try.ntmps78
  go_wp2
  go_ret
  exact ⟨ret_int HE.out, rfl⟩
theorem crCl_any (B : Nat) (x s : Nat) (w : World) (hx : x < 4611686018427387904) (hs : s < 4611686018427387904) (hc : w.cell? ⟨B, 0, none⟩ = some (.int .i64 (s : Int))) :
    Calls Try.prog 85 #[.int .i64 (x : Int), .pointer (some ⟨B, 0, none⟩)] w (Says (clearP s (x : Int)) w) := by
  have hand : bits .and .i64 (x : Int) (s : Int) = ((x &&& s : Nat) : Int) := i64_and62 x s hx hs
  have HP : Hid (clearP s (x : Int) = decide (x &&& s = 0)) := Lib.hid rfl
  generalize x &&& s = q at hand HP
  rw [HP.out]
  clear HP
  by_cases h : q = 0
  · subst h
    go_enter Try.func85, Try.ntmps85
    go_wp2_with fail
    go_ret
    exact says rfl (Below.refl _ _)
  · have hq : ((q : Int) == 0) = false := beq_false_of_ne (by omega)
    have HQ := Lib.hid h
    go_enter Try.func85, Try.ntmps85
    go_wp2_with fail
    go_ret
    exact says (by rw [decide_eq_false HQ.out]) (Below.refl _ _)
set_option maxHeartbeats 1000000 in
theorem ixCr_any (B s : Nat) (v : Value) (Z : List Int) (w : World) (hv : IL w v Z) (hn : Z.length ≤ 1048576) (hs : s < 4611686018427387904)
    (hz : ∀ k, k < Z.length → ∃ x : Nat, x < 4611686018427387904 ∧ Z.getD k 0 = (x : Int)) (hc : w.cell? ⟨B, 0, none⟩ = some (.int .i64 (s : Int))) :
    Calls Try.prog 103 #[v, .func (.func 85) #[] #[.pointer (some ⟨B, 0, none⟩)]] w (FoundP (anyI (clearP s) Z) w) := by
  have HZ := Lib.hid hz
  have hB := Lib.hid (show B < w.heap.size from cell_block hc)
  have HC0 := Lib.hid hc
  clear hz hc
  rcases hv with ⟨rfl, ao, cap, rfl⟩ | ⟨b, off, cap, rfl, hpos, hbl, hcell⟩
  · go_enter Try.func103, Try.ntmps103
    go_wp2_with fail
    refine wp_loop_rounds 1 ?_
    rw [rounds_succ]
    go_wp2
    go_ret
    exact ⟨Or.inr ⟨rfl, rfl⟩, Below.refl _ _⟩
  have HC := Lib.hid hcell
  clear hcell
  go_enter Try.func103, Try.ntmps103
  go_wp2_with fail
  go_loopg [8] Z.length (fun gk i wr => ∃ k : Nat, k ≤ Z.length ∧ gk + k = Z.length ∧ i = .int .i64 k ∧ (∀ j, j < k → clearP s (Z.getD j 0) = false) ∧ Below w.heap.size w wr)
  case atStart => exact ⟨0, Nat.zero_le _, by omega, rfl, fun j hj => by omega, Below.refl _ _⟩
  case round =>
    obtain ⟨k, hk, hgk, rfl, hall, hwr⟩ := hrel
    have HL := Lib.hid hall
    have HW := Lib.hid hwr
    clear hall
    by_cases hlt : k < Z.length
    · have c0 : wr.cell? ⟨b, off + k, none⟩ = some (.int .i64 (Z.getD k 0)) := by rw [hwr.cell (p := ⟨b, off + k, none⟩) hbl]; exact HC.out k hlt
      have HB0 : Hid (wr.cell? ⟨B, 0, none⟩ = some (.int .i64 (s : Int))) := Lib.hid (by rw [hwr.cell (p := ⟨B, 0, none⟩) hB.out]; exact HC0.out)
      obtain ⟨x, hx, hxe⟩ := HZ.out k hlt
      rw [hxe] at c0
      have HXE := Lib.hid hxe
      clear hwr hxe
      cases q : clearP s (x : Int) with
      | true =>
        have HQ := Lib.hid q
        clear q
        go_wp2_with fail
        go_at_call 85; refine (crCl_any B x s _ hx hs HB0.out).mono ?_; rintro e w1 ⟨rfl, b1⟩
        rw [HQ.out]
        have H1 := Lib.hid (HW.out.trans (b1.mono HW.out.size))
        clear b1 c0
        go_wp2_with fail
        go_ret
        exact ⟨Or.inl ⟨anyI_yes hlt (by rw [HXE.out]; exact HQ.out), k, rfl⟩, H1.out⟩
      | false =>
        have HQ := Lib.hid q
        clear q
        go_wp2_with fail
        go_at_call 85; refine (crCl_any B x s _ hx hs HB0.out).mono ?_; rintro e w1 ⟨rfl, b1⟩
        rw [HQ.out]
        have H1 := Lib.hid (HW.out.trans (b1.mono HW.out.size))
        clear b1 c0
        go_wp2_with fail
        go_roundg (gk - 1)
        case measure => omega
        case rel => exact ⟨k + 1, by omega, by omega, by go_num, fun j hj => by
          by_cases e : j = k
          · subst e; rw [HXE.out]; exact HQ.out
          · exact HL.out j (by omega), H1.out⟩
    · obtain rfl : k = Z.length := by omega
      clear hwr
      go_wp2_with fail
      go_ret
      exact ⟨Or.inr ⟨anyI_no HL.out, rfl⟩, HW.out⟩
theorem ctCr_any (B s : Nat) (v : Value) (Z : List Int) (w : World) (hv : IL w v Z) (hn : Z.length ≤ 1048576) (hs : s < 4611686018427387904)
    (hz : ∀ k, k < Z.length → ∃ x : Nat, x < 4611686018427387904 ∧ Z.getD k 0 = (x : Int)) (hc : w.cell? ⟨B, 0, none⟩ = some (.int .i64 (s : Int))) :
    Calls Try.prog 84 #[v, .func (.func 85) #[] #[.pointer (some ⟨B, 0, none⟩)]] w (Says (anyI (clearP s) Z) w) := by
  have HV := Lib.hid hv
  have HZ := Lib.hid hz
  have HC0 := Lib.hid hc
  obtain ⟨ao, cap, rfl⟩ := hv.long
  clear hv hz hc
  go_enter Try.func84, Try.ntmps84
  go_wp2_with fail
  go_at_call 103; refine (ixCr_any B s _ Z _ HV.out hn hs HZ.out HC0.out).mono ?_; rintro e w1 ⟨⟨ht, k, rfl⟩ | ⟨ht, rfl⟩, b1⟩
  · have HT := Lib.hid ht
    have H1 := Lib.hid b1
    have hk0 : (0 : Int) ≤ (k : Int) := by omega
    clear ht b1
    go_wp2_with fail
    go_ret
    exact says (by rw [HT.out]) H1.out
  · have HT := Lib.hid ht
    have H1 := Lib.hid b1
    clear ht b1
    go_wp2_with fail
    go_ret
    exact says HT.out.symm H1.out
end Go.Proofs.Ytleaaigjnniglaa
