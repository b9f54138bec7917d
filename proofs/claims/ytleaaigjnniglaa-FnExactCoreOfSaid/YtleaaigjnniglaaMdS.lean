/- Models: the model's side. -/
import Derived.Test.YtleaaigjnniglaaMdM
namespace Go.Proofs.Ytleaaigjnniglaa
open Go.RowKit Go.ChangeShapes Go.WideShapes

theorem bit_and (m d : Nat) : (m / 2 ^ d) &&& 1 = if m.testBit d then 1 else 0 := by
  rw [Nat.and_one_is_mod, Nat.testBit_eq_decide_div_mod_eq]
  by_cases h : m / 2 ^ d % 2 = 1
  · rw [decide_eq_true h, if_pos rfl, h]
  · rw [decide_eq_false h, if_neg (by simp)]; omega
theorem l05True_is (n m : Int) (x : Int) (L M A : Nat) (w : World) (hn : n = (L : Int)) (hm : m = (M : Int)) (hM : M < 1024) (hL : L ≤ 10) (ha : ltr x = (A : Int)) (h1 : 1 ≤ A) (h2 : A ≤ L) :
    Calls Try.prog 94 #[.int .i64 n, .int .i64 m, .int .i64 x] w (fun e w' => e = .returned (.bool (litT L M x)) ∧ w = w') := by
  have hx1 : -9223372036854775808 < x := by unfold ltr at ha; split at ha <;> omega
  have hx2 : x ≤ 9223372036854775807 := by unfold ltr at ha; split at ha <;> omega
  subst hn hm
  obtain ⟨d, hd⟩ : ∃ d : Nat, (L : Int) - (A : Int) = (d : Int) := ⟨L - A, by omega⟩
  have hdn : d = L - A := by omega
  have hwd : IntKind.i64.wrap ((L : Int) - (A : Int)) = (d : Int) := by rw [hd]; exact IntWalk.i64_in _ (by omega)
  obtain ⟨q, hq⟩ : ∃ q, q = M / 2 ^ d := ⟨_, rfl⟩
  have hqi : (M : Int) / 2 ^ d = (q : Int) := by rw [hq]; simp
  have hq2 : q < 1024 := by rw [hq]; exact Nat.lt_of_le_of_lt (Nat.div_le_self _ _) hM
  obtain ⟨s, hs⟩ : ∃ s, s = M.testBit d := ⟨_, rfl⟩
  have hand : bits .and .i64 (q : Int) 1 = if s then 1 else 0 := by
    have h := i64_and62 q 1 (by omega) (by omega)
    rw [hq, bit_and, ← hs, ← hq] at h
    rw [show ((1 : Nat) : Int) = 1 from rfl] at h
    rw [h]
    cases s <;> rfl
  obtain ⟨t, ht⟩ : ∃ t, t = decide (0 < x) := ⟨_, rfl⟩
  have HL : Hid (litT L M x = (s == t)) := Lib.hid (by unfold litT; rw [ha, Int.toNat_natCast, ← hdn, ← hs, ht])
  have hd10 : d ≤ 10 := by omega
  have HA := Lib.hid ha
  rw [HL.out]
  have h00 : (false == false) = true := rfl
  have h01 : (false == true) = false := rfl
  have h10 : (true == false) = false := rfl
  have h11 : (true == true) = true := rfl
  clear hd hdn hq hs ha HL
  cases s with
  | false =>
    have hz : bits .and .i64 (q : Int) 1 = 0 := hand
    clear hand
    cases t with
    | false =>
      have h0 : ¬ 0 < x := by simpa using ht.symm
      clear ht
      go_enter Try.func94, Try.ntmps94
      go_wp2_with fail
      go_at_call 88; refine (l05Letter_at x A _ hx1 hx2 HA.out).mono ?_; rintro e w' ⟨rfl, rfl⟩
      go_wp2_with fail
      go_ret
      exact ⟨ret_bool (by rw [decide_eq_false (by omega : ¬ 0 < x)]; rfl), rfl⟩
    | true =>
      have h0 : 0 < x := by simpa using ht.symm
      clear ht
      go_enter Try.func94, Try.ntmps94
      go_wp2_with fail
      go_at_call 88; refine (l05Letter_at x A _ hx1 hx2 HA.out).mono ?_; rintro e w' ⟨rfl, rfl⟩
      go_wp2_with fail
      go_ret
      exact ⟨rfl, rfl⟩
  | true =>
    have hz : bits .and .i64 (q : Int) 1 = 1 := hand
    clear hand
    cases t with
    | false =>
      have h0 : ¬ 0 < x := by simpa using ht.symm
      clear ht
      go_enter Try.func94, Try.ntmps94
      go_wp2_with fail
      go_at_call 88; refine (l05Letter_at x A _ hx1 hx2 HA.out).mono ?_; rintro e w' ⟨rfl, rfl⟩
      go_wp2_with fail
      go_ret
      exact ⟨ret_bool (by rw [decide_eq_false (by omega : ¬ 0 < x)]; rfl), rfl⟩
    | true =>
      have h0 : 0 < x := by simpa using ht.symm
      clear ht
      go_enter Try.func94, Try.ntmps94
      go_wp2_with fail
      go_at_call 88; refine (l05Letter_at x A _ hx1 hx2 HA.out).mono ?_; rintro e w' ⟨rfl, rfl⟩
      go_wp2_with fail
      go_ret
      exact ⟨rfl, rfl⟩
theorem holdsC_yes {L n : Nat} {c : List Int} {k : Nat} (hk : k < c.length) (h : litT L n (c.getD k 0) = true) : holdsC L n c = true := by
  unfold holdsC
  rw [List.any_eq_true]
  exact ⟨k, List.mem_range.2 hk, h⟩
theorem holdsC_no {L n : Nat} {c : List Int} (h : ∀ k, k < c.length → litT L n (c.getD k 0) = false) : holdsC L n c = false := by
  rw [Bool.eq_false_iff]
  intro hc
  unfold holdsC at hc
  rw [List.any_eq_true] at hc
  obtain ⟨k, hk, e⟩ := hc
  rw [h k (List.mem_range.1 hk)] at e
  cases e
set_option maxHeartbeats 1000000 in
theorem l05Holds_any (L M : Nat) (v : Value) (c : List Int) (w : World) (hv : IL w v c) (hn : c.length ≤ 1048576) (hL : L ≤ 10) (hM : M < 1024) (hc : ClOk (L : Int) c) :
    Calls Try.prog 96 #[.int .i64 L, .int .i64 M, v] w (fun e w' => e = .returned (.bool (holdsC L M c)) ∧ w = w') := by
  rcases hv with ⟨rfl, ao, cap, rfl⟩ | ⟨b, off, cap, rfl, hpos, hbl, hcell⟩
  · go_enter Try.func96, Try.ntmps96
    go_wp2_with fail
    refine wp_loop_rounds 1 ?_
    rw [rounds_succ]
    go_wp2
    go_ret
    exact ⟨rfl, rfl⟩
  have HC := Lib.hid hcell
  have HK := Lib.hid hc
  clear hcell hc
  go_enter Try.func96, Try.ntmps96
  go_wp2_with fail
  go_loopg [10] c.length (fun gk i wr => ∃ k : Nat, k ≤ c.length ∧ gk + k = c.length ∧ i = .int .i64 k ∧ (∀ j, j < k → litT L M (c.getD j 0) = false) ∧ w = wr)
  case atStart => exact ⟨0, Nat.zero_le _, by omega, rfl, fun j hj => by omega, rfl⟩
  case round =>
    obtain ⟨k, hk, hgk, rfl, hall, rfl⟩ := hrel
    have HL := Lib.hid hall
    clear hall
    by_cases hlt : k < c.length
    · have c0 := HC.out k hlt
      obtain ⟨a1, a2⟩ := HK.out.a k hlt
      obtain ⟨t, ht⟩ : ∃ t, t = litT L M (c.getD k 0) := ⟨_, rfl⟩
      have HT := Lib.hid ht
      generalize c.getD k 0 = x at c0 a1 a2 ht
      have HX : Hid (ltr x = ((ltr x).toNat : Int) ∧ 1 ≤ (ltr x).toNat ∧ (ltr x).toNat ≤ L) := Lib.hid (by omega)
      have HTX := Lib.hid ht
      clear a1 a2 ht
      cases t with
      | true =>
        go_wp2_with fail
        go_at_call 94; refine (l05True_is (L : Int) (M : Int) x L M (ltr x).toNat _ rfl rfl hM hL HX.out.1 HX.out.2.1 HX.out.2.2).mono ?_; rintro e w' ⟨rfl, rfl⟩
        rw [← HTX.out]
        go_wp2_with fail
        go_ret
        exact ⟨ret_bool (holdsC_yes hlt HT.out.symm).symm, rfl⟩
      | false =>
        go_wp2_with fail
        go_at_call 94; refine (l05True_is (L : Int) (M : Int) x L M (ltr x).toNat _ rfl rfl hM hL HX.out.1 HX.out.2.1 HX.out.2.2).mono ?_; rintro e w' ⟨rfl, rfl⟩
        rw [← HTX.out]
        go_wp2_with fail
        go_roundg (gk - 1)
        case measure => omega
        case rel => exact ⟨k + 1, by omega, by omega, by go_num, fun j hj => by
          by_cases e : j = k
          · subst e; exact HT.out.symm
          · exact HL.out j (by omega), rfl⟩
    · obtain rfl : k = c.length := by omega
      go_wp2_with fail
      go_ret
      exact ⟨ret_bool (holdsC_no HL.out).symm, rfl⟩
theorem l05Holds_at (t : Bool) (L M : Nat) (v : Value) (c : List Int) (w : World) (hv : IL w v c) (hn : c.length ≤ 1048576) (hL : L ≤ 10) (hM : M < 1024) (hc : ClOk (L : Int) c) (ht : holdsC L M c = t) :
    Calls Try.prog 96 #[.int .i64 L, .int .i64 M, v] w (fun e w' => e = .returned (.bool t) ∧ w = w') := by
  subst ht
  exact l05Holds_any L M v c w hv hn hL hM hc
/-- A call that answers so, and only draws. -/
def TellsN (n : Nat) (w : World) (e : Ending) (w' : World) : Prop := e = .returned (.int .i64 (n : Int)) ∧ ∃ m, w' = w.drewN m
set_option maxRecDepth 100000 in
set_option maxHeartbeats 4000000 in
theorem l05How_any (g : Nat) (F : Fm) (L M : Nat) (w : World) (hg : FmAt w g F) (o : OKFm F) (h : FmN F L) (hM : M < 1024) :
    Calls Try.prog 73 #[.pointer (some ⟨g, 0, none⟩), .int .i64 M] w (TellsN (howK L F.cs M F.cs.length) w) := by
  obtain ⟨s, hb, hs⟩ := hg.box
  have OK := Lib.hid o.okl
  have HH := Lib.hid h
  have L2 := h.L2
  have hfew := h.ok.few
  rw [h.n] at hb
  have HBX := Lib.hid hb
  clear hg h
  rcases hs with ⟨hz, ao, cap, rfl⟩ | ⟨b, off, cap, U, rfl, hpos, hbl, hcell⟩
  · obtain ⟨c0, c1⟩ := hb
    have HZ : Hid (howK L F.cs M F.cs.length = 0) := Lib.hid (by rw [hz]; rfl)
    clear hz
    go_enter Try.func73, Try.ntmps73
    go_wp2_with fail
    refine wp_loop_rounds 1 ?_
    rw [rounds_succ]
    go_wp2
    go_ret
    exact ⟨by rw [HZ.out]; rfl, 0, rfl⟩
  have HC := Lib.hid hcell
  obtain ⟨c0, c1⟩ := hb
  clear hcell
  go_enter Try.func73, Try.ntmps73
  go_wp2_with fail
  go_loopg [5, 12] F.cs.length (fun gk s i wr => ∃ k : Nat, k ≤ F.cs.length ∧ gk + k = F.cs.length ∧ i = .int .i64 k ∧ s = .int .i64 (howK L F.cs M k : Nat) ∧ ∃ m, wr = w.drewN m)
  case atStart => exact ⟨0, Nat.zero_le _, by omega, rfl, rfl, 0, rfl⟩
  case round =>
    obtain ⟨k, hk, hgk, rfl, rfl, hwr⟩ := hrel
    have HW := Lib.hid (drewM hwr)
    have hle := howK_le L F.cs M k
    clear c0 c1
    by_cases hlt : k < F.cs.length
    · obtain ⟨c0, c1⟩ : Box2 wr g (.int .i64 (L : Int)) (.slice (some ⟨b, off, none⟩) F.cs.length (F.cs.length + cap)) := by obtain ⟨n, rfl⟩ := hwr; exact HBX.out.keep (below_drewN (Below.refl _ _) n) HBX.out.lt
      have d0 : wr.cell? ⟨b, off + k, none⟩ = some (U k) := by obtain ⟨n, rfl⟩ := hwr; exact (HC.out k hlt).1
      have HI : Hid (IL wr (U k) (F.cs.getD k [])) := Lib.hid (by obtain ⟨n, rfl⟩ := hwr; exact (HC.out k hlt).2)
      generalize U k = u at d0 HI
      have HCL := Lib.hid (HH.out.cl hlt)
      have HN : Hid (howK L F.cs M (k + 1) = howK L F.cs M k + (if holdsC L M (F.cs.getD k []) then 1 else 0)) := Lib.hid rfl
      generalize howK L F.cs M k = h0 at hle HN
      clear hwr
      cases q : holdsC L M (F.cs.getD k []) with
      | true =>
        have HQ := Lib.hid q
        have HN1 : Hid (howK L F.cs M (k + 1) = h0 + 1) := Lib.hid (by rw [HN.out, q]; rfl)
        clear q HN
        go_wp2_with fail
        go_quiet ((go_at_call 96; with_reducible exact Calls.quiet_of_same ((l05Holds_at true L M u (F.cs.getD k []) _ (VL.drewN HI.out _) (OK.out.short k) L2 hM HCL.out HQ.out).mono fun _ _ ⟨q1, q2⟩ => ⟨q1, q2.symm⟩)))
        go_wp2_with fail
        go_roundg (gk - 1)
        case measure => omega
        case rel => exact ⟨k + 1, by omega, by omega, by go_num, by rw [HN1.out]; go_num, HW.out _⟩
      | false =>
        have HQ := Lib.hid q
        have HN1 : Hid (howK L F.cs M (k + 1) = h0) := Lib.hid (by rw [HN.out, q]; rfl)
        clear q HN
        go_wp2_with fail
        go_quiet ((go_at_call 96; with_reducible exact Calls.quiet_of_same ((l05Holds_at false L M u (F.cs.getD k []) _ (VL.drewN HI.out _) (OK.out.short k) L2 hM HCL.out HQ.out).mono fun _ _ ⟨q1, q2⟩ => ⟨q1, q2.symm⟩)))
        go_wp2_with fail
        go_roundg (gk - 1)
        case measure => omega
        case rel => exact ⟨k + 1, by omega, by omega, by go_num, by rw [HN1.out], HW.out _⟩
    · obtain rfl : k = F.cs.length := by omega
      have HW0 := Lib.hid hwr
      clear hwr
      go_wp2_with fail
      go_ret
      exact ⟨rfl, HW0.out⟩
end Go.Proofs.Ytleaaigjnniglaa
