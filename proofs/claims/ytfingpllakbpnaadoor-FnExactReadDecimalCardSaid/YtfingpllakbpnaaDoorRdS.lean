/- The number with a decimal text: the model. -/
import Derived.Test.YtfingpllakbpnaaDoorRdI
namespace Go.Proofs.YtfingpllakbpnaaDoor
open Go.RowKit Go.ChangeShapes Go.WideShapes

theorem dgF_yes {a : Nat} {c : UInt8} (h1 : 48 ≤ c.toNat) (h2 : c.toNat ≤ 57) : dgF a c = 10 * a + (c.toNat - 48) := by unfold dgF; rw [if_pos ⟨h1, h2⟩]
theorem dgF_no {a : Nat} {c : UInt8} (h : ¬ (48 ≤ c.toNat ∧ c.toNat ≤ 57)) : dgF a c = a := by unfold dgF; rw [if_neg h]
/-- What is told of the number v of a text. -/
theorem rd_long {S : List UInt8} (h : ¬ (1 ≤ S.length ∧ S.length ≤ 17)) : rdB S = false := by unfold rdB; rw [decide_eq_false h]; rfl
theorem rd_in {S : List UInt8} (h1 : inB (valS S) (-1000000000000000) 1000000000000000 = false) : rdB S = false := by unfold rdB; rw [h1]; simp
theorem rd_ne {S : List UInt8} (h1 : ¬ Lib.itoa (valS S) = S) : rdB S = false := by unfold rdB; rw [decide_eq_false h1]; simp
theorem rd_yes {S : List UInt8} (h : 1 ≤ S.length ∧ S.length ≤ 17) (h1 : inB (valS S) (-1000000000000000) 1000000000000000 = true) (h2 : Lib.itoa (valS S) = S) : rdB S = true ∧ rdN S = valS S := by
  have : rdB S = true := by unfold rdB; rw [decide_eq_true h, h1, decide_eq_true h2]; rfl
  exact ⟨this, by unfold rdN; rw [if_pos this]⟩
theorem dg17 {S : List UInt8} {k : Nat} (h : k ≤ 17) : dgS (S.take k) < 100000000000000000 := by
  have h1 := dg_bound (S := S) k
  have h2 : 10 ^ k ≤ 10 ^ 17 := Nat.pow_le_pow_right (by omega) h
  have h3 : (10 : Nat) ^ 17 = 100000000000000000 := by decide
  omega
theorem inV_cases {x : Int} {t : Bool} (h : inB x (-1000000000000000) 1000000000000000 = t) : (decide (-1000000000000000 ≤ x) && decide (x ≤ 1000000000000000)) = t := h
set_option maxRecDepth 100000 in
set_option maxHeartbeats 4000000 in
theorem l01Value_any (s : ByteArray) (w : World) (hs : s.size ≤ 1048576) :
    Calls Tryd.prog 16 #[.string s] w (SaysRd (rdN s.data.toList) (rdB s.data.toList) w) := by
  have hsz : s.data.toList.length = s.size := Array.length_toList
  by_cases hlen : 1 ≤ s.size ∧ s.size ≤ 17
  · have hlS : 1 ≤ s.data.toList.length ∧ s.data.toList.length ≤ 17 := by rw [hsz]; exact hlen
    obtain ⟨h1, h17⟩ := hlen
    have hp0 : 0 < s.size := h1
    have HSZ := Lib.hid hsz
    have HLS := Lib.hid hlS
    have D1 : Hid (∀ k (h : k < s.size), dgS (s.data.toList.take (k + 1)) = dgF (dgS (s.data.toList.take k)) (s[k]'h)) := Lib.hid fun k h => dg_take (S := s.data.toList) (k := k) (by rw [hsz]; exact h)
    have DB := Lib.hid (fun k (h : k ≤ 17) => dg17 (S := s.data.toList) h)
    have D2 : Hid (dgS (s.data.toList.take s.size) = dgS s.data.toList) := Lib.hid (by rw [List.take_of_length_le (by rw [hsz]; exact Nat.le_refl _)])
    have HH : Hid ((s.data.toList.head? = some 45) ↔ ((s[0]'hp0).toNat = 45)) := Lib.hid (by
      have hc : s.data.toList.head? = some (s[0]'hp0) := by
        rw [List.head?_eq_getElem?, List.getElem?_eq_getElem (by rw [hsz]; exact hp0)]; rfl
      rw [hc]
      constructor
      · intro h; injection h with h; rw [h]; rfl
      · intro h; congr 1; exact UInt8.toNat_inj.1 h)
    have TAIL : ∀ (v : Int), valS s.data.toList = v → -100000000000000000 < v → v < 100000000000000000 → Hid (
        (inB v (-1000000000000000) 1000000000000000 = false ∧ rdB s.data.toList = false ∧ rdN s.data.toList = 0) ∨
        (inB v (-1000000000000000) 1000000000000000 = true ∧ ∃ x : ByteArray, (∀ W, Calls Tryd.prog 26 #[.int .i64 v] W (fun e w' => e = .returned (.string x) ∧ Below W.heap.size W w')) ∧
          ((x = s ∧ rdB s.data.toList = true ∧ rdN s.data.toList = v) ∨ ((x.toList == s.toList) = false ∧ rdB s.data.toList = false ∧ rdN s.data.toList = 0)))) := fun v hv l1 l2 => Lib.hid (by
      cases hi : inB v (-1000000000000000) 1000000000000000 with
      | false =>
        have := rd_in (S := s.data.toList) (by rw [hv]; exact hi)
        exact Or.inl ⟨rfl, this, rdN_no this⟩
      | true =>
        refine Or.inr ⟨rfl, bsOf (Lib.itoa v), fun W => l01Dec_any v W (by omega) (by omega), ?_⟩
        by_cases hd : Lib.itoa v = s.data.toList
        · obtain ⟨a, b⟩ := rd_yes hlS (by rw [hv]; exact hi) (by rw [hv]; exact hd)
          exact Or.inl ⟨(ba_of hd).symm, a, by rw [b, hv]⟩
        · have := rd_ne (S := s.data.toList) (by rw [hv]; exact hd)
          refine Or.inr ⟨?_, this, rdN_no this⟩
          have hne : ¬ bsOf (Lib.itoa v) = s := fun h => hd (by rw [← h, bs_list])
          simpa [ByteArray.toList_eq, ByteArray.ext_iff] using hne)
    have HT := Lib.hid TAIL
    clear TAIL hsz hlS hs
    go_enter Tryd.func16, Tryd.ntmps16
    go_wp2_with fail
    go_loopg [4, 5] s.size (fun gk n i wr => ∃ k : Nat, k ≤ s.size ∧ gk + k = s.size ∧ i = .int .i64 k ∧ n = .int .i64 ((dgS (s.data.toList.take k) : Nat) : Int) ∧ w = wr)
    case atStart => exact ⟨0, Nat.zero_le _, by omega, rfl, rfl, rfl⟩
    case round =>
      obtain ⟨k, hk, hgk, rfl, rfl, rfl⟩ := hrel
      have HGK := Lib.hid hgk
      clear hgk
      by_cases hp : k < s.size
      · have hst := Lib.hid (D1.out k hp)
        have hdb := DB.out k (by omega)
        have hbl := (s[k]'hp).toNat_lt
        generalize dgS (s.data.toList.take k) = x at hst hdb ⊢
        by_cases c1 : 48 ≤ (s[k]'hp).toNat
        · have t1 : decide (((s[k]'hp).toNat : Int) ≥ 48) = true := by simp; omega
          by_cases c2 : (s[k]'hp).toNat ≤ 57
          · have t2 : decide (((s[k]'hp).toNat : Int) ≤ 57) = true := by simp; omega
            have hN := Lib.hid (hst.out.trans (dgF_yes c1 c2))
            have w1 : IntKind.u8.wrap (((s[k]'hp).toNat : Int) - 48) = ((s[k]'hp).toNat : Int) - 48 := by rw [IntKind.wrap_u8]; omega
            have w2 : IntKind.i64.wrap (((s[k]'hp).toNat : Int) - 48) = ((s[k]'hp).toNat : Int) - 48 := by rw [IntKind.wrap_i64]; omega
            have w3 : IntKind.i64.wrap (10 * (x : Int)) = 10 * (x : Int) := by rw [IntKind.wrap_i64]; omega
            have w4 : IntKind.i64.wrap (10 * (x : Int) + (((s[k]'hp).toNat : Int) - 48)) = 10 * (x : Int) + (((s[k]'hp).toNat : Int) - 48) := by rw [IntKind.wrap_i64]; omega
            have HC := Lib.hid c1
            go_wp2_with fail
            go_roundg (gk - 1)
            case measure => have := HGK.out; omega
            case rel => exact ⟨k + 1, by omega, by have := HGK.out; omega, by go_num, by rw [hN.out]; congr 1; have := HC.out; omega, rfl⟩
          · have t2 : decide (((s[k]'hp).toNat : Int) ≤ 57) = false := by simp; omega
            have hN := Lib.hid (hst.out.trans (dgF_no (fun h => c2 h.2)))
            go_wp2_with fail
            go_roundg (gk - 1)
            case measure => have := HGK.out; omega
            case rel => exact ⟨k + 1, by omega, by have := HGK.out; omega, by go_num, by rw [hN.out], rfl⟩
        · have t1 : decide (((s[k]'hp).toNat : Int) ≥ 48) = false := by simp; omega
          have hN := Lib.hid (hst.out.trans (dgF_no (fun h => c1 h.1)))
          go_wp2_with fail
          go_roundg (gk - 1)
          case measure => have := HGK.out; omega
          case rel => exact ⟨k + 1, by omega, by have := HGK.out; omega, by go_num, by rw [hN.out], rfl⟩
      · obtain rfl : k = s.size := by omega
        have hdb := DB.out s.size (by omega)
        rw [D2.out] at hdb ⊢
        have HVN : Hid (¬ (s[0]'hp0).toNat = 45 → valS s.data.toList = (dgS s.data.toList : Int)) := Lib.hid (fun h => by unfold valS; rw [if_neg (fun h2 => h (HH.out.1 h2))])
        have HVP : Hid ((s[0]'hp0).toNat = 45 → valS s.data.toList = -(dgS s.data.toList : Int)) := Lib.hid (fun h => by unfold valS; rw [if_pos (HH.out.2 h)])
        generalize dgS s.data.toList = x at *
        by_cases hm : (s[0]'hp0).toNat = 45
        · have hv := HVP.out hm
          have t0 : (((s[0]'hp0).toNat : Int) == 45) = true := by rw [beq_iff_eq]; omega
          have TL := Lib.hid (HT.out _ hv (by omega) (by omega)).out
          obtain ⟨y, hy⟩ : ∃ y : Int, y = -(x : Int) := ⟨_, rfl⟩
          have wn : IntKind.i64.wrap (-(x : Int)) = y := by rw [IntKind.wrap_i64, hy]; omega
          rw [← hy] at TL
          clear hm hv hy hdb
          rcases TL.out with ⟨hi, e1, e2⟩ | ⟨hi, z, hz, ⟨e0, e1, e2⟩ | ⟨e0, e1, e2⟩⟩
          · have E := Lib.hid (And.intro e1 e2)
            have T := Lib.hid (inV_cases hi)
            clear e1 e2 hi TL
            go_wp2_with fail
            go_at_call 25; refine (l00In_is false y (-1000000000000000) 1000000000000000 _ T.out).mono ?_; rintro e w2 ⟨rfl, m, rfl⟩
            go_wp2_with fail
            go_ret2
            exact ⟨by rw [E.out.1, E.out.2]; rfl, below_drewN (Below.refl _ _) _⟩
          · have E := Lib.hid (And.intro e1 e2)
            have T := Lib.hid (inV_cases hi)
            have Z := Lib.hid hz
            subst e0
            clear e1 e2 hi TL hz
            go_wp2_with fail
            go_at_call 25; refine (l00In_is true y (-1000000000000000) 1000000000000000 _ T.out).mono ?_; rintro e w2 ⟨rfl, m, rfl⟩
            go_wp2_with fail
            go_at_call 26; refine (Z.out _).mono ?_; rintro e w3 ⟨rfl, b3⟩
            have B3 := Lib.hid ((below_drewN (Below.refl w.heap.size w) m).trans b3)
            clear b3
            go_wp2_with fail
            go_ret2
            exact ⟨by rw [E.out.1, E.out.2]; rfl, B3.out⟩
          · have E := Lib.hid (And.intro e1 e2)
            have T := Lib.hid (inV_cases hi)
            have Z := Lib.hid hz
            have hs1 := e0
            have hs2 : (z.toList != s.toList) = true := by rw [bne, hs1]; rfl
            clear e1 e2 hi TL hz e0
            go_wp2_with fail
            go_at_call 25; refine (l00In_is true y (-1000000000000000) 1000000000000000 _ T.out).mono ?_; rintro e w2 ⟨rfl, m, rfl⟩
            go_wp2_with fail
            go_at_call 26; refine (Z.out _).mono ?_; rintro e w3 ⟨rfl, b3⟩
            have B3 := Lib.hid ((below_drewN (Below.refl w.heap.size w) m).trans b3)
            clear b3
            go_wp2_with fail
            go_ret2
            exact ⟨by rw [E.out.1, E.out.2]; rfl, B3.out⟩
        · have hv := HVN.out hm
          have t0 : (((s[0]'hp0).toNat : Int) == 45) = false := by rw [beq_eq_false_iff_ne]; omega
          have TL := Lib.hid (HT.out _ hv (by omega) (by omega)).out
          obtain ⟨y, hy⟩ : ∃ y : Int, y = (x : Int) := ⟨_, rfl⟩
          rw [← hy] at TL ⊢
          clear hm hv hy hdb
          rcases TL.out with ⟨hi, e1, e2⟩ | ⟨hi, z, hz, ⟨e0, e1, e2⟩ | ⟨e0, e1, e2⟩⟩
          · have E := Lib.hid (And.intro e1 e2)
            have T := Lib.hid (inV_cases hi)
            clear e1 e2 hi TL
            go_wp2_with fail
            go_at_call 25; refine (l00In_is false y (-1000000000000000) 1000000000000000 _ T.out).mono ?_; rintro e w2 ⟨rfl, m, rfl⟩
            go_wp2_with fail
            go_ret2
            exact ⟨by rw [E.out.1, E.out.2]; rfl, below_drewN (Below.refl _ _) _⟩
          · have E := Lib.hid (And.intro e1 e2)
            have T := Lib.hid (inV_cases hi)
            have Z := Lib.hid hz
            subst e0
            clear e1 e2 hi TL hz
            go_wp2_with fail
            go_at_call 25; refine (l00In_is true y (-1000000000000000) 1000000000000000 _ T.out).mono ?_; rintro e w2 ⟨rfl, m, rfl⟩
            go_wp2_with fail
            go_at_call 26; refine (Z.out _).mono ?_; rintro e w3 ⟨rfl, b3⟩
            have B3 := Lib.hid ((below_drewN (Below.refl w.heap.size w) m).trans b3)
            clear b3
            go_wp2_with fail
            go_ret2
            exact ⟨by rw [E.out.1, E.out.2]; rfl, B3.out⟩
          · have E := Lib.hid (And.intro e1 e2)
            have T := Lib.hid (inV_cases hi)
            have Z := Lib.hid hz
            have hs1 := e0
            have hs2 : (z.toList != s.toList) = true := by rw [bne, hs1]; rfl
            clear e1 e2 hi TL hz e0
            go_wp2_with fail
            go_at_call 25; refine (l00In_is true y (-1000000000000000) 1000000000000000 _ T.out).mono ?_; rintro e w2 ⟨rfl, m, rfl⟩
            go_wp2_with fail
            go_at_call 26; refine (Z.out _).mono ?_; rintro e w3 ⟨rfl, b3⟩
            have B3 := Lib.hid ((below_drewN (Below.refl w.heap.size w) m).trans b3)
            clear b3
            go_wp2_with fail
            go_ret2
            exact ⟨by rw [E.out.1, E.out.2]; rfl, B3.out⟩
  · have e := rd_long (S := s.data.toList) (by rw [hsz]; exact hlen)
    rw [e, rdN_no e]
    clear e hsz
    by_cases h1 : 1 ≤ s.size
    · have h2 : ¬ s.size ≤ 17 := fun h => hlen ⟨h1, h⟩
      have t1 : decide ((s.size : Int) < 1) = false := by simp; omega
      have t2 : decide ((s.size : Int) > 17) = true := by simp; omega
      clear hlen
      go_enter Tryd.func16, Tryd.ntmps16
      go_wp2_with fail
      go_ret2
      exact ⟨rfl, Below.refl _ _⟩
    · have t1 : decide ((s.size : Int) < 1) = true := by simp; omega
      clear hlen
      go_enter Tryd.func16, Tryd.ntmps16
      go_wp2_with fail
      go_ret2
      exact ⟨rfl, Below.refl _ _⟩
theorem specReadDecimal_any (s : ByteArray) (w : World) (hs : s.size ≤ 1048576) :
    Calls Tryd.prog 6 #[.string s] w (SaysRd (rdN s.data.toList) (rdB s.data.toList) w) := by
  have LV := Lib.hid (l01Value_any s w hs)
  go_enter Tryd.func6, Tryd.ntmps6
  go_wp2_with fail
  go_at_call 16; refine LV.out.mono ?_; rintro e w2 ⟨rfl, b2⟩
  have B2 := Lib.hid b2
  clear b2
  go_wp2_with fail
  go_ret2
  exact ⟨rfl, B2.out⟩
end Go.Proofs.YtfingpllakbpnaaDoor
