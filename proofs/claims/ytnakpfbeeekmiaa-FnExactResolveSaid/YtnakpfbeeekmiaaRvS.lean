/- What two clauses tell without a letter: the model. -/
import Derived.Test.YtnakpfbeeekmiaaRvJ
import Derived.Test.YtnakpfbeeekmiaaHasI
namespace Go.Proofs.Ytnakpfbeeekmiaa
open Go.RowKit Go.ChangeShapes Go.WideShapes
set_option maxRecDepth 100000

theorem grows_pos {B : Nat} {v : Value} {Z : List Int} {w : World} (h : Grows (Value.int .i64) 2 B v Z w) (h0 : 0 < Z.length) : ∃ g cap, v = .slice (some ⟨g, 0, none⟩) Z.length cap := by
  rcases h.2 with ⟨_, hz⟩ | ⟨g, cap, cur, e, _⟩
  · omega
  · exact ⟨g, cap, e⟩
def resO (A B : List Int) (x : Int) : Option (List Int) := bif cres A B x then joins x (butL x A) B else none
theorem jb_none {w X : World} (hb : Below w.heap.size w X) : SaysJB ((none : Option (List Int)).getD []) (none : Option (List Int)).isSome w (.returned (.tuple #[.slice none 0 0, .bool false])) X := ⟨_, rfl, SI.nil _ (Nat.le_refl _) _ _, hb⟩
theorem il_cells {w : World} {v : Value} {c : List Int} (hv : IL w v c) : ∀ W, Below w.heap.size w W → ∀ k, k < c.length → ∃ b off cap, v = .slice (some ⟨b, off, none⟩) c.length (c.length + cap) ∧ W.cell? ⟨b, off + k, none⟩ = some (.int .i64 (c.getD k 0)) := fun W h k hk => by
  rcases hv with ⟨hz, -⟩ | ⟨b, off, cap, e, hpos, hbl, hcell⟩
  · rw [hz] at hk; simp at hk
  · exact ⟨b, off, cap, e, by rw [h.cell (p := ⟨b, off + k, none⟩) hbl]; exact hcell k hk⟩
set_option maxHeartbeats 8000000 in
theorem l05Resolve_any (v : Value) (A : List Int) (u : Value) (B : List Int) (x : Int) (w : World) (hv : IL w v A) (hu : IL w u B) (nA2 : A.length ≤ 10) (nB2 : B.length ≤ 10)
    (rA : ∀ i, i < A.length → -1000 ≤ A.getD i 0 ∧ A.getD i 0 ≤ 1000) (rB : ∀ i, i < B.length → -1000 ≤ B.getD i 0 ∧ B.getD i 0 ≤ 1000) (hx : 1 ≤ x ∧ x ≤ 10) :
    Calls Try.prog 84 #[v, u, .int .i64 x] w (SaysJB ((resO A B x).getD []) (resO A B x).isSome w) := by
  obtain ⟨i0, hi, hz0, hz1, hz2⟩ := info_parts Try.infoI
  have IA := Lib.hid hv
  have IB := Lib.hid hu
  have CA := Lib.hid (il_cells hv)
  have CB := Lib.hid (il_cells hu)
  have RA := Lib.hid rA
  have RB := Lib.hid rB
  have nA : A.length ≤ 1048576 := by omega
  have nB : B.length ≤ 1048576 := by omega
  have wx : IntKind.i64.wrap (-x) = -x := IntWalk.i64_in _ (by omega)
  obtain ⟨ao, ac, rfl⟩ := hv.long
  obtain ⟨bo, bc, rfl⟩ := hu.long
  clear hv hu rA rB
  cases hc : cres A B x with
  | false =>
    have HE : Hid (resO A B x = none) := Lib.hid (by unfold resO; rw [hc]; rfl)
    rw [HE.out]
    unfold cres at hc
    cases p1 : inS A x with
    | false =>
      have P1 := Lib.hid p1
      cases p3 : inS A (-x) with
      | false =>
        have P3 := Lib.hid p3
        clear p1 p3 hc
        go_enter Try.func84, Try.ntmps84
        go_wp2_with fail
        go_at_call 69; refine (l00Has_any _ A (x) _ IA.out nA).mono ?_; rintro e w' ⟨rfl, rfl⟩
        rw [P1.out]
        go_wp2_with fail
        go_at_call 69; refine (l00Has_any _ A (-x) _ IA.out nA).mono ?_; rintro e w' ⟨rfl, rfl⟩
        rw [P3.out]
        go_wp2_with fail
        go_ret2
        exact jb_none (Below.refl _ _)
      | true =>
        have P3 := Lib.hid p3
        have P4 : Hid (inS B x = false) := Lib.hid (by rw [p1, p3] at hc; simpa using hc)
        clear p1 p3 hc
        go_enter Try.func84, Try.ntmps84
        go_wp2_with fail
        go_at_call 69; refine (l00Has_any _ A (x) _ IA.out nA).mono ?_; rintro e w' ⟨rfl, rfl⟩
        rw [P1.out]
        go_wp2_with fail
        go_at_call 69; refine (l00Has_any _ A (-x) _ IA.out nA).mono ?_; rintro e w' ⟨rfl, rfl⟩
        rw [P3.out]
        go_wp2_with fail
        go_at_call 69; refine (l00Has_any _ B (x) _ IB.out nB).mono ?_; rintro e w' ⟨rfl, rfl⟩
        rw [P4.out]
        go_wp2_with fail
        go_ret2
        exact jb_none (Below.refl _ _)
    | true =>
      have P1 := Lib.hid p1
      have P2 : Hid (inS B (-x) = false) := Lib.hid (by rw [p1] at hc; rw [Bool.or_eq_false_iff] at hc; simpa using hc.1)
      cases p3 : inS A (-x) with
      | false =>
        have P3 := Lib.hid p3
        clear p1 p3 hc
        go_enter Try.func84, Try.ntmps84
        go_wp2_with fail
        go_at_call 69; refine (l00Has_any _ A (x) _ IA.out nA).mono ?_; rintro e w' ⟨rfl, rfl⟩
        rw [P1.out]
        go_wp2_with fail
        go_at_call 69; refine (l00Has_any _ B (-x) _ IB.out nB).mono ?_; rintro e w' ⟨rfl, rfl⟩
        rw [P2.out]
        go_wp2_with fail
        go_at_call 69; refine (l00Has_any _ A (-x) _ IA.out nA).mono ?_; rintro e w' ⟨rfl, rfl⟩
        rw [P3.out]
        go_wp2_with fail
        go_ret2
        exact jb_none (Below.refl _ _)
      | true =>
        have P3 := Lib.hid p3
        have P4 : Hid (inS B x = false) := Lib.hid (by rw [p3] at hc; rw [Bool.or_eq_false_iff] at hc; simpa using hc.2)
        clear p1 p3 hc
        go_enter Try.func84, Try.ntmps84
        go_wp2_with fail
        go_at_call 69; refine (l00Has_any _ A (x) _ IA.out nA).mono ?_; rintro e w' ⟨rfl, rfl⟩
        rw [P1.out]
        go_wp2_with fail
        go_at_call 69; refine (l00Has_any _ B (-x) _ IB.out nB).mono ?_; rintro e w' ⟨rfl, rfl⟩
        rw [P2.out]
        go_wp2_with fail
        go_at_call 69; refine (l00Has_any _ A (-x) _ IA.out nA).mono ?_; rintro e w' ⟨rfl, rfl⟩
        rw [P3.out]
        go_wp2_with fail
        go_at_call 69; refine (l00Has_any _ B (x) _ IB.out nB).mono ?_; rintro e w' ⟨rfl, rfl⟩
        rw [P4.out]
        go_wp2_with fail
        go_ret2
        exact jb_none (Below.refl _ _)
  | true =>
    obtain ⟨r, hr⟩ : ∃ r, joins x (butL x A) B = r := ⟨_, rfl⟩
    have HE : Hid (resO A B x = r) := Lib.hid (by unfold resO; rw [hc]; exact hr)
    have HR := Lib.hid hr
    rw [HE.out]
    unfold cres at hc
    clear hr HE
    cases p1 : inS A x with
    | false =>
      have P1 := Lib.hid p1
      rw [p1, Bool.false_and, Bool.false_or, Bool.and_eq_true] at hc
      have P3 := Lib.hid hc.1
      have P4 := Lib.hid hc.2
      clear p1 hc
      go_enter Try.func84, Try.ntmps84
      go_wp2_with fail
      go_at_call 69; refine (l00Has_any _ A (x) _ IA.out nA).mono ?_; rintro e w' ⟨rfl, rfl⟩
      rw [P1.out]
      go_wp2_with fail
      go_at_call 69; refine (l00Has_any _ A (-x) _ IA.out nA).mono ?_; rintro e w' ⟨rfl, rfl⟩
      rw [P3.out]
      go_wp2_with fail
      go_at_call 69; refine (l00Has_any _ B (x) _ IB.out nB).mono ?_; rintro e w' ⟨rfl, rfl⟩
      rw [P4.out]
      go_wp2_with fail
      have G0 := Lib.hid (Grows.empty (Value.int .i64) 2 w.heap.size w (Nat.le_refl _))
      go_loopg [8, 37] A.length (fun gk s i wr => ∃ k : Nat, k ≤ A.length ∧ gk + k = A.length ∧ i = .int .i64 k ∧ Grows (Value.int .i64) 2 w.heap.size s (butL x (A.take k)) wr ∧ (∃ g cap, s = .slice (some ⟨g, 0, none⟩) (butL x (A.take k)).length cap) ∧ Below w.heap.size w wr)
      case atStart => exact ⟨0, Nat.zero_le _, by omega, rfl, G0.out, ⟨_, _, rfl⟩, below_alloc _ _⟩
      case round =>
        clear G0
        obtain ⟨k, hk, hgk, rfl, hG, hs, hB⟩ := hrel
        have HG := Lib.hid hG
        have HS := Lib.hid hs
        have HB := Lib.hid hB
        clear hG hs hB
        by_cases hlt : k < A.length
        · obtain ⟨b, off, cap, e, ck⟩ := CA.out _ HB.out k hlt
          injection e with e1 _ e3
          subst e1
          have HN := Lib.hid (butL_up (x := x) hlt)
          have hl := butL_len x (A.take k)
          rw [List.length_take] at hl
          obtain ⟨h1, h2⟩ := RA.out k hlt
          generalize butL x (A.take k) = T at HG HS HN hl
          obtain ⟨t, ht⟩ : ∃ t, A.getD k 0 = t := ⟨_, rfl⟩
          rw [ht] at ck h1 h2 HN
          have LT := Lib.hid fun W => l05Letter_is t W (by omega) (by omega)
          generalize ltr t = lt at LT HN
          clear e3 ht
          by_cases c1 : lt = x
          · have HN2 := Lib.hid (HN.out.trans (if_pos c1))
            subst c1
            clear HN
            go_wp2_with fail
            go_at_call 64; refine (LT.out _).mono ?_; rintro e w' ⟨rfl, rfl⟩
            go_wp2_with fail
            go_roundg (gk - 1)
            case measure => omega
            case rel => exact ⟨k + 1, by omega, by omega, by go_num, by rw [HN2.out]; exact HG.out, by rw [HN2.out]; exact HS.out, HB.out⟩
          · have HN2 := Lib.hid (HN.out.trans (if_neg c1))
            have c1' : (lt != x) = true := by simpa using c1
            clear HN
            go_wp2_with fail
            go_at_call 64; refine (LT.out _).mono ?_; rintro e w' ⟨rfl, rfl⟩
            go_wp2_with (at_builtin; (refine wpList_append_own _ rfl _ _ 25 rfl w.heap.size 2 i0 (.int .i64 0) 1 8 Try.underlying25 hi hz0 hz1 hz2 rfl (by decide) _ _ _ rfl (Grows.alloc HG.out _) ⟨wr.heap.size, 0, none⟩ 1 1 [.int .i64 t] rfl rfl one_new (by intro u hu; simp at hu; subst hu; rfl) (by unfold maxLen; omega) (by omega) (by have := HB.out.size; simp; omega) ?_); intro v' w8 hown hgrow _; (have G8 : Hid (Grows (Value.int .i64) 2 w.heap.size v' (T ++ [t]) w8) := Lib.hid (Grows.more rfl hown)); (have B8 : Hid (Below w.heap.size w w8) := Lib.hid ((HB.out.alloc HB.out.size _).grown hgrow (by have := HB.out.size; simp; omega) (fun q hq => (World.ownsRow.lt HG.out q hq).1))); clear hown hgrow)
            go_roundg (gk - 1)
            case measure => omega
            case rel => exact ⟨k + 1, by omega, by omega, by go_num, by rw [HN2.out]; exact G8.out, by rw [HN2.out]; exact grows_pos G8.out (by simp), B8.out⟩
        · obtain rfl : k = A.length := by omega
          have HT0 : Hid (butL x (A.take A.length) = butL x A) := Lib.hid (by rw [List.take_length])
          have HG2 : Hid (Grows (Value.int .i64) 2 w.heap.size u8 (butL x A) wr ∧ ∃ g cap, u8 = .slice (some ⟨g, 0, none⟩) (butL x A).length cap) := Lib.hid (by rw [← HT0.out]; exact ⟨HG.out, HS.out⟩)
          have HRB : Hid (∀ z ∈ butL x A, -1000 ≤ z ∧ z ≤ 1000) := Lib.hid fun z hz => by
            obtain ⟨i, hi2, rfl⟩ := List.getElem_of_mem (List.mem_filter.1 (show z ∈ A.filter _ from hz)).1
            have := RA.out i hi2
            simpa [List.getD, hi2] using this
          have hl := butL_len x A
          have HBW := HB
          clear HG HS HT0 HB
          generalize butL x A = T0 at HG2 HRB HR hl
          go_wp2_with fail
          go_loopg [8, 57] B.length (fun gk s i wr => ∃ (k : Nat) (T : List Int), k ≤ B.length ∧ gk + k = B.length ∧ i = .int .i64 k ∧ Grows (Value.int .i64) 2 w.heap.size s T wr ∧ (∃ g cap, s = .slice (some ⟨g, 0, none⟩) T.length cap) ∧ T.length ≤ 10 + k ∧ (∀ z ∈ T, -1000 ≤ z ∧ z ≤ 1000) ∧ joins x T (B.drop k) = r ∧ Below w.heap.size w wr)
          case atStart => exact ⟨0, T0, Nat.zero_le _, by omega, rfl, HG2.out.1, HG2.out.2, by omega, HRB.out, HR.out, HBW.out⟩
          case round =>
            clear HG2 HRB HBW HR
            obtain ⟨k, T, hk, hgk, rfl, hG, hs, hTl, hTr, hj, hB⟩ := hrel
            have HG := Lib.hid hG
            have HB := Lib.hid hB
            have HJ := Lib.hid hj
            have HTR := Lib.hid hTr
            obtain ⟨g, cap, rfl⟩ := hs
            have hws : w.heap.size ≤ wr.heap.size := hB.size
            clear hG hB hj hTr
            by_cases hlt : k < B.length
            · obtain ⟨b, off, cp, e, ck⟩ := CB.out _ HB.out k hlt
              injection e with e1 _ e3
              subst e1
              have HD := Lib.hid (drop_at hlt)
              obtain ⟨h1, h2⟩ := RB.out k hlt
              obtain ⟨t, ht⟩ : ∃ t, B.getD k 0 = t := ⟨_, rfl⟩
              rw [ht] at ck h1 h2 HD
              have HJ2 : Hid (joins x T (t :: B.drop (k + 1)) = r) := Lib.hid (by rw [← HD.out]; exact HJ.out)
              have LT := Lib.hid fun W => l05Letter_is t W (by omega) (by omega)
              have HS1 := Lib.hid (@joins_skip x t T (B.drop (k + 1)))
              have HS2 := Lib.hid (@joins_go x t T (B.drop (k + 1)))
              generalize ltr t = lt at LT HS1 HS2
              clear e3 ht HD HJ
              by_cases c1 : lt = x
              · have HJ3 : Hid (joins x T (B.drop (k + 1)) = r) := Lib.hid (by rw [← HS1.out c1]; exact HJ2.out)
                subst c1
                clear HS1 HS2 HJ2
                go_wp2_with fail
                go_at_call 64; refine (LT.out _).mono ?_; rintro e w' ⟨rfl, rfl⟩
                go_wp2_with fail
                go_roundg (gk - 1)
                case measure => omega
                case rel => exact ⟨k + 1, T, by omega, by omega, by go_num, HG.out, ⟨_, _, rfl⟩, by omega, HTR.out, HJ3.out, HB.out⟩
              · have HJ3 : Hid ((jnL T t).bind (fun R => joins x R (B.drop (k + 1))) = r) := Lib.hid (by rw [← HS2.out c1]; exact HJ2.out)
                have c1' : (lt == x) = false := by simpa using c1
                have JC := Lib.hid (l05Join_any w.heap.size g cap T t wr hws HG.out (by omega) (fun i hi => by have := HTR.out _ (List.getElem_mem hi); simpa [List.getD, hi] using this) (by omega))
                clear HS1 HS2 HJ2
                cases hq : jnL T t with
                | none =>
                  rw [hq] at JC
                  have HE : Hid (none = r) := Lib.hid (by rw [← HJ3.out, hq]; rfl)
                  clear hq HJ3
                  go_wp2_with fail
                  go_at_call 64; refine (LT.out _).mono ?_; rintro e w' ⟨rfl, rfl⟩
                  go_wp2_with fail
                  go_at_call 65; refine JC.out.mono ?_; rintro e w7 ⟨g7, c7, rfl, -, hb7⟩
                  have B7 := Lib.hid (HB.out.trans (hb7.mono hws))
                  clear hb7
                  go_wp2_with fail
                  go_ret2
                  rw [← HE.out]
                  exact jb_none B7.out
                | some R =>
                  rw [hq] at JC
                  have HJ4 : Hid (joins x R (B.drop (k + 1)) = r) := Lib.hid (by rw [← HJ3.out, hq]; rfl)
                  have HRL := Lib.hid (jnL_len T t R hq)
                  have HRF : Hid (∀ z ∈ R, -1000 ≤ z ∧ z ≤ 1000) := Lib.hid fun z hz => by
                    rcases jnL_from T t R hq z hz with h | rfl
                    · exact HTR.out z h
                    · omega
                  clear hq HJ3
                  go_wp2_with fail
                  go_at_call 64; refine (LT.out _).mono ?_; rintro e w' ⟨rfl, rfl⟩
                  go_wp2_with fail
                  go_at_call 65; refine JC.out.mono ?_; rintro e w7 ⟨g7, c7, rfl, hg7, hb7⟩
                  have B7 := Lib.hid (HB.out.trans (hb7.mono hws))
                  have G7 := Lib.hid hg7
                  clear hb7 hg7
                  go_wp2_with fail
                  go_roundg (gk - 1)
                  case measure => omega
                  case rel => exact ⟨k + 1, R, by omega, by omega, by go_num, G7.out, ⟨_, _, rfl⟩, by have := HRL.out; omega, HRF.out, HJ4.out, B7.out⟩
            · obtain rfl : k = B.length := by omega
              have HE : Hid (some T = r) := Lib.hid (by rw [← HJ.out, List.drop_eq_nil_of_le (Nat.le_refl _)]; rfl)
              clear HJ
              go_wp2_with fail
              go_ret2
              rw [← HE.out]
              exact ⟨_, rfl, SI.wide HG.out.si (Nat.le_refl _) (Nat.le_refl _) (Nat.le_refl _), HB.out⟩
    | true =>
      have P1 := Lib.hid p1
      cases p2 : inS B (-x) with
      | true =>
        have P2 := Lib.hid p2
        clear p1 p2 hc
        go_enter Try.func84, Try.ntmps84
        go_wp2_with fail
        go_at_call 69; refine (l00Has_any _ A (x) _ IA.out nA).mono ?_; rintro e w' ⟨rfl, rfl⟩
        rw [P1.out]
        go_wp2_with fail
        go_at_call 69; refine (l00Has_any _ B (-x) _ IB.out nB).mono ?_; rintro e w' ⟨rfl, rfl⟩
        rw [P2.out]
        go_wp2_with fail
        have G0 := Lib.hid (Grows.empty (Value.int .i64) 2 w.heap.size w (Nat.le_refl _))
        go_loopg [8, 37] A.length (fun gk s i wr => ∃ k : Nat, k ≤ A.length ∧ gk + k = A.length ∧ i = .int .i64 k ∧ Grows (Value.int .i64) 2 w.heap.size s (butL x (A.take k)) wr ∧ (∃ g cap, s = .slice (some ⟨g, 0, none⟩) (butL x (A.take k)).length cap) ∧ Below w.heap.size w wr)
        case atStart => exact ⟨0, Nat.zero_le _, by omega, rfl, G0.out, ⟨_, _, rfl⟩, below_alloc _ _⟩
        case round =>
          clear G0
          obtain ⟨k, hk, hgk, rfl, hG, hs, hB⟩ := hrel
          have HG := Lib.hid hG
          have HS := Lib.hid hs
          have HB := Lib.hid hB
          clear hG hs hB
          by_cases hlt : k < A.length
          · obtain ⟨b, off, cap, e, ck⟩ := CA.out _ HB.out k hlt
            injection e with e1 _ e3
            subst e1
            have HN := Lib.hid (butL_up (x := x) hlt)
            have hl := butL_len x (A.take k)
            rw [List.length_take] at hl
            obtain ⟨h1, h2⟩ := RA.out k hlt
            generalize butL x (A.take k) = T at HG HS HN hl
            obtain ⟨t, ht⟩ : ∃ t, A.getD k 0 = t := ⟨_, rfl⟩
            rw [ht] at ck h1 h2 HN
            have LT := Lib.hid fun W => l05Letter_is t W (by omega) (by omega)
            generalize ltr t = lt at LT HN
            clear e3 ht
            by_cases c1 : lt = x
            · have HN2 := Lib.hid (HN.out.trans (if_pos c1))
              subst c1
              clear HN
              go_wp2_with fail
              go_at_call 64; refine (LT.out _).mono ?_; rintro e w' ⟨rfl, rfl⟩
              go_wp2_with fail
              go_roundg (gk - 1)
              case measure => omega
              case rel => exact ⟨k + 1, by omega, by omega, by go_num, by rw [HN2.out]; exact HG.out, by rw [HN2.out]; exact HS.out, HB.out⟩
            · have HN2 := Lib.hid (HN.out.trans (if_neg c1))
              have c1' : (lt != x) = true := by simpa using c1
              clear HN
              go_wp2_with fail
              go_at_call 64; refine (LT.out _).mono ?_; rintro e w' ⟨rfl, rfl⟩
              go_wp2_with (at_builtin; (refine wpList_append_own _ rfl _ _ 25 rfl w.heap.size 2 i0 (.int .i64 0) 1 8 Try.underlying25 hi hz0 hz1 hz2 rfl (by decide) _ _ _ rfl (Grows.alloc HG.out _) ⟨wr.heap.size, 0, none⟩ 1 1 [.int .i64 t] rfl rfl one_new (by intro u hu; simp at hu; subst hu; rfl) (by unfold maxLen; omega) (by omega) (by have := HB.out.size; simp; omega) ?_); intro v' w8 hown hgrow _; (have G8 : Hid (Grows (Value.int .i64) 2 w.heap.size v' (T ++ [t]) w8) := Lib.hid (Grows.more rfl hown)); (have B8 : Hid (Below w.heap.size w w8) := Lib.hid ((HB.out.alloc HB.out.size _).grown hgrow (by have := HB.out.size; simp; omega) (fun q hq => (World.ownsRow.lt HG.out q hq).1))); clear hown hgrow)
              go_roundg (gk - 1)
              case measure => omega
              case rel => exact ⟨k + 1, by omega, by omega, by go_num, by rw [HN2.out]; exact G8.out, by rw [HN2.out]; exact grows_pos G8.out (by simp), B8.out⟩
          · obtain rfl : k = A.length := by omega
            have HT0 : Hid (butL x (A.take A.length) = butL x A) := Lib.hid (by rw [List.take_length])
            have HG2 : Hid (Grows (Value.int .i64) 2 w.heap.size u8 (butL x A) wr ∧ ∃ g cap, u8 = .slice (some ⟨g, 0, none⟩) (butL x A).length cap) := Lib.hid (by rw [← HT0.out]; exact ⟨HG.out, HS.out⟩)
            have HRB : Hid (∀ z ∈ butL x A, -1000 ≤ z ∧ z ≤ 1000) := Lib.hid fun z hz => by
              obtain ⟨i, hi2, rfl⟩ := List.getElem_of_mem (List.mem_filter.1 (show z ∈ A.filter _ from hz)).1
              have := RA.out i hi2
              simpa [List.getD, hi2] using this
            have hl := butL_len x A
            have HBW := HB
            clear HG HS HT0 HB
            generalize butL x A = T0 at HG2 HRB HR hl
            go_wp2_with fail
            go_loopg [8, 57] B.length (fun gk s i wr => ∃ (k : Nat) (T : List Int), k ≤ B.length ∧ gk + k = B.length ∧ i = .int .i64 k ∧ Grows (Value.int .i64) 2 w.heap.size s T wr ∧ (∃ g cap, s = .slice (some ⟨g, 0, none⟩) T.length cap) ∧ T.length ≤ 10 + k ∧ (∀ z ∈ T, -1000 ≤ z ∧ z ≤ 1000) ∧ joins x T (B.drop k) = r ∧ Below w.heap.size w wr)
            case atStart => exact ⟨0, T0, Nat.zero_le _, by omega, rfl, HG2.out.1, HG2.out.2, by omega, HRB.out, HR.out, HBW.out⟩
            case round =>
              clear HG2 HRB HBW HR
              obtain ⟨k, T, hk, hgk, rfl, hG, hs, hTl, hTr, hj, hB⟩ := hrel
              have HG := Lib.hid hG
              have HB := Lib.hid hB
              have HJ := Lib.hid hj
              have HTR := Lib.hid hTr
              obtain ⟨g, cap, rfl⟩ := hs
              have hws : w.heap.size ≤ wr.heap.size := hB.size
              clear hG hB hj hTr
              by_cases hlt : k < B.length
              · obtain ⟨b, off, cp, e, ck⟩ := CB.out _ HB.out k hlt
                injection e with e1 _ e3
                subst e1
                have HD := Lib.hid (drop_at hlt)
                obtain ⟨h1, h2⟩ := RB.out k hlt
                obtain ⟨t, ht⟩ : ∃ t, B.getD k 0 = t := ⟨_, rfl⟩
                rw [ht] at ck h1 h2 HD
                have HJ2 : Hid (joins x T (t :: B.drop (k + 1)) = r) := Lib.hid (by rw [← HD.out]; exact HJ.out)
                have LT := Lib.hid fun W => l05Letter_is t W (by omega) (by omega)
                have HS1 := Lib.hid (@joins_skip x t T (B.drop (k + 1)))
                have HS2 := Lib.hid (@joins_go x t T (B.drop (k + 1)))
                generalize ltr t = lt at LT HS1 HS2
                clear e3 ht HD HJ
                by_cases c1 : lt = x
                · have HJ3 : Hid (joins x T (B.drop (k + 1)) = r) := Lib.hid (by rw [← HS1.out c1]; exact HJ2.out)
                  subst c1
                  clear HS1 HS2 HJ2
                  go_wp2_with fail
                  go_at_call 64; refine (LT.out _).mono ?_; rintro e w' ⟨rfl, rfl⟩
                  go_wp2_with fail
                  go_roundg (gk - 1)
                  case measure => omega
                  case rel => exact ⟨k + 1, T, by omega, by omega, by go_num, HG.out, ⟨_, _, rfl⟩, by omega, HTR.out, HJ3.out, HB.out⟩
                · have HJ3 : Hid ((jnL T t).bind (fun R => joins x R (B.drop (k + 1))) = r) := Lib.hid (by rw [← HS2.out c1]; exact HJ2.out)
                  have c1' : (lt == x) = false := by simpa using c1
                  have JC := Lib.hid (l05Join_any w.heap.size g cap T t wr hws HG.out (by omega) (fun i hi => by have := HTR.out _ (List.getElem_mem hi); simpa [List.getD, hi] using this) (by omega))
                  clear HS1 HS2 HJ2
                  cases hq : jnL T t with
                  | none =>
                    rw [hq] at JC
                    have HE : Hid (none = r) := Lib.hid (by rw [← HJ3.out, hq]; rfl)
                    clear hq HJ3
                    go_wp2_with fail
                    go_at_call 64; refine (LT.out _).mono ?_; rintro e w' ⟨rfl, rfl⟩
                    go_wp2_with fail
                    go_at_call 65; refine JC.out.mono ?_; rintro e w7 ⟨g7, c7, rfl, -, hb7⟩
                    have B7 := Lib.hid (HB.out.trans (hb7.mono hws))
                    clear hb7
                    go_wp2_with fail
                    go_ret2
                    rw [← HE.out]
                    exact jb_none B7.out
                  | some R =>
                    rw [hq] at JC
                    have HJ4 : Hid (joins x R (B.drop (k + 1)) = r) := Lib.hid (by rw [← HJ3.out, hq]; rfl)
                    have HRL := Lib.hid (jnL_len T t R hq)
                    have HRF : Hid (∀ z ∈ R, -1000 ≤ z ∧ z ≤ 1000) := Lib.hid fun z hz => by
                      rcases jnL_from T t R hq z hz with h | rfl
                      · exact HTR.out z h
                      · omega
                    clear hq HJ3
                    go_wp2_with fail
                    go_at_call 64; refine (LT.out _).mono ?_; rintro e w' ⟨rfl, rfl⟩
                    go_wp2_with fail
                    go_at_call 65; refine JC.out.mono ?_; rintro e w7 ⟨g7, c7, rfl, hg7, hb7⟩
                    have B7 := Lib.hid (HB.out.trans (hb7.mono hws))
                    have G7 := Lib.hid hg7
                    clear hb7 hg7
                    go_wp2_with fail
                    go_roundg (gk - 1)
                    case measure => omega
                    case rel => exact ⟨k + 1, R, by omega, by omega, by go_num, G7.out, ⟨_, _, rfl⟩, by have := HRL.out; omega, HRF.out, HJ4.out, B7.out⟩
              · obtain rfl : k = B.length := by omega
                have HE : Hid (some T = r) := Lib.hid (by rw [← HJ.out, List.drop_eq_nil_of_le (Nat.le_refl _)]; rfl)
                clear HJ
                go_wp2_with fail
                go_ret2
                rw [← HE.out]
                exact ⟨_, rfl, SI.wide HG.out.si (Nat.le_refl _) (Nat.le_refl _) (Nat.le_refl _), HB.out⟩
      | false =>
        have P2 := Lib.hid p2
        rw [p2, Bool.and_false, Bool.false_or, Bool.and_eq_true] at hc
        have P3 := Lib.hid hc.1
        have P4 := Lib.hid hc.2
        clear p1 p2 hc
        go_enter Try.func84, Try.ntmps84
        go_wp2_with fail
        go_at_call 69; refine (l00Has_any _ A (x) _ IA.out nA).mono ?_; rintro e w' ⟨rfl, rfl⟩
        rw [P1.out]
        go_wp2_with fail
        go_at_call 69; refine (l00Has_any _ B (-x) _ IB.out nB).mono ?_; rintro e w' ⟨rfl, rfl⟩
        rw [P2.out]
        go_wp2_with fail
        go_at_call 69; refine (l00Has_any _ A (-x) _ IA.out nA).mono ?_; rintro e w' ⟨rfl, rfl⟩
        rw [P3.out]
        go_wp2_with fail
        go_at_call 69; refine (l00Has_any _ B (x) _ IB.out nB).mono ?_; rintro e w' ⟨rfl, rfl⟩
        rw [P4.out]
        go_wp2_with fail
        have G0 := Lib.hid (Grows.empty (Value.int .i64) 2 w.heap.size w (Nat.le_refl _))
        go_loopg [8, 37] A.length (fun gk s i wr => ∃ k : Nat, k ≤ A.length ∧ gk + k = A.length ∧ i = .int .i64 k ∧ Grows (Value.int .i64) 2 w.heap.size s (butL x (A.take k)) wr ∧ (∃ g cap, s = .slice (some ⟨g, 0, none⟩) (butL x (A.take k)).length cap) ∧ Below w.heap.size w wr)
        case atStart => exact ⟨0, Nat.zero_le _, by omega, rfl, G0.out, ⟨_, _, rfl⟩, below_alloc _ _⟩
        case round =>
          clear G0
          obtain ⟨k, hk, hgk, rfl, hG, hs, hB⟩ := hrel
          have HG := Lib.hid hG
          have HS := Lib.hid hs
          have HB := Lib.hid hB
          clear hG hs hB
          by_cases hlt : k < A.length
          · obtain ⟨b, off, cap, e, ck⟩ := CA.out _ HB.out k hlt
            injection e with e1 _ e3
            subst e1
            have HN := Lib.hid (butL_up (x := x) hlt)
            have hl := butL_len x (A.take k)
            rw [List.length_take] at hl
            obtain ⟨h1, h2⟩ := RA.out k hlt
            generalize butL x (A.take k) = T at HG HS HN hl
            obtain ⟨t, ht⟩ : ∃ t, A.getD k 0 = t := ⟨_, rfl⟩
            rw [ht] at ck h1 h2 HN
            have LT := Lib.hid fun W => l05Letter_is t W (by omega) (by omega)
            generalize ltr t = lt at LT HN
            clear e3 ht
            by_cases c1 : lt = x
            · have HN2 := Lib.hid (HN.out.trans (if_pos c1))
              subst c1
              clear HN
              go_wp2_with fail
              go_at_call 64; refine (LT.out _).mono ?_; rintro e w' ⟨rfl, rfl⟩
              go_wp2_with fail
              go_roundg (gk - 1)
              case measure => omega
              case rel => exact ⟨k + 1, by omega, by omega, by go_num, by rw [HN2.out]; exact HG.out, by rw [HN2.out]; exact HS.out, HB.out⟩
            · have HN2 := Lib.hid (HN.out.trans (if_neg c1))
              have c1' : (lt != x) = true := by simpa using c1
              clear HN
              go_wp2_with fail
              go_at_call 64; refine (LT.out _).mono ?_; rintro e w' ⟨rfl, rfl⟩
              go_wp2_with (at_builtin; (refine wpList_append_own _ rfl _ _ 25 rfl w.heap.size 2 i0 (.int .i64 0) 1 8 Try.underlying25 hi hz0 hz1 hz2 rfl (by decide) _ _ _ rfl (Grows.alloc HG.out _) ⟨wr.heap.size, 0, none⟩ 1 1 [.int .i64 t] rfl rfl one_new (by intro u hu; simp at hu; subst hu; rfl) (by unfold maxLen; omega) (by omega) (by have := HB.out.size; simp; omega) ?_); intro v' w8 hown hgrow _; (have G8 : Hid (Grows (Value.int .i64) 2 w.heap.size v' (T ++ [t]) w8) := Lib.hid (Grows.more rfl hown)); (have B8 : Hid (Below w.heap.size w w8) := Lib.hid ((HB.out.alloc HB.out.size _).grown hgrow (by have := HB.out.size; simp; omega) (fun q hq => (World.ownsRow.lt HG.out q hq).1))); clear hown hgrow)
              go_roundg (gk - 1)
              case measure => omega
              case rel => exact ⟨k + 1, by omega, by omega, by go_num, by rw [HN2.out]; exact G8.out, by rw [HN2.out]; exact grows_pos G8.out (by simp), B8.out⟩
          · obtain rfl : k = A.length := by omega
            have HT0 : Hid (butL x (A.take A.length) = butL x A) := Lib.hid (by rw [List.take_length])
            have HG2 : Hid (Grows (Value.int .i64) 2 w.heap.size u8 (butL x A) wr ∧ ∃ g cap, u8 = .slice (some ⟨g, 0, none⟩) (butL x A).length cap) := Lib.hid (by rw [← HT0.out]; exact ⟨HG.out, HS.out⟩)
            have HRB : Hid (∀ z ∈ butL x A, -1000 ≤ z ∧ z ≤ 1000) := Lib.hid fun z hz => by
              obtain ⟨i, hi2, rfl⟩ := List.getElem_of_mem (List.mem_filter.1 (show z ∈ A.filter _ from hz)).1
              have := RA.out i hi2
              simpa [List.getD, hi2] using this
            have hl := butL_len x A
            have HBW := HB
            clear HG HS HT0 HB
            generalize butL x A = T0 at HG2 HRB HR hl
            go_wp2_with fail
            go_loopg [8, 57] B.length (fun gk s i wr => ∃ (k : Nat) (T : List Int), k ≤ B.length ∧ gk + k = B.length ∧ i = .int .i64 k ∧ Grows (Value.int .i64) 2 w.heap.size s T wr ∧ (∃ g cap, s = .slice (some ⟨g, 0, none⟩) T.length cap) ∧ T.length ≤ 10 + k ∧ (∀ z ∈ T, -1000 ≤ z ∧ z ≤ 1000) ∧ joins x T (B.drop k) = r ∧ Below w.heap.size w wr)
            case atStart => exact ⟨0, T0, Nat.zero_le _, by omega, rfl, HG2.out.1, HG2.out.2, by omega, HRB.out, HR.out, HBW.out⟩
            case round =>
              clear HG2 HRB HBW HR
              obtain ⟨k, T, hk, hgk, rfl, hG, hs, hTl, hTr, hj, hB⟩ := hrel
              have HG := Lib.hid hG
              have HB := Lib.hid hB
              have HJ := Lib.hid hj
              have HTR := Lib.hid hTr
              obtain ⟨g, cap, rfl⟩ := hs
              have hws : w.heap.size ≤ wr.heap.size := hB.size
              clear hG hB hj hTr
              by_cases hlt : k < B.length
              · obtain ⟨b, off, cp, e, ck⟩ := CB.out _ HB.out k hlt
                injection e with e1 _ e3
                subst e1
                have HD := Lib.hid (drop_at hlt)
                obtain ⟨h1, h2⟩ := RB.out k hlt
                obtain ⟨t, ht⟩ : ∃ t, B.getD k 0 = t := ⟨_, rfl⟩
                rw [ht] at ck h1 h2 HD
                have HJ2 : Hid (joins x T (t :: B.drop (k + 1)) = r) := Lib.hid (by rw [← HD.out]; exact HJ.out)
                have LT := Lib.hid fun W => l05Letter_is t W (by omega) (by omega)
                have HS1 := Lib.hid (@joins_skip x t T (B.drop (k + 1)))
                have HS2 := Lib.hid (@joins_go x t T (B.drop (k + 1)))
                generalize ltr t = lt at LT HS1 HS2
                clear e3 ht HD HJ
                by_cases c1 : lt = x
                · have HJ3 : Hid (joins x T (B.drop (k + 1)) = r) := Lib.hid (by rw [← HS1.out c1]; exact HJ2.out)
                  subst c1
                  clear HS1 HS2 HJ2
                  go_wp2_with fail
                  go_at_call 64; refine (LT.out _).mono ?_; rintro e w' ⟨rfl, rfl⟩
                  go_wp2_with fail
                  go_roundg (gk - 1)
                  case measure => omega
                  case rel => exact ⟨k + 1, T, by omega, by omega, by go_num, HG.out, ⟨_, _, rfl⟩, by omega, HTR.out, HJ3.out, HB.out⟩
                · have HJ3 : Hid ((jnL T t).bind (fun R => joins x R (B.drop (k + 1))) = r) := Lib.hid (by rw [← HS2.out c1]; exact HJ2.out)
                  have c1' : (lt == x) = false := by simpa using c1
                  have JC := Lib.hid (l05Join_any w.heap.size g cap T t wr hws HG.out (by omega) (fun i hi => by have := HTR.out _ (List.getElem_mem hi); simpa [List.getD, hi] using this) (by omega))
                  clear HS1 HS2 HJ2
                  cases hq : jnL T t with
                  | none =>
                    rw [hq] at JC
                    have HE : Hid (none = r) := Lib.hid (by rw [← HJ3.out, hq]; rfl)
                    clear hq HJ3
                    go_wp2_with fail
                    go_at_call 64; refine (LT.out _).mono ?_; rintro e w' ⟨rfl, rfl⟩
                    go_wp2_with fail
                    go_at_call 65; refine JC.out.mono ?_; rintro e w7 ⟨g7, c7, rfl, -, hb7⟩
                    have B7 := Lib.hid (HB.out.trans (hb7.mono hws))
                    clear hb7
                    go_wp2_with fail
                    go_ret2
                    rw [← HE.out]
                    exact jb_none B7.out
                  | some R =>
                    rw [hq] at JC
                    have HJ4 : Hid (joins x R (B.drop (k + 1)) = r) := Lib.hid (by rw [← HJ3.out, hq]; rfl)
                    have HRL := Lib.hid (jnL_len T t R hq)
                    have HRF : Hid (∀ z ∈ R, -1000 ≤ z ∧ z ≤ 1000) := Lib.hid fun z hz => by
                      rcases jnL_from T t R hq z hz with h | rfl
                      · exact HTR.out z h
                      · omega
                    clear hq HJ3
                    go_wp2_with fail
                    go_at_call 64; refine (LT.out _).mono ?_; rintro e w' ⟨rfl, rfl⟩
                    go_wp2_with fail
                    go_at_call 65; refine JC.out.mono ?_; rintro e w7 ⟨g7, c7, rfl, hg7, hb7⟩
                    have B7 := Lib.hid (HB.out.trans (hb7.mono hws))
                    have G7 := Lib.hid hg7
                    clear hb7 hg7
                    go_wp2_with fail
                    go_roundg (gk - 1)
                    case measure => omega
                    case rel => exact ⟨k + 1, R, by omega, by omega, by go_num, G7.out, ⟨_, _, rfl⟩, by have := HRL.out; omega, HRF.out, HJ4.out, B7.out⟩
              · obtain rfl : k = B.length := by omega
                have HE : Hid (some T = r) := Lib.hid (by rw [← HJ.out, List.drop_eq_nil_of_le (Nat.le_refl _)]; rfl)
                clear HJ
                go_wp2_with fail
                go_ret2
                rw [← HE.out]
                exact ⟨_, rfl, SI.wide HG.out.si (Nat.le_refl _) (Nat.le_refl _) (Nat.le_refl _), HB.out⟩
end Go.Proofs.Ytnakpfbeeekmiaa
