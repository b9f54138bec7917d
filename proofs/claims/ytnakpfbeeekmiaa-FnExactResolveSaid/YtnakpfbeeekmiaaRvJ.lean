/- What two clauses tell without a letter: the model puts a literal into a list. -/
import Derived.Test.YtnakpfbeeekmiaaRv0
import Derived.Test.YtnakpfbeeekmiaaClS
import Derived.Test.YtnakpfbeeekmiaaGrw
import Derived.Test.YtnakpfbeeekmiaaLiI
import Derived.Test.YtnakpfbeeekmiaaNrU
import Derived.Deep.QuietTactic
import Derived.BigQuiet
namespace Go.Proofs.Ytnakpfbeeekmiaa
open Go.RowKit Go.ChangeShapes Go.WideShapes
set_option maxRecDepth 100000

theorem lies_take {W : World} {g k : Nat} {T : List Int} (h : ∀ j, j < T.length → W.cell? ⟨g, j, none⟩ = some (.int .i64 (T.getD j 0))) {j : Nat} {u : Value} (hu : ((T.take k).map (Value.int .i64))[j]? = some u) : W.cell? ((⟨g, 0, none⟩ : Addr).add j) = some u := by
  have hj := (List.getElem?_eq_some_iff.1 hu).1
  simp only [List.length_map, List.length_take] at hj
  rw [Go.WideShapes.add_plain, Nat.zero_add, h j (by omega), ← hu]
  simp [List.getD, show j < T.length by omega, show j < k by omega]
theorem lies_from {W : World} {g k : Nat} {T : List Int} (h : ∀ j, j < T.length → W.cell? ⟨g, j, none⟩ = some (.int .i64 (T.getD j 0))) {j : Nat} {u : Value} (hu : ((T.drop k).map (Value.int .i64))[j]? = some u) : W.cell? ((⟨g, k, none⟩ : Addr).add j) = some u := by
  have hj := (List.getElem?_eq_some_iff.1 hu).1
  simp only [List.length_map, List.length_drop] at hj
  rw [Go.WideShapes.add_plain, h (k + j) (by omega), ← hu]
  simp [List.getD, show k + j < T.length by omega]
theorem grows_of {B n : Nat} {v : Value} {Z : List Int} {w : World} (hn : Z.length = n) (h : w.ownsRow B 2 1 v n (Z.map (Value.int .i64))) : Grows (Value.int .i64) 2 B v Z w := by
  subst hn; exact h
/-- The list with the literal, or none. -/
def Joined (B : Nat) (T : List Int) (r : Option (List Int)) (w : World) (e : Ending) (w' : World) : Prop :=
  ∃ g cap, e = .returned (.tuple #[.slice (some ⟨g, 0, none⟩) (r.getD T).length cap, .bool r.isSome]) ∧ Grows (Value.int .i64) 2 B (.slice (some ⟨g, 0, none⟩) (r.getD T).length cap) (r.getD T) w' ∧ Below w.heap.size w w'
theorem join_yes {B : Nat} {T Z : List Int} {r : Option (List Int)} {v : Value} {w w' : World} (hr : r = some Z ∧ 0 < Z.length) (hB : B ≤ w.heap.size) (hG : Grows (Value.int .i64) 2 w.heap.size v Z w') (hb : Below w.heap.size w w') :
    Joined B T r w (.returned (.tuple #[v, .bool true])) w' := by
  obtain ⟨rfl, h0⟩ := hr
  rcases hG.2 with ⟨_, hz⟩ | ⟨g, cap, cur, e, _⟩
  · omega
  · subst e
    exact ⟨g, cap, rfl, hG.lower hB, hb⟩
set_option maxHeartbeats 8000000 in
theorem l05Join_any (B g cap : Nat) (T : List Int) (y : Int) (w : World) (hB : B ≤ w.heap.size) (hG : Grows (Value.int .i64) 2 B (.slice (some ⟨g, 0, none⟩) T.length cap) T w) (hT : T.length ≤ 64)
    (hr : ∀ i, i < T.length → -1000 ≤ T.getD i 0 ∧ T.getD i 0 ≤ 1000) (hy : -1000 ≤ y ∧ y ≤ 1000) :
    Calls Try.prog 65 #[.slice (some ⟨g, 0, none⟩) T.length cap, .int .i64 y] w (Joined B T (jnL T y) w) := by
  obtain ⟨i0, hi, hz0, hz1, hz2⟩ := info_parts Try.infoI
  have hcp : T.length ≤ cap ∧ cap ≤ maxLen := by
    rcases hG.2 with ⟨e, _⟩ | ⟨g2, cp, cur, e, _, _, h1, h2, _⟩
    · injection e with e; cases e
    · injection e with e1 e2 e3
      subst e3
      exact ⟨h1, h2⟩
  have HC : Hid (∀ W, Below w.heap.size w W → ∀ j, j < T.length → W.cell? ⟨g, j, none⟩ = some (.int .i64 (T.getD j 0))) := Lib.hid fun W b j hj => by
    rcases (SI.vl (Grows.si hG)) with ⟨hz, -⟩ | ⟨b2, off, c2, e, hpos, hbl, hcell⟩
    · rw [hz] at hj; simp at hj
    · injection e with e1 _ _
      injection e1 with e1
      injection e1 with e1 e2 _
      subst e1
      subst e2
      have h := hcell j hj
      rw [Nat.zero_add] at h
      rw [b.cell (p := ⟨g, j, none⟩) hbl]
      exact h
  obtain ⟨hcp1, hcp2⟩ := hcp
  unfold maxLen at hcp2
  have HG := Lib.hid hG
  have HR := Lib.hid hr
  have LY := Lib.hid fun W => l05Letter_is y W (by omega) (by omega)
  have HY := Lib.hid hy
  obtain ⟨r, hrr⟩ : ∃ r, jnL T y = r := ⟨_, rfl⟩
  have HRR := Lib.hid hrr
  rw [hrr]
  generalize hly : ltr y = ly at LY
  have HLY := Lib.hid hly
  clear hG hr hy hrr hly
  go_enter Try.func65, Try.ntmps65
  go_wp2_with fail
  go_loopg [6] T.length (fun gk i wr => ∃ k : Nat, k ≤ T.length ∧ gk + k = T.length ∧ i = .int .i64 k ∧ (∀ j, j < k → ltr (T.getD j 0) < ly) ∧ w = wr)
  case atStart => exact ⟨0, Nat.zero_le _, by omega, rfl, fun j hj => by omega, rfl⟩
  case round =>
    obtain ⟨k, hk, hgk, rfl, hj, rfl⟩ := hrel
    have HJJ := Lib.hid hj
    clear hj
    have b1 : (0 : Int) ≤ (k : Int) := by omega
    have b2 : (k : Int) ≤ (cap : Int) := by omega
    have b4 : (k : Int) ≤ (T.length : Int) := by omega
    have b5 : (T.length : Int) ≤ (cap : Int) := by omega
    by_cases hlt : k < T.length
    · have ck := HC.out _ (Below.refl _ _) k hlt
      obtain ⟨h1, h2⟩ := HR.out k hlt
      obtain ⟨t, ht⟩ : ∃ t, T.getD k 0 = t := ⟨_, rfl⟩
      have HTK := Lib.hid ht
      rw [ht] at ck h1 h2
      have LT := Lib.hid fun W => l05Letter_is t W (by omega) (by omega)
      generalize hlt2 : ltr t = lt at LT
      have HLT := Lib.hid hlt2
      clear ht hlt2
      by_cases c1 : lt < ly
      · go_wp2_with fail
        go_at_call 64; refine (LT.out _).mono ?_; rintro e w' ⟨rfl, rfl⟩
        go_wp2_with fail
        go_at_call 64; refine (LY.out _).mono ?_; rintro e w' ⟨rfl, rfl⟩
        go_wp2_with fail
        go_roundg (gk - 1)
        case measure => omega
        case rel => exact ⟨k + 1, by omega, by omega, by go_num, fun j hj => by
          by_cases e : j = k
          · subst e; rw [HTK.out, HLT.out]; exact c1
          · exact HJJ.out j (by omega), rfl⟩
      · by_cases c2 : lt = ly
        · have HH : Hid (r = if t = y then some T else none) := Lib.hid (by rw [← HRR.out, jnL_hit hlt (fun j hj => by rw [HLY.out]; exact HJJ.out j hj) (by rw [HTK.out, HLT.out, HLY.out]; exact c2), HTK.out])
          have c2' : (lt == ly) = true := by simpa using c2
          by_cases c3 : t = y
          · have H3 : Hid (r = some T) := Lib.hid (by rw [HH.out, if_pos c3])
            subst c3
            clear c2'
            go_wp2_with fail
            go_at_call 64; refine (LT.out _).mono ?_; rintro e w' ⟨rfl, rfl⟩
            go_wp2_with fail
            go_at_call 64; refine (LY.out _).mono ?_; rintro e w' ⟨rfl, rfl⟩
            go_wp2_with fail
            go_at_call 64; refine (LT.out _).mono ?_; rintro e w' ⟨rfl, rfl⟩
            go_wp2_with fail
            go_at_call 64; refine (LY.out _).mono ?_; rintro e w' ⟨rfl, rfl⟩
            go_wp2_with fail
            go_quiet (fail)
            go_wp2_with fail
            go_ret2
            rw [H3.out]
            exact ⟨g, cap, rfl, Grows.drewN HG.out _, below_drewN (Below.refl _ _) _⟩
          · have c3' : (t == y) = false := by simpa using c3
            have H3 : Hid (r = none) := Lib.hid (by rw [HH.out, if_neg c3])
            go_wp2_with fail
            go_at_call 64; refine (LT.out _).mono ?_; rintro e w' ⟨rfl, rfl⟩
            go_wp2_with fail
            go_at_call 64; refine (LY.out _).mono ?_; rintro e w' ⟨rfl, rfl⟩
            go_wp2_with fail
            go_at_call 64; refine (LT.out _).mono ?_; rintro e w' ⟨rfl, rfl⟩
            go_wp2_with fail
            go_at_call 64; refine (LY.out _).mono ?_; rintro e w' ⟨rfl, rfl⟩
            go_wp2_with fail
            go_quiet (fail)
            go_wp2_with fail
            go_ret2
            rw [H3.out]
            exact ⟨g, cap, rfl, Grows.drewN HG.out _, below_drewN (Below.refl _ _) _⟩
        · have c2' : (lt == ly) = false := by simpa using c2
          have HJ : Hid (r = some (T.take k ++ [y] ++ T.drop k) ∧ 0 < (T.take k ++ [y] ++ T.drop k).length) := Lib.hid ⟨by rw [← HRR.out, jnL_miss hlt (fun j hj => by rw [HLY.out]; exact HJJ.out j hj) (by rw [HTK.out, HLT.out, HLY.out]; omega)], by simp; omega⟩
          have hcap : ¬ cap = k := by omega
          go_wp2_with fail
          go_at_call 64; refine (LT.out _).mono ?_; rintro e w' ⟨rfl, rfl⟩
          go_wp2_with fail
          go_at_call 64; refine (LY.out _).mono ?_; rintro e w' ⟨rfl, rfl⟩
          go_wp2_with fail
          go_at_call 64; refine (LT.out _).mono ?_; rintro e w' ⟨rfl, rfl⟩
          go_wp2_with fail
          go_at_call 64; refine (LY.out _).mono ?_; rintro e w' ⟨rfl, rfl⟩
          go_wp2_with (first | (at_builtin; refine wpList_append_own _ rfl _ _ 25 rfl w.heap.size 2 i0 (.int .i64 0) 1 8 Try.underlying25 hi hz0 hz1 hz2 rfl (by decide) _ _ _ rfl (Grows.empty (Value.int .i64) _ _ w (Nat.le_refl _)) ⟨g, 0, none⟩ k _ ((T.take k).map (Value.int .i64)) rfl (by rw [List.length_map, List.length_take]; omega) (fun j u hu => lies_take (HC.out _ (below_alloc w _)) hu) (map_oneI _) (by first | (simp; unfold maxLen; omega) | (unfold maxLen; simp; omega)) (by first | (simp; done) | (simp; omega)) (by simp) ?_; intro v1 w1 hown hgrow _; have HB1 := Lib.hid ((below_alloc w _).grown hgrow (by simp) (fun k hk => Nat.le_of_eq (Option.some.inj hk))); have HN1 : Hid (Grows (Value.int .i64) 2 w.heap.size v1 (T.take k) w1) := Lib.hid (grows_of (n := k) (by rw [List.length_take]; omega) (by simpa using hown)); clear hown hgrow) | (at_builtin; refine wpList_append_own _ rfl _ _ 25 rfl w.heap.size 2 i0 (.int .i64 0) 1 8 Try.underlying25 hi hz0 hz1 hz2 rfl (by decide) _ _ _ rfl (Grows.alloc HN1.out _) ⟨w1.heap.size, 0, none⟩ 1 1 [.int .i64 y] rfl rfl one_new (by intro u hu; simp at hu; subst hu; rfl) (by first | (simp; unfold maxLen; omega) | (unfold maxLen; simp; omega)) (by first | (simp; done) | (simp; omega)) (by have := HB1.out.size; simp; omega) ?_; intro v2 w2 hown hgrow _; have HB2 := Lib.hid ((HB1.out.alloc HB1.out.size _).grown hgrow (by have := HB1.out.size; simp; omega) (fun g hg => HN1.out.block g hg)); have HN2 : Hid (Grows (Value.int .i64) 2 w.heap.size v2 (T.take k ++ [y]) w2) := Lib.hid (Grows.more (news := [y]) rfl hown); clear hown hgrow) | (at_builtin; refine wpList_append_own _ rfl _ _ 25 rfl w.heap.size 2 i0 (.int .i64 0) 1 8 Try.underlying25 hi hz0 hz1 hz2 rfl (by decide) _ _ _ rfl HN2.out ⟨g, k, none⟩ (T.length - k) (cap - k) ((T.drop k).map (Value.int .i64)) rfl (by simp) (fun j u hu => lies_from (HC.out _ HB2.out) hu) (map_oneI _) (by first | (simp; unfold maxLen; omega) | (unfold maxLen; simp; omega)) (by first | (simp; done) | (simp; omega)) (by have := HB2.out.size; simp; omega) ?_; intro v3 w3 hown hgrow _; have HB3 := Lib.hid (HB2.out.grown hgrow HB2.out.size (fun g hg => HN2.out.block g hg)); have HN3 : Hid (Grows (Value.int .i64) 2 w.heap.size v3 (T.take k ++ [y] ++ T.drop k) w3) := Lib.hid (Grows.more (by simp) hown); clear hown hgrow))
          go_ret2
          exact join_yes HJ.out hB HN3.out HB3.out
    · obtain rfl : k = T.length := by omega
      have HJE : Hid (r = some (T ++ [y])) := Lib.hid (by rw [← HRR.out, jnL_end (fun j hj => by rw [HLY.out]; exact HJJ.out j hj)])
      have HTA : Hid (T.take T.length = T) := Lib.hid List.take_length
      by_cases hcap : cap = T.length
      · have HJ : Hid (r = some (T.take T.length ++ [y]) ∧ 0 < (T.take T.length ++ [y]).length) := Lib.hid ⟨by rw [HJE.out, HTA.out], by simp⟩
        subst hcap
        go_wp2_with (first | (at_builtin; refine wpList_append_own _ rfl _ _ 25 rfl w.heap.size 2 i0 (.int .i64 0) 1 8 Try.underlying25 hi hz0 hz1 hz2 rfl (by decide) _ _ _ rfl (Grows.empty (Value.int .i64) _ _ w (Nat.le_refl _)) ⟨g, 0, none⟩ T.length _ ((T.take T.length).map (Value.int .i64)) rfl (by rw [List.length_map, List.length_take]; omega) (fun j u hu => lies_take (HC.out _ (below_alloc w _)) hu) (map_oneI _) (by first | (simp; unfold maxLen; omega) | (unfold maxLen; simp; omega)) (by first | (simp; done) | (simp; omega)) (by simp) ?_; intro v1 w1 hown hgrow _; have HB1 := Lib.hid ((below_alloc w _).grown hgrow (by simp) (fun k hk => Nat.le_of_eq (Option.some.inj hk))); have HN1 : Hid (Grows (Value.int .i64) 2 w.heap.size v1 (T.take T.length) w1) := Lib.hid (grows_of (n := T.length) (by rw [List.length_take]; omega) (by simpa using hown)); clear hown hgrow) | (at_builtin; refine wpList_append_own _ rfl _ _ 25 rfl w.heap.size 2 i0 (.int .i64 0) 1 8 Try.underlying25 hi hz0 hz1 hz2 rfl (by decide) _ _ _ rfl (Grows.alloc HN1.out _) ⟨w1.heap.size, 0, none⟩ 1 1 [.int .i64 y] rfl rfl one_new (by intro u hu; simp at hu; subst hu; rfl) (by first | (simp; unfold maxLen; omega) | (unfold maxLen; simp; omega)) (by first | (simp; done) | (simp; omega)) (by have := HB1.out.size; simp; omega) ?_; intro v2 w2 hown hgrow _; have HB2 := Lib.hid ((HB1.out.alloc HB1.out.size _).grown hgrow (by have := HB1.out.size; simp; omega) (fun g hg => HN1.out.block g hg)); have HN2 : Hid (Grows (Value.int .i64) 2 w.heap.size v2 (T.take T.length ++ [y]) w2) := Lib.hid (Grows.more (news := [y]) rfl hown); clear hown hgrow) | (at_builtin; refine wpList_append_own _ rfl _ _ 25 rfl w.heap.size 2 i0 (.int .i64 0) 1 8 Try.underlying25 hi hz0 hz1 hz2 rfl (by decide) _ _ _ rfl HN2.out ⟨g, 0, none⟩ _ _ [] rfl (by simp) (by intro j u hu; simp at hu) (by simp) (by first | (simp; unfold maxLen; omega) | (unfold maxLen; simp; omega)) (by first | (simp; done) | (simp; omega)) (by have := HB2.out.size; simp; omega) ?_; intro v3 w3 hown hgrow _; have HB3 := Lib.hid (HB2.out.grown hgrow HB2.out.size (fun g hg => HN2.out.block g hg)); have HN3 : Hid (Grows (Value.int .i64) 2 w.heap.size v3 (T.take T.length ++ [y]) w3) := Lib.hid (by have h := Grows.more (news := []) rfl hown; simpa using h); clear hown hgrow))
        go_ret2
        exact join_yes HJ.out hB HN3.out HB3.out
      · have HJ : Hid (r = some (T.take T.length ++ [y]) ∧ 0 < (T.take T.length ++ [y]).length) := Lib.hid ⟨by rw [HJE.out, HTA.out], by simp⟩
        go_wp2_with (first | (at_builtin; refine wpList_append_own _ rfl _ _ 25 rfl w.heap.size 2 i0 (.int .i64 0) 1 8 Try.underlying25 hi hz0 hz1 hz2 rfl (by decide) _ _ _ rfl (Grows.empty (Value.int .i64) _ _ w (Nat.le_refl _)) ⟨g, 0, none⟩ T.length _ ((T.take T.length).map (Value.int .i64)) rfl (by rw [List.length_map, List.length_take]; omega) (fun j u hu => lies_take (HC.out _ (below_alloc w _)) hu) (map_oneI _) (by first | (simp; unfold maxLen; omega) | (unfold maxLen; simp; omega)) (by first | (simp; done) | (simp; omega)) (by simp) ?_; intro v1 w1 hown hgrow _; have HB1 := Lib.hid ((below_alloc w _).grown hgrow (by simp) (fun k hk => Nat.le_of_eq (Option.some.inj hk))); have HN1 : Hid (Grows (Value.int .i64) 2 w.heap.size v1 (T.take T.length) w1) := Lib.hid (grows_of (n := T.length) (by rw [List.length_take]; omega) (by simpa using hown)); clear hown hgrow) | (at_builtin; refine wpList_append_own _ rfl _ _ 25 rfl w.heap.size 2 i0 (.int .i64 0) 1 8 Try.underlying25 hi hz0 hz1 hz2 rfl (by decide) _ _ _ rfl (Grows.alloc HN1.out _) ⟨w1.heap.size, 0, none⟩ 1 1 [.int .i64 y] rfl rfl one_new (by intro u hu; simp at hu; subst hu; rfl) (by first | (simp; unfold maxLen; omega) | (unfold maxLen; simp; omega)) (by first | (simp; done) | (simp; omega)) (by have := HB1.out.size; simp; omega) ?_; intro v2 w2 hown hgrow _; have HB2 := Lib.hid ((HB1.out.alloc HB1.out.size _).grown hgrow (by have := HB1.out.size; simp; omega) (fun g hg => HN1.out.block g hg)); have HN2 : Hid (Grows (Value.int .i64) 2 w.heap.size v2 (T.take T.length ++ [y]) w2) := Lib.hid (Grows.more (news := [y]) rfl hown); clear hown hgrow) | (at_builtin; refine wpList_append_own _ rfl _ _ 25 rfl w.heap.size 2 i0 (.int .i64 0) 1 8 Try.underlying25 hi hz0 hz1 hz2 rfl (by decide) _ _ _ rfl HN2.out ⟨g, T.length, none⟩ _ _ [] rfl (by simp) (by intro j u hu; simp at hu) (by simp) (by first | (simp; unfold maxLen; omega) | (unfold maxLen; simp; omega)) (by first | (simp; done) | (simp; omega)) (by have := HB2.out.size; simp; omega) ?_; intro v3 w3 hown hgrow _; have HB3 := Lib.hid (HB2.out.grown hgrow HB2.out.size (fun g hg => HN2.out.block g hg)); have HN3 : Hid (Grows (Value.int .i64) 2 w.heap.size v3 (T.take T.length ++ [y]) w3) := Lib.hid (by have h := Grows.more (news := []) rfl hown; simpa using h); clear hown hgrow))
        go_ret2
        exact join_yes HJ.out hB HN3.out HB3.out
end Go.Proofs.Ytnakpfbeeekmiaa
