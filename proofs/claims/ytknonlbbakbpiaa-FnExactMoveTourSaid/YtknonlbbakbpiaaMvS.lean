/- A city that is moved: the model. -/
import Derived.Test.YtknonlbbakbpiaaMv3
import Derived.Test.YtknonlbbakbpiaaMvP
import Derived.Test.YtknonlbbakbpiaaLiI
import Derived.Deep.LoopGhost
namespace Go.Proofs.Ytknonlbbakbpiaa
open Go.RowKit Go.ChangeShapes Go.WideShapes
set_option maxRecDepth 100000

theorem dropF_yes {T : List Int} {i x : Nat} (hx : x < T.length) (h : ¬ x = i) : dropF (T.take (x + 1)) i = dropF (T.take x) i ++ [T.getD x 0] := by
  have e : T.take (x + 1) = T.take x ++ [T.getD x 0] := by
    rw [List.take_succ_eq_append_getElem hx]; simp [List.getD, hx]
  have hl : (T.take x).length = x := by simp; omega
  rw [e]
  generalize T.getD x 0 = y
  generalize T.take x = A at hl
  subst hl
  unfold dropF
  by_cases h2 : A.length < i
  · rw [List.take_of_length_le (by simp; omega), List.drop_eq_nil_of_le (by simp; omega), List.take_of_length_le (by omega), List.drop_eq_nil_of_le (by omega)]
    simp
  · rw [List.take_append_of_le_length (by omega), List.drop_append_of_le_length (by omega), List.append_assoc]
theorem dropF_no {T : List Int} {i : Nat} (hx : i < T.length) : dropF (T.take (i + 1)) i = dropF (T.take i) i := by
  unfold dropF
  rw [List.take_take, List.take_take, List.drop_eq_nil_of_le (by simp; omega), List.drop_eq_nil_of_le (by simp; omega), Nat.min_eq_left (Nat.le_succ i), Nat.min_self]
theorem one_cell {w : World} {x : Int} {E : TypeId} : ∀ j u, [Value.int .i64 x][j]? = some u → (w.alloc (.cells #[.int .i64 x] E)).cell? ((⟨w.heap.size, 0, none⟩ : Addr).add j) = some u := fun j u h => by
  have hj : j = 0 := by have := (List.getElem?_eq_some_iff.1 h).1; simp at this; omega
  subst hj
  simp at h
  subst h
  exact World.cell?_alloc_new _ _ _ _
theorem arr_src {w : World} {g k m : Nat} {Z L : List Int} (h : Arr (Value.int .i64) 0 w g 0 Z) (hL : ∀ j, j < L.length → L.getD j 0 = Z.getD (k + j) 0 ∧ k + j < Z.length) (hm : m = k) : ∀ j u, (L.map (Value.int .i64))[j]? = some u → w.cell? ((⟨g, m, none⟩ : Addr).add j) = some u := fun j u hj => by
  subst hm
  have hj2 : j < L.length := by have := (List.getElem?_eq_some_iff.1 hj).1; simpa using this
  obtain ⟨e1, e2⟩ := hL j hj2
  rw [Addr.add_lit]
  have h2 := h.cells _ e2
  rw [Nat.zero_add, ← e1] at h2
  rw [h2]
  rw [List.getElem?_map, List.getElem?_eq_getElem hj2] at hj
  simpa [List.getD, hj2] using hj
set_option maxHeartbeats 8000000 in
theorem l04Moved_any (v : Value) (T : List Int) (i k : Nat) (w : World) (hv : IL w v T) (hik : ¬ k = i) (hi : i < T.length) (hk : k < T.length) (hl : T.length ≤ 1000) :
    Calls Try.prog 80 #[v, .int .i64 i, .int .i64 k] w (Made (Value.int .i64) (0 : Int) (movF T i k) w) := by
  obtain ⟨i0, hin, hz0, hz1, hz2⟩ := info_parts Try.infoI
  rcases hv with ⟨rfl, -⟩ | ⟨b, off, vcap, rfl, hpos, hbl, hcell⟩
  · simp at hi
  have HC : Hid (∀ W, Below w.heap.size w W → ∀ x, x < T.length → W.cell? ⟨b, off + x, none⟩ = some (.int .i64 (T.getD x 0))) := Lib.hid fun W hb x hx => keep_cell (hcell x hx) hb hbl
  have H0 : Hid (Grows (Value.int .i64) 2 w.heap.size (.slice (some ⟨w.heap.size, 0, none⟩) 0 0) (dropF (T.take 0) i) (w.alloc (.cells #[] 2))) := Lib.hid (by
    have e : dropF (T.take 0) i = [] := by simp [dropF]
    rw [e]
    exact Grows.empty _ _ _ _ (Nat.le_refl _))
  have HMV : Hid (movF T i k = ((dropF T i).take k ++ [T.getD i 0]) ++ (dropF T i).drop k) := Lib.hid (by unfold movF putF; simp)
  have hdl := dropF_len hi
  have HDL := Lib.hid hdl
  clear hcell hdl
  go_enter Try.func80, Try.ntmps80
  go_wp2_with fail
  go_loopg [7, 8] T.length (fun gk s j wr => ∃ x : Nat, x ≤ T.length ∧ gk + x = T.length ∧ j = .int .i64 x ∧ Grows (Value.int .i64) 2 w.heap.size s (dropF (T.take x) i) wr ∧ Below w.heap.size w wr)
  case atStart => exact ⟨0, Nat.zero_le _, by omega, rfl, H0.out, below_alloc _ _⟩
  case round =>
    clear H0
    obtain ⟨x, hx, hgk, rfl, hG, hB⟩ := hrel
    have HG := Lib.hid hG
    have HB := Lib.hid hB
    have hszw := hB.size
    clear hG hB
    by_cases hlt : x < T.length
    · by_cases e : x = i
      · have hne : ((x : Int) != (i : Int)) = false := by simp [e]
        have HN := Lib.hid (show dropF (T.take (x + 1)) i = dropF (T.take x) i by rw [e]; exact dropF_no hi)
        clear e
        go_wp2_with fail
        go_roundg (gk - 1)
        case measure => omega
        case rel => exact ⟨x + 1, by omega, by omega, by go_num, by rw [HN.out]; exact HG.out, HB.out⟩
      · have hne : ((x : Int) != (i : Int)) = true := by simp; omega
        have cx := HC.out _ HB.out x hlt
        have HN := Lib.hid (dropF_yes (T := T) hlt e)
        have hlen : (dropF (T.take x) i).length ≤ 1000 := by
          unfold dropF; simp; omega
        clear e
        generalize dropF (T.take x) i = A at HG HN hlen
        generalize T.getD x 0 = y at cx HN
        go_wp2_with (at_builtin; (refine wpList_append_own _ rfl _ _ 35 rfl w.heap.size 2 i0 (.int .i64 0) 1 8 Try.underlying35 hin hz0 hz1 hz2 rfl (by decide) _ _ _ rfl (Grows.alloc HG.out _) ⟨wr.heap.size, 0, none⟩ 1 1 [.int .i64 y] rfl rfl one_cell (by intro u hu; simp at hu; subst hu; rfl) (by unfold maxLen; omega) (by omega) (by simp; omega) ?_); intro v' w8 hown hgrow _; (have G8 : Hid (Grows (Value.int .i64) 2 w.heap.size v' (A ++ [y]) w8) := Lib.hid (Grows.more rfl hown)); (have B8 : Hid (Below w.heap.size w w8) := Lib.hid ((HB.out.alloc HB.out.size _).grown hgrow (by simp; omega) (fun q hq => (World.ownsRow.lt HG.out q hq).1))); clear hown hgrow)
        go_roundg (gk - 1)
        case measure => omega
        case rel => exact ⟨x + 1, by omega, by omega, by go_num, by rw [HN.out]; exact G8.out, B8.out⟩
    · obtain rfl : x = T.length := by omega
      have hG := HG.out
      rw [List.take_length] at hG
      obtain ⟨Z, hZ⟩ : ∃ Z, Z = dropF T i := ⟨_, rfl⟩
      rw [← hZ] at hG HMV HDL
      clear hZ HG
      have hZl := HDL.out
      have hpz : 0 < Z.length := by omega
      have hkz : k ≤ Z.length := by omega
      have hz1000 : Z.length ≤ 1000 := by omega
      clear hZl
      obtain ⟨g, cp, rfl, hgB, hgl, hmx, hA⟩ := grows_arr hG hpz
      obtain ⟨wo, hwo⟩ : ∃ x : World, x = wr := ⟨_, rfl⟩
      subst hwo
      have HA := Lib.hid hA
      have S1 := Lib.hid (arr_src (k := 0) (m := 0) (L := Z.take k) (HA.out.below (below_alloc wo (.cells #[] 2)) hgl) (fun j hj => by
        rw [List.length_take] at hj
        refine ⟨?_, by omega⟩
        rw [Nat.zero_add, List.getD, List.getElem?_take_of_lt (by omega), List.getD]) rfl)
      have f1 : (k : Int) ≤ ((Z.length + cp : Nat) : Int) := by omega
      have f2 : k ≤ Z.length + cp := by omega
      have f3 : (k : Int) ≤ (Z.length : Int) + (cp : Int) := by omega
      unfold maxLen at hmx
      clear hG hA
      go_wp2_with (at_builtin; (refine wpList_append_own _ rfl _ _ 35 rfl wo.heap.size 2 i0 (.int .i64 0) 1 8 Try.underlying35 hin hz0 hz1 hz2 rfl (by decide) _ _ _ rfl (Grows.empty (Value.int .i64) _ _ wo (Nat.le_refl _)) ⟨g, 0, none⟩ k (Z.length + cp) ((Z.take k).map (Value.int .i64)) rfl ?c1 S1.out (one_all _) ?c3 ?c4 ?c5 ?_))
      case c1 => simp; omega
      case c3 => simp; unfold maxLen; omega
      case c4 => simp; omega
      case c5 => simp
      intro v5 w5 hown hgrow _
      have G5 : Hid (Grows (Value.int .i64) 2 wo.heap.size v5 (Z.take k) w5) := Lib.hid (by
        have h := hown
        show World.ownsRow _ _ _ _ _ _ _
        rw [List.length_take, Nat.min_eq_left hkz]
        simpa using h)
      have B5 : Hid (Below wo.heap.size wo w5) := Lib.hid ((below_alloc wo _).grown hgrow (by simp) (fun q hq => by simp [Value.ownBlock] at hq; omega))
      clear hown hgrow S1
      have hz5 := B5.out.size
      have cx : w5.cell? ⟨b, off + i, none⟩ = some (.int .i64 (T.getD i 0)) := HC.out _ (HB.out.trans (B5.out.mono hszw)) i hi
      have hii : (i : Int) < (T.length : Int) := by omega
      generalize T.getD i 0 = y at cx HMV
      have htk : (Z.take k).length ≤ 1000 := by simp; omega
      have HTK : Hid ((Z.take k).length = k) := Lib.hid (by simp; omega)
      generalize Z.take k = P at G5 HMV htk HTK
      by_cases hck : Z.length + cp = k
      · obtain rfl : cp = 0 := by omega
        obtain rfl : k = Z.length := by omega
        clear hck
        have HQL : Hid (([] : List Int).length = 0) := Lib.hid rfl
        rw [List.drop_length] at HMV
        go_wp2_with (first | (at_builtin; (refine wpList_append_own _ rfl _ _ 35 rfl wo.heap.size 2 i0 (.int .i64 0) 1 8 Try.underlying35 hin hz0 hz1 hz2 rfl (by decide) _ _ _ rfl (Grows.alloc G5.out _) ⟨w5.heap.size, 0, none⟩ 1 1 [.int .i64 y] rfl rfl one_cell (by intro u hu; simp at hu; subst hu; rfl) (by unfold maxLen; omega) (by omega) (by simp; omega) ?_); intro v6 w6 hown hgrow _; (have G6 : Hid (Grows (Value.int .i64) 2 wo.heap.size v6 (P ++ [y]) w6) := Lib.hid (Grows.more rfl hown)); (have B6 : Hid (Below wo.heap.size wo w6) := Lib.hid ((B5.out.alloc B5.out.size _).grown hgrow (by simp; omega) (fun q hq => (World.ownsRow.lt G5.out q hq).1))); clear hown hgrow) | (at_builtin; (refine wpList_append_own _ rfl _ _ 35 rfl wo.heap.size 2 i0 (.int .i64 0) 1 8 Try.underlying35 hin hz0 hz1 hz2 rfl (by decide) _ _ _ rfl G6.out ⟨g, 0, none⟩ 0 0 (([] : List Int).map (Value.int .i64)) rfl rfl (fun j u h => by simp at h) (one_all _) (by rw [List.length_append, List.length_singleton]; unfold maxLen; omega) (by rw [List.length_append, List.length_singleton]; omega) B6.out.size ?_); intro v7 w7 hown hgrow _; (have G7 : Hid (Grows (Value.int .i64) 2 wo.heap.size v7 ((P ++ [y]) ++ ([] : List Int)) w7) := Lib.hid (Grows.more HQL.out hown)); (have B7 : Hid (Below wo.heap.size wo w7) := Lib.hid (B6.out.grown hgrow B6.out.size (fun q hq => (World.ownsRow.lt G6.out q hq).1))); clear hown hgrow))
        refine bodyPost_ret (results_tmp rfl _ _ _) rfl ?_
        exact ⟨_, rfl, by rw [HMV.out]; exact SI.wide (Grows.si G7.out) hszw (Nat.le_refl _) (Nat.le_refl _), HB.out.trans (B7.out.mono hszw)⟩
      · have HSQ := Lib.hid fun W (hb : Below wo.heap.size wo W) => arr_src (k := k) (m := k) (L := Z.drop k) (HA.out.below hb hgl) (fun j hj => by
          rw [List.length_drop] at hj
          refine ⟨?_, by omega⟩
          rw [List.getD, List.getElem?_drop, List.getD]) rfl
        have HQL : Hid ((Z.drop k).length = Z.length - k) := Lib.hid (by simp)
        generalize Z.drop k = Q at HSQ HQL HMV
        have f4 : (k : Int) ≤ (Z.length : Int) := by omega
        go_wp2_with (first | (at_builtin; (refine wpList_append_own _ rfl _ _ 35 rfl wo.heap.size 2 i0 (.int .i64 0) 1 8 Try.underlying35 hin hz0 hz1 hz2 rfl (by decide) _ _ _ rfl (Grows.alloc G5.out _) ⟨w5.heap.size, 0, none⟩ 1 1 [.int .i64 y] rfl rfl one_cell (by intro u hu; simp at hu; subst hu; rfl) (by unfold maxLen; omega) (by omega) (by simp; omega) ?_); intro v6 w6 hown hgrow _; (have G6 : Hid (Grows (Value.int .i64) 2 wo.heap.size v6 (P ++ [y]) w6) := Lib.hid (Grows.more rfl hown)); (have B6 : Hid (Below wo.heap.size wo w6) := Lib.hid ((B5.out.alloc B5.out.size _).grown hgrow (by simp; omega) (fun q hq => (World.ownsRow.lt G5.out q hq).1))); clear hown hgrow) | (at_builtin; (refine wpList_append_own _ rfl _ _ 35 rfl wo.heap.size 2 i0 (.int .i64 0) 1 8 Try.underlying35 hin hz0 hz1 hz2 rfl (by decide) _ _ _ rfl G6.out ⟨g, k, none⟩ (Z.length - k) (Z.length + cp - k) (Q.map (Value.int .i64)) rfl (by rw [List.length_map, HQL.out, Nat.mul_one]) (HSQ.out _ B6.out) (one_all _) (by rw [List.length_append, List.length_singleton]; unfold maxLen; omega) (by rw [List.length_append, List.length_singleton]; omega) B6.out.size ?_); intro v7 w7 hown hgrow _; (have G7 : Hid (Grows (Value.int .i64) 2 wo.heap.size v7 ((P ++ [y]) ++ Q) w7) := Lib.hid (Grows.more HQL.out hown)); (have B7 : Hid (Below wo.heap.size wo w7) := Lib.hid (B6.out.grown hgrow B6.out.size (fun q hq => (World.ownsRow.lt G6.out q hq).1))); clear hown hgrow))
        refine bodyPost_ret (results_tmp rfl _ _ _) rfl ?_
        exact ⟨_, rfl, by rw [HMV.out]; exact SI.wide (Grows.si G7.out) hszw (Nat.le_refl _) (Nat.le_refl _), HB.out.trans (B7.out.mono hszw)⟩
end Go.Proofs.Ytknonlbbakbpiaa
