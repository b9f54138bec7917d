/- Lists whose numbers come to the front: the program. -/
import Derived.Test.YtnakpfbeeekmiaaFr0
import Derived.Test.YtnakpfbeeekmiaaGoI
import Derived.Test.YtnakpfbeeekmiaaWtK
import Derived.Test.YtnakpfbeeekmiaaInO
import Derived.Test.YtnakpfbeeekmiaaAsk
namespace Go.Proofs.Ytnakpfbeeekmiaa
open Go.RowKit Go.ChangeShapes Go.WideShapes

def SaysIJB (n : Int) (Z : List Int) (b : Bool) (w : World) (e : Ending) (w' : World) : Prop := ∃ v, e = .returned (.tuple #[.int .i64 n, v, .bool b]) ∧ II w.heap.size w'.heap.size w' v Z ∧ Below w.heap.size w w'
theorem numL_range (n : Nat) : numL n = intsN (List.range n) := rfl
theorem cell_in {w : World} {g o : Nat} {cur : Array Value} {E : TypeId} (hg : w.heap[g]? = some (.cells cur E (0, 0))) (ho : o < cur.size) : ∃ u, w.cell? ⟨g, o, none⟩ = some u :=
  ⟨cur[o], by simp [World.cell?, hg, ho]⟩
theorem frontN_put (Y : List Nat) (x : Nat) : putF (intsN (Y.filter fun z => !(z == x))) 0 (x : Int) = intsN (frontN Y x) := by
  unfold putF frontN intsN
  simp
set_option maxRecDepth 100000 in
set_option maxHeartbeats 8000000 in
theorem implFront_yes (v : Value) (Q : List Nat) (n : Nat) (w : World) (hv : IL w v (intsN Q)) (h1 : asksB (intsN Q) ((n : Int) - 1) = true) (hn1 : 1 ≤ n) (hn2 : n ≤ 64) (hq : Q.length ≤ 64) (hx : ∀ x ∈ Q, x < n) :
    Calls Try.prog 46 #[v, .int .i64 (n : Int)] w (SaysIJB ((fcS Q n Q.length).2 : Nat) (intsN (fcS Q n Q.length).1) true w) := by
  have HV := Lib.hid hv
  have H1 := Lib.hid h1
  have hql := intsN_len Q
  have HOK := Lib.hid (fun i hi => fcS_ok (Q := Q) hx i hi)
  have HX := Lib.hid hx
  rcases hv with ⟨hz, ao, cap, rfl⟩ | ⟨b, off, cap, rfl, hpos, hbl, hcell⟩
  · exfalso
    have : few64 (intsN Q).length = true := by unfold asksB at h1; simp only [Bool.and_eq_true] at h1; exact h1.2
    rw [hz] at this
    revert this; decide
  rw [hql] at hcell HV ⊢
  have HC : Hid (∀ W, Below w.heap.size w W → ∀ i, i < Q.length → W.cell? ⟨b, off + i, none⟩ = some (.int .i64 ((Q.getD i 0 : Nat) : Int))) := Lib.hid fun W h i hi => by
    rw [h.cell (p := ⟨b, off + i, none⟩) hbl, hcell i hi, intsN_at hi]
  have HR1 : Hid ((decide ((1 : Int) ≤ (n : Int)) && decide ((n : Int) ≤ 64)) = true) := Lib.hid (by rw [decide_eq_true (by omega), decide_eq_true (by omega)]; rfl)
  have wq : IntKind.i64.wrap ((n : Int) - 1) = (n : Int) - 1 := by rw [IntKind.wrap_i64]; omega
  clear hcell h1 hql hx
  go_enter Try.func46, Try.ntmps46
  go_wp2_with fail
  go_at_call 56; refine (isFrom_is true _ 1 64 _ HR1.out).mono ?_; rintro e w2 ⟨rfl, m2, rfl⟩
  go_wp2_with fail
  go_at_call 88; refine (areAsks_is true _ (intsN Q) ((n : Int) - 1) _ (VL.drewN HV.out _) (by rw [intsN_len]; omega) H1.out).mono ?_; rintro e w1 ⟨rfl, m1, rfl⟩
  have B3 := Lib.hid (below_drewN (Below.refl w.heap.size w) (m2 + m1))
  go_wp2_with fail
  go_at_call 89; refine (numbersBelowG_any n _ (by omega)).mono ?_; rintro e w3 ⟨v3, rfl, g3, b3⟩
  have G3 := Lib.hid g3
  have B4 := Lib.hid (B3.out.trans b3)
  clear wq g3 b3
  go_wp2_with fail
  go_loopg [7, 8, 25] Q.length (fun gk s f i wr => ∃ k : Nat, k ≤ Q.length ∧ gk + k = Q.length ∧ i = .int .i64 k ∧ f = .int .i64 ((fcS Q n k).2 : Nat) ∧ Grows (Value.int .i64) 2 w.heap.size s (intsN (fcS Q n k).1) wr ∧ Below w.heap.size w wr)
  case atStart => exact ⟨0, Nat.zero_le _, by omega, rfl, rfl, G3.out, B4.out⟩
  case round =>
    obtain ⟨k, hk, hgk, rfl, rfl, hG, hB⟩ := hrel
    have HB := Lib.hid hB
    by_cases hlt : k < Q.length
    · have c1 := HC.out _ hB k hlt
      obtain ⟨ok, okc⟩ := HOK.out k (by omega)
      have U : Hid (fcS Q n (k + 1) = (frontN (fcS Q n k).1 (Q.getD k 0), (fcS Q n k).2 + (fcS Q n k).1.idxOf (Q.getD k 0) + 1)) := Lib.hid rfl
      have hxn : Q.getD k 0 < n := HX.out _ (by rw [show Q.getD k 0 = Q[k] by simp [List.getD, hlt]]; exact List.getElem_mem _)
      have okm : n * k ≤ 64 * 64 := Nat.mul_le_mul hn2 (by omega)
      generalize fcS Q n k = P at *
      obtain ⟨Y, f⟩ := P
      dsimp only at *
      generalize Q.getD k 0 = x at *
      have hYl := ok.len
      have hf : f ≤ 4096 := by omega
      obtain ⟨g, cap2, cur, rfl, hBg, hgl, hg, hn, hc, hsz, hA⟩ := hG.at (by omega)
      have HIL : Hid (IL wr (.slice (some ⟨g, 0, none⟩) Y.length cap2) (intsN Y)) := Lib.hid (by have h := hG.si (d := (0 : Int)); exact h.vl)
      obtain ⟨p1, p2⟩ := idx_in ((ok.all x).2 hxn)
      have HP : Hid (idxI (intsN Y) (x : Int) = ((Y.idxOf x : Nat) : Int)) := Lib.hid (by unfold idxI; rw [idx_ints, intsN_len, if_pos p1])
      have hsl := strike_len ok hxn
      obtain ⟨L, hL⟩ : ∃ L, L = Y.filter fun z => !(z == x) := ⟨_, rfl⟩
      have HL := Lib.hid hL
      have WT := Lib.hid (without2_any n hn1 g cap2 cur Y x wr (fun y hy => (ok.all y).1 hy) (by omega) hg hn hsz hA)
      have FP := Lib.hid (frontN_put Y x)
      rw [← hL] at WT hsl FP
      generalize Y.idxOf x = p at *
      have wf : IntKind.i64.wrap ((p : Int) + 1) = (p : Int) + 1 := by rw [IntKind.wrap_i64]; omega
      have wg : IntKind.i64.wrap ((f : Int) + ((p : Int) + 1)) = (f : Int) + ((p : Int) + 1) := by rw [IntKind.wrap_i64]; omega
      have UE : Hid (fcS Q n (k + 1) = (frontN Y x, f + p + 1)) := U
      unfold maxLen at hc
      have HYL := Lib.hid hYl
      have HSL := Lib.hid hsl
      have hll : L.length + 1 ≤ cap2 := by omega
      clear hG hB ok okm okc hL p1 p2 hg hA hsz U hYl hsl
      go_wp2_with fail
      go_at_call 90; refine (index_at _ (intsN Y) x _ HIL.out (by rw [intsN_len, HYL.out]; omega)).mono ?_; rintro e w4 ⟨rfl, rfl⟩
      rw [HP.out]
      go_wp2_with fail
      go_at_call 92; refine WT.out.mono ?_; rintro e w5 ⟨rfl, t5, a5, cur5, hg5, hs5⟩
      have B5 := Lib.hid (HB.out.trans ((t5.below (by omega)).mono hBg))
      have HS5 := Lib.hid t5.size
      obtain ⟨u, hu⟩ := cell_in (o := L.length) hg5 (by omega)
      have hgl5 : g < w5.heap.size := by have := HS5.out; omega
      have HINS : Hid (∀ W vb, Below w5.heap.size w5 W → w5.heap.size ≤ vb → W.cell? ⟨vb, 0, none⟩ = some (.int .i64 (x : Int)) → (∀ j, W.frozen? ⟨vb, j, none⟩ = false) →
          Calls Try.prog 91 #[.slice (some ⟨g, 0, none⟩) L.length cap2, .int .i64 0, .slice (some ⟨vb, 0, none⟩) 1 1] W (PutAt g 0 cap2 (L.length + 1) (putF (intsN L) 0 (x : Int)) W)) := Lib.hid fun W vb hb hvb hc' hf' => by
        have h := insert_any g 0 cap2 0 vb (x : Int) u (intsN L) W (a5.below hb (by omega)) (by rw [intsN_len, Nat.zero_add]; exact keep_cell hu hb (by omega)) (Nat.zero_le _) (by rw [intsN_len]; omega) (by omega) (by omega) hc' hf'
        rw [intsN_len] at h
        exact h
      have HG5 : Hid (∀ o, (w5.alloc o).heap[g]? = some (.cells cur5 2 (0, 0))) := Lib.hid fun o => (Below.heap_alloc w5 o g hgl5).trans hg5
      have HZ5 := Lib.hid hs5
      clear t5 a5 hu hg5 WT hs5
      go_wp2_with fail
      go_at_call 91; refine (HINS.out _ _ (below_alloc _ _) (Nat.le_refl _) (World.cell?_alloc_new _ _ _ _) (fun j => frozen_new _ _ _ j)).mono ?_; rintro e w6 ⟨rfl, t6, a6, k6⟩
      rw [FP.out] at a6
      obtain ⟨cur6, hg6, hs6⟩ := k6 _ _ (HG5.out _)
      have h6z := t6.size
      have hs5 := HZ5.out
      have B6 : Hid (Below w.heap.size w w6) := Lib.hid ((B5.out.trans ((below_alloc w5 _).mono B5.out.size)).trans ((t6.below (by simp; omega)).mono hBg))
      have hfl : (intsN (frontN Y x)).length = L.length + 1 := by rw [intsN_len]; unfold frontN; rw [List.length_cons, ← HL.out]
      have G6 : Hid (Grows (Value.int .i64) 2 w.heap.size (.slice (some ⟨g, 0, none⟩) (L.length + 1) cap2) (intsN (frontN Y x)) w6) := Lib.hid (by
        have h := Grows.of (cap := cap2) (L := intsN (frontN Y x)) hBg hg6 (by omega) (by unfold maxLen; omega) (by omega) a6
        rwa [hfl] at h)
      clear t6 a6 k6 hg6 hs6 hfl HINS h6z hs5
      go_wp2_with fail
      go_roundg (gk - 1)
      case measure => omega
      case rel => exact ⟨k + 1, by omega, by omega, by go_num, by (rw [UE.out]; go_num), by rw [UE.out]; exact G6.out, B6.out⟩
    · obtain rfl : k = Q.length := by omega
      have G := Lib.hid hG
      obtain ⟨sa, sc, rfl⟩ := SI.len (d := (0 : Int)) hG.si
      clear hG hB
      go_wp2_with fail
      refine bodyPost_ret (v := .tuple #[.int .i64 ((fcS Q n Q.length).2 : Nat), .slice sa (intsN (fcS Q n Q.length).1).length sc, .bool true]) (by simp [results, Try.results46, go_sem]) rfl ?_
      exact ⟨_, rfl, G.out.si, HB.out⟩
end Go.Proofs.Ytnakpfbeeekmiaa
