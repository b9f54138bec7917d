/- Domains without numbers that are in no choice: the program. -/
import Derived.Test.YtiobbclciboggaaDfI
import Derived.Test.YtiobbclciboggaaNr0
import Derived.Test.YtiobbclciboggaaNrU
import Derived.Laws.MakeOwn
import Derived.OwnWalk
import Derived.Deep.AppendLies
import Derived.WalkSpells
namespace Go.Proofs.Ytiobbclciboggaa
open Go.RowKit Go.ChangeShapes Go.WideShapes

theorem Try.infoNi : (Try.prog.info? 2).map (fun i => (i.zero, i.size, i.bytes)) = some (some (.int .i64 0), 1, 8) := by kernel_rfl
def SaysLLB (C : List (List Int)) (b : Bool) (w : World) (e : Ending) (w' : World) : Prop := ∃ u, e = .returned (.tuple #[u, .bool b]) ∧ LD w.heap.size w'.heap.size w' u C ∧ Below w.heap.size w w'
def nrL (Ds : List (List Int)) : List (List Int) := if dfB Ds then nrC (dfX Ds) Ds else []
/-- What a clone of a list of lists holds. -/
def ClonedL (n : Nat) (U : Nat → Value) (w : World) (e : Ending) (w' : World) : Prop :=
  ∃ g cap, e = .returned (.slice (some ⟨g, 0, none⟩) n cap) ∧ w.heap.size ≤ g ∧ g < w'.heap.size ∧ n ≤ cap ∧ (∀ i, w'.frozen? ⟨g, i, none⟩ = false) ∧ (∀ i, i < n → w'.cell? ⟨g, i, none⟩ = some (U i)) ∧ Below w.heap.size w w'
set_option maxHeartbeats 1000000 in
theorem cloneL_any (b off dcap n : Nat) (U : Nat → Value) (w : World) (h0 : 0 < n) (hn : n ≤ 1048576) (hbl : b < w.heap.size) (hcell : ∀ i, i < n → w.cell? ⟨b, off + i, none⟩ = some (U i) ∧ ∃ ao l c, U i = .slice ao l c) :
    Calls Try.prog 63 #[.slice (some ⟨b, off, none⟩) n (n + dcap)] w (ClonedL n U w) := by
  obtain ⟨j0, hj, hy0, hy1, hy2⟩ := info_parts Try.infoL
  have HC : Hid (∀ j u, ((List.range n).map U)[j]? = some u → (w.alloc (.cells #[] 24)).cell? ((⟨b, off, none⟩ : Addr).add j) = some u) := Lib.hid fun j u hu => by
    have hjn : j < n := by
      rcases Nat.lt_or_ge j n with h | h
      · exact h
      · rw [List.getElem?_eq_none (by simpa using h)] at hu; cases hu
    have : u = U j := by
      have := hu
      simp [hjn] at this
      exact this.symm
    subst this
    rw [Go.WideShapes.add_plain, (below_alloc w _).cell (p := ⟨b, off + j, none⟩) hbl]
    exact (hcell j hjn).1
  have H1 : Hid (∀ u ∈ (List.range n).map U, u.oneCell' = true) := Lib.hid fun u hu => by
    obtain ⟨i, hi, rfl⟩ := List.mem_map.1 hu
    obtain ⟨ao, l, c, e⟩ := (hcell i (List.mem_range.1 hi)).2
    rw [e]; rfl
  have O0 := Lib.hid (World.ownsRow_made (size := 1) (e := 24) w #[] 0 (Nat.le_refl w.heap.size) (Nat.zero_le _) rfl)
  have hnil := fun (W : World) => Lib.run_eql_slice_nil (P := Try.prog) W 22 24 (some ⟨b, off, none⟩) n (n + dcap) 0 0 Try.underlying22
  clear hcell
  go_enter Try.func63, Try.ntmps63
  go_wp2_with (at_builtin; refine wpList_append_lies _ rfl _ _ 22 rfl w.heap.size 24 j0 (.slice none 0 0) 1 24 Try.underlying22 hj hy0 hy1 hy2 rfl (by decide) _ _ _ rfl O0.out ⟨b, off, none⟩ n (n + dcap) ((List.range n).map U) rfl (by simp) HC.out H1.out h0 (by unfold maxLen; omega) (by omega) (by simp) (w.heap.size + 1) (by simp) ?_; intro g cap w' hown hgrow hat hgl; have HO := Lib.hid hown; have HB : Hid (Below w.heap.size w w') := Lib.hid ((below_alloc w _).grown hgrow (by simp) (fun k hk => Nat.le_of_eq (Option.some.inj hk))); clear hown hgrow hat)
  refine bodyPost_ret (results_tmp rfl _ _ _) rfl ?_
  have hO := HO.out
  have hlt := World.ownsRow.lt hO g rfl
  have hc : 0 + n ≤ cap := by
    rcases hO.2 with ⟨hz, _⟩ | ⟨g', cap', cur, e, hB, hg, hn, hc, hs, ht⟩
    · cases hz
    · injection e with e1 e2 e3
      omega
  refine ⟨g, cap, rfl, hlt.1, hgl, by omega, hO.frozenAt, fun i hi => ?_, HB.out⟩
  rw [hO.cellAt i (by omega)]
  simp [hi]
/-- Domains with one number at a place, as they lie. -/
theorem with_lv {g cap k : Nat} {x : Int} {Ds : List (List Int)} {D : Nat → Value} {w3 W : World} (hk : k < Ds.length) (hn : Ds.length ≤ cap) (hc : ∀ i, i < Ds.length → w3.cell? ⟨g, i, none⟩ = some (D i)) (hg : g < w3.heap.size)
    (hW : W = (w3.setCell ⟨g, k, none⟩ (.slice (some ⟨w3.heap.size, 0, none⟩) 1 1)).alloc (.cells #[.int .i64 x] 2)) (hi : ∀ i, i < Ds.length → IL W (D i) (Ds.getD i [])) : LV W (.slice (some ⟨g, 0, none⟩) Ds.length cap) (Ds.set k [x]) := by
  have hs : (w3.setCell ⟨g, k, none⟩ (.slice (some ⟨w3.heap.size, 0, none⟩) 1 1)).heap.size = w3.heap.size := by simp [World.setCell]
  have hz : W.heap.size = w3.heap.size + 1 := by rw [hW]; simp [World.setCell]
  have hold : ∀ i, W.cell? ⟨g, i, none⟩ = (w3.setCell ⟨g, k, none⟩ (.slice (some ⟨w3.heap.size, 0, none⟩) 1 1)).cell? ⟨g, i, none⟩ := fun i => by
    rw [hW]; exact (below_alloc _ _).cell (p := ⟨g, i, none⟩) (by rw [hs]; exact hg)
  have hnew : W.cell? ⟨w3.heap.size, 0, none⟩ = some (.int .i64 x) := by
    have h := World.cell?_alloc_new (w3.setCell ⟨g, k, none⟩ (.slice (some ⟨w3.heap.size, 0, none⟩) 1 1)) #[.int .i64 x] 2 0
    rw [hs] at h
    rw [hW]; exact h
  obtain ⟨c, rfl⟩ := Nat.le.dest hn
  refine Or.inr ⟨g, 0, c, fun i => if i = k then .slice (some ⟨w3.heap.size, 0, none⟩) 1 1 else D i, by rw [List.length_set], by rw [List.length_set]; omega, by omega, fun i h => ?_⟩
  rw [List.length_set] at h
  rw [set_at, Nat.zero_add]
  by_cases e : i = k
  · subst e
    rw [if_pos ⟨rfl, hk⟩]
    simp only [if_true]
    refine ⟨by rw [hold, World.cell?_setCell_same _ _ _ (hc i h)], Or.inr ⟨w3.heap.size, 0, 0, rfl, by simp, by omega, fun j hj => ?_⟩⟩
    have : j = 0 := by simpa using hj
    subst this
    exact hnew
  · rw [if_neg (fun q => e q.1)]
    simp only [e, if_false]
    refine ⟨?_, hi i h⟩
    rw [hold, World.cell?_setCell_other _ _ _ _ (by intro q; injection q with _ q _; exact e q.symm)]
    exact hc i h
theorem okl_with {Ds : List (List Int)} (ok : DomsOk Ds) {k : Nat} {x : Int} (hx : 0 ≤ x ∧ x ≤ 31) : OKL (Ds.set k [x]) := by
  have hd := doms_each ok
  have l2 := ok.l2
  have each : ∀ i, ((Ds.set k [x]).getD i []).length ≤ 8 ∧ ∀ y ∈ (Ds.set k [x]).getD i [], 0 ≤ y ∧ y ≤ 31 := fun i => by
    rw [set_at]
    split
    · exact ⟨by simp, fun y hy => by simp at hy; subst hy; exact hx⟩
    · exact hd i
  have tot : ∀ n, totAt (Ds.set k [x]) n ≤ 8 * n := fun n => by
    induction n with
    | zero => exact Nat.le_refl _
    | succ n ih => have := (each n).1; rw [totAt]; omega
  have hl : (Ds.set k [x]).length = Ds.length := by simp
  refine ⟨?_, ⟨by unfold maxLen; omega, fun i _ => ⟨by have := (each i).1; unfold maxLen; omega, fun y hy => ?_⟩⟩⟩
  · have := tot (Ds.set k [x]).length
    unfold szL; omega
  · have := (each i).2 y hy
    omega
theorem getD_mem {E : List Int} {a : Nat} (h : a < E.length) : E.getD a 0 ∈ E := by
  rw [show E.getD a 0 = E[a] by simp [List.getD, h]]; exact List.getElem_mem _
set_option maxRecDepth 100000 in
set_option maxHeartbeats 8000000 in
theorem implNarrowDiffers_any (v : Value) (Ds : List (List Int)) (w : World) (hv : LV w v Ds) (o : OKL Ds) :
    Calls Try.prog 27 #[v] w (SaysLLB (nrL Ds) (dfB Ds) w) := by
  obtain ⟨i0, hi, hz0, hz1, hz2⟩ := info_parts Try.infoNi
  obtain ⟨j0, hj, hy0, hy1, hy2⟩ := info_parts Try.infoL
  have HV := Lib.hid hv
  cases q : dfB Ds with
  | false =>
    obtain ⟨ao, cap, rfl⟩ := hv.long
    have H := Lib.hid q
    have e : nrL Ds = [] := by unfold nrL; rw [q]; rfl
    rw [e]
    clear q e hv
    go_enter Try.func27, Try.ntmps27
    go_wp2_with fail
    go_at_call 18; refine (implFirstDiffer_any _ Ds _ HV.out o).mono ?_; rintro e w1 ⟨u, rfl, hu, b1⟩
    have B1 := Lib.hid b1
    obtain ⟨ua, uc, rfl⟩ := SI.len hu
    rw [H.out]
    clear b1 hu
    go_wp2_with fail
    go_ret2
    exact ⟨_, rfl, LD.nil _ (Nat.le_refl _) _ _, B1.out⟩
  | true =>
    have H := Lib.hid q
    have hd : domsB Ds = true := by unfold dfB at q; simp only [Bool.and_eq_true] at q; exact q.1
    have HOK := Lib.hid (domsB_ok hd)
    have e : nrL Ds = nrC (dfX Ds) Ds := by unfold nrL; rw [q]; rfl
    rw [e]
    obtain ⟨X, hX⟩ : ∃ X, dfX Ds = X := ⟨_, rfl⟩
    have HX : Hid (exts nwB Ds Ds.length [] = X) := Lib.hid hX
    rw [hX]
    have hn1 := HOK.out.l1
    have hn6 := HOK.out.l2
    rcases hv with ⟨hz, -⟩ | ⟨b, off, dcap, D, rfl, hpos, hbl, hcell⟩
    · rw [hz] at hn1; simp at hn1
    have HDW : Hid (∀ W, Below w.heap.size w W → ∀ i, i < Ds.length → W.cell? ⟨b, off + i, none⟩ = some (D i) ∧ IL W (D i) (Ds.getD i [])) := Lib.hid fun W hb i hi =>
      ⟨by rw [hb.cell (p := ⟨b, off + i, none⟩) hbl]; exact (hcell i hi).1, (hcell i hi).2.below hb (Nat.le_refl _)⟩
    clear q e hX hd hcell
    go_enter Try.func27, Try.ntmps27
    go_wp2_with fail
    go_at_call 18; refine (implFirstDiffer_any _ Ds _ HV.out o).mono ?_; rintro e w1 ⟨u, rfl, hu, b1⟩
    have B1 := Lib.hid b1
    obtain ⟨ua, uc, rfl⟩ := SI.len hu
    rw [H.out]
    clear b1 hu
    go_wp2_with (at_make; refine wpList_make_full _ rfl _ _ 22 rfl w1.heap.size 24 j0 vnil 1 Try.underlying22 hj hy0 hy1 _ _ _ _ Ds.length rfl rfl rfl rfl (by rw [hy2]; omega) (by unfold maxLen; omega) (Nat.le_refl _) ?_; intro w2 hown hgrow)
    have U0 : Hid (NarUp w.heap.size w1.heap.size Ds.length (stR X Ds 0 0) w w2 (fun _ => vnil)) := Lib.hid (by
      rw [stR_zero]
      exact NarUp.start hown B1.out.size (B1.out.trans (((Below.refl _ _).grown hgrow (Nat.le_refl _) (fun g hg => by cases hg)).mono B1.out.size)) (hown.lt _ rfl).2)
    clear hown hgrow
    obtain ⟨N, hN⟩ : ∃ N, w1.heap.size = N := ⟨_, rfl⟩
    rw [hN] at U0 ⊢
    clear hN
    go_loopg [26] Ds.length (fun gk i wr => ∃ (k : Nat) (U : Nat → Value), k ≤ Ds.length ∧ gk + k = Ds.length ∧ i = .int .i64 k ∧ NarUp w.heap.size N Ds.length (stR X Ds k 0) w wr U)
    case atStart => exact ⟨0, _, Nat.zero_le _, by omega, rfl, U0.out⟩
    case round =>
      clear U0
      obtain ⟨k, U, hk, hgk, rfl, hU⟩ := hrel
      have HU := Lib.hid hU
      clear hU
      by_cases hkn : k < Ds.length
      · have cu := (HDW.out _ HU.out.below k hkn).1
        have iu := (HDW.out _ (Below.refl _ _) k hkn).2
        obtain ⟨E, hE⟩ : ∃ E, E = Ds.getD k [] := ⟨_, rfl⟩
        have HE := Lib.hid hE
        have hEl : E.length ≤ 8 := by rw [hE]; exact (HOK.out.d k hkn).l2
        have hE1 : 1 ≤ E.length := by rw [hE]; exact (HOK.out.d k hkn).l1
        rw [← hE] at iu
        obtain ⟨Dk, hDk⟩ : ∃ Dk, Dk = D k := ⟨_, rfl⟩
        rw [← hDk] at cu iu
        rcases iu with ⟨hz, -⟩ | ⟨eb, eo, ec, rfl, -, ebl, ecell⟩
        · rw [hz] at hE1; simp at hE1
        have HEC : Hid (∀ W, Below w.heap.size w W → ∀ a, a < E.length → W.cell? ⟨eb, eo + a, none⟩ = some (.int .i64 (E.getD a 0))) := Lib.hid fun W h a ha => by
          rw [h.cell (p := ⟨eb, eo + a, none⟩) ebl]; exact ecell a ha
        clear hE hDk ecell
        obtain ⟨wA, rfl⟩ : ∃ wA, wA = wr := ⟨_, rfl⟩
        obtain ⟨gA, rfl⟩ : ∃ gA, gA = gk := ⟨_, rfl⟩
        go_wp2_with fail
        go_loopg [33] E.length (fun gk i wr => ∃ (a : Nat) (U : Nat → Value), a ≤ E.length ∧ gk + a = E.length ∧ i = .int .i64 a ∧ NarUp w.heap.size N Ds.length (stR X Ds k a) w wr U)
        case atStart => exact ⟨0, _, Nat.zero_le _, by omega, rfl, HU.out⟩
        case round =>
          clear HU
          obtain ⟨a, U, ha, hga, rfl, hU⟩ := hrel
          have HU := Lib.hid hU
          have hNl := hU.n2
          have hwN := hU.n1
          clear hU
          by_cases han : a < E.length
          · have cx := HEC.out _ HU.out.below a han
            obtain ⟨x, hx⟩ : ∃ x, x = E.getD a 0 := ⟨_, rfl⟩
            have hxm : x ∈ Ds.getD k [] := by rw [hx, ← HE.out]; exact getD_mem han
            have hxv : 0 ≤ x ∧ x ≤ 31 := (doms_each HOK.out k).2 x hxm
            have HD := Lib.hid (domsB_with HOK.out hkn hxm)
            have HO := Lib.hid (okl_with (k := k) HOK.out hxv)
            obtain ⟨t, ht⟩ : ∃ t, hasC X k x = t := ⟨_, rfl⟩
            have HT : Hid (decide (dfX (Ds.set k [x]) ≠ []) = t) := Lib.hid (by rw [← ht, ← HX.out]; exact has_with hkn hxm)
            have HS : Hid (t = true → stR X Ds k (a + 1) = fun j => if j = k then stR X Ds k a k ++ [x] else stR X Ds k a j) := Lib.hid fun e => by
              have h := stR_yes (X := X) (Ds := Ds) (k := k) (a := a) (by rw [← HE.out]; exact han) (by rw [← HE.out, ← hx, ht]; exact e)
              rw [h, ← HE.out, ← hx]
            have HS2 : Hid (t = false → stR X Ds k (a + 1) = stR X Ds k a) := Lib.hid fun e =>
              stR_no (by rw [← HE.out]; exact han) (by rw [← HE.out, ← hx, ht]; exact e)
            rw [← hx] at cx
            have HCL : Hid (∀ i, i < Ds.length → wr.cell? ⟨b, off + i, none⟩ = some (D i) ∧ ∃ ao l c, D i = .slice ao l c) := Lib.hid fun i hi => by
              have h := HDW.out _ HU.out.below i hi
              obtain ⟨ao, c, e⟩ := h.2.long
              exact ⟨h.1, ao, _, c, e⟩
            have hbi : b < wr.heap.size := Nat.lt_of_lt_of_le hbl HU.out.below.size
            clear hx hxm hxv ht
            go_wp2_with fail
            go_at_call 63; refine (cloneL_any b off dcap Ds.length D _ hpos (by omega) hbi HCL.out).mono ?_; rintro e w3 ⟨g, cap, rfl, hg1, hg2, hcap, hfz, hcl, b3⟩
            have HLV : Hid (LV ((w3.setCell ⟨g, k, none⟩ (.slice (some ⟨w3.heap.size, 0, none⟩) 1 1)).alloc (.cells #[.int .i64 x] 2)) (.slice (some ⟨g, 0, none⟩) Ds.length cap) (Ds.set k [x])) := Lib.hid (with_lv hkn hcap hcl hg2 rfl (fun i hi => (HDW.out _ (((HU.out.below.trans (b3.mono HU.out.below.size)).setCell (p := ⟨g, k, none⟩) (Nat.le_trans HU.out.below.size hg1) _).alloc (by have := HU.out.below.size; have := b3.size; simp [World.setCell]; omega) _) i hi).2))
            have HB4 : Hid (Below wr.heap.size wr ((w3.setCell ⟨g, k, none⟩ (.slice (some ⟨w3.heap.size, 0, none⟩) 1 1)).alloc (.cells #[.int .i64 x] 2))) := Lib.hid ((b3.setCell (p := ⟨g, k, none⟩) hg1 _).alloc (by have := b3.size; simp [World.setCell]; exact this) _)
            have d0 := hcl k hkn
            have f0 := hfz k
            generalize D k = Dk0 at d0
            clear hcl hfz b3 cx
            go_wp2_with fail
            go_at_call 18; refine (firstDiffer_yes _ (Ds.set k [x]) _ HLV.out HD.out (fun W hW => by have h := implAreDomains_any _ _ W hW HO.out; rw [HD.out] at h; exact h)).mono ?_; rintro e w5 ⟨u, rfl, hu, b5⟩
            have HB5 := Lib.hid (HB4.out.trans (b5.mono HB4.out.size))
            obtain ⟨ua, uc, rfl⟩ := SI.len hu
            rw [HT.out]
            clear b5 hu d0 f0
            cases t with
            | false =>
              have HU5 : Hid (NarUp w.heap.size N Ds.length (stR X Ds k (a + 1)) w w5 U) := Lib.hid (by rw [HS2.out rfl]; exact HU.out.keep HB5.out)
              go_wp2_with fail
              go_roundg (gk - 1)
              case measure => omega
              case rel => exact ⟨a + 1, _, by omega, by omega, by go_num, HU5.out⟩
            | true =>
              have HS1 := Lib.hid (HS.out rfl)
              have HU5 := Lib.hid (HU.out.keep HB5.out)
              have HUA := Lib.hid (HU5.out.keep (below_alloc w5 (.cells #[.int .i64 x] 2)))
              have c5 := HU5.out.row k hkn
              have hN5 := HU5.out.n2
              have hl8 : (stR X Ds k a k).length ≤ 8 := Nat.le_trans stR_len (doms_each HOK.out k).1
              obtain ⟨y, hy⟩ : ∃ y, U k = y := ⟨_, rfl⟩
              have HY := Lib.hid hy
              rw [hy] at c5
              have HG : Hid (Grows (Value.int .i64) 2 w.heap.size y (stR X Ds k a k) w5) := Lib.hid (hy ▸ HU5.out.own k hkn)
              have HNE : Hid (some N ≠ y.ownBlock) := Lib.hid (fun e => HU5.out.ne k hkn (by rw [hy]; exact e.symm))
              have hww : w.heap.size ≤ w5.heap.size := HU5.out.below.size
              clear hy
              go_wp2_with (at_builtin; (refine wpList_append_lies _ rfl _ _ 24 rfl w.heap.size 2 i0 (.int .i64 0) 1 8 Try.underlying24 hi hz0 hz1 hz2 rfl (by decide) _ _ _ rfl (HG.out.alloc _) ⟨w5.heap.size, 0, none⟩ 1 1 [.int .i64 x] rfl rfl one_new (by intro u hu; simp at hu; subst hu; rfl) (by omega) (by unfold maxLen; omega) (by omega) (by simp; omega) (w5.heap.size + 1) (by simp) ?_); intro g2 cap2 w6 hown hgrow hat hgl; have HO6 := Lib.hid hown; have HG6 := Lib.hid hgrow; have HA6 := Lib.hid hat; (have d6 : w6.cell? ⟨N, k, none⟩ = some y := by (rw [World.cell?_of_block (w := w5.alloc (.cells #[.int .i64 x] 2)) (a := ⟨N, k, none⟩) (hgrow.block N HUA.out.n2 HNE.out)]; rw [← HY.out]; exact HUA.out.row k hkn)); (have f6 : w6.frozen? ⟨N, k, none⟩ = false := by (rw [World.frozen?_of_block (w := w5.alloc (.cells #[.int .i64 x] 2)) (a := ⟨N, k, none⟩) (hgrow.block N HUA.out.n2 HNE.out)]; exact HUA.out.free k)); have hN6 : N < w6.heap.size := Nat.lt_of_lt_of_le HUA.out.n2 hgrow.size; clear hown hgrow hat)
              have hu7 := HUA.out.app (x := x) hkn (Nat.le_refl _) HO6.out (by rw [HY.out]; exact HG6.out) (by rw [HY.out]; exact HA6.out.imp id (fun e => by rw [e]; simp))
              rw [← HS1.out] at hu7
              have HU7 := Lib.hid hu7
              clear hu7
              go_wp2_with fail
              go_roundg (gk - 1)
              case measure => omega
              case rel => exact ⟨a + 1, _, by omega, by omega, by go_num, HU7.out⟩
          · obtain rfl : a = E.length := by omega
            have HN : Hid (stR X Ds k E.length = stR X Ds (k + 1) 0) := Lib.hid (stR_end (by rw [← HE.out]; exact Nat.le_refl _))
            go_wp2_with fail
            go_roundg (gA - 1)
            case measure => omega
            case rel => exact ⟨k + 1, _, by omega, by omega, by go_num, by rw [← HN.out]; exact HU.out⟩
      · obtain rfl : k = Ds.length := by omega
        have HR : Hid (LD w.heap.size wr.heap.size wr (.slice (some ⟨N, 0, none⟩) Ds.length Ds.length) (nrC X Ds)) := Lib.hid (by
          have h := nrC_len X Ds
          have h2 := HU.out
          rw [← h] at h2 ⊢
          exact h2.ld (fun j hj => by
            rw [h] at hj
            rw [nrC_at hj, h]; unfold stR; rw [if_pos hj]))
        have HB := Lib.hid HU.out.below
        go_wp2_with fail
        go_ret2
        exact ⟨_, rfl, HR.out, HB.out⟩
end Go.Proofs.Ytiobbclciboggaa
