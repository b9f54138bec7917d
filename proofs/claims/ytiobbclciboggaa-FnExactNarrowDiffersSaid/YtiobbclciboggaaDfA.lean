/- Choices of different numbers: the model, all of them. -/
import Derived.Test.YtiobbclciboggaaDfN
import Derived.Laws.MakeOwn
import Derived.OwnWalk
import Derived.Deep.AppendLies
namespace Go.Proofs.Ytiobbclciboggaa
open Go.RowKit Go.ChangeShapes Go.WideShapes

theorem Try.infoBo : (Try.prog.info? 4).map (fun i => (i.zero, i.size, i.bytes)) = some (some (.bool false), 1, 1) := by kernel_rfl
theorem Try.infoBs : (Try.prog.info? 79).map (fun i => (i.zero, i.size, i.bytes)) = some (some (.slice none 0 0), 1, 24) := by kernel_rfl
def rowV (Ds : List (List Int)) (G : Nat → Nat) (j : Nat) : Value := .slice (some ⟨G j, 0, none⟩) (Ds.getD j []).length (Ds.getD j []).length
/-- The first k rows of marks. -/
structure SeenUp (lo : Nat) (Ds : List (List Int)) (k : Nat) (s : Value) (G : Nat → Nat) (w : World) : Prop where
  own : w.ownsRow lo 79 1 s k ((List.range k).map (rowV Ds G))
  g1 : ∀ j, j < k → lo ≤ G j
  g2 : ∀ j, j < k → G j < w.heap.size
  ne : ∀ j, j < k → s.ownBlock ≠ some (G j)
  inj : ∀ i j, i < k → j < k → i ≠ j → G i ≠ G j
  cell : ∀ i, i < k → ∀ q, q < (Ds.getD i []).length → w.cell? ⟨G i, q, none⟩ = some (.bool false)
  free : ∀ i, i < k → ∀ q, w.frozen? ⟨G i, q, none⟩ = false
theorem SeenUp.below {lo : Nat} {Ds : List (List Int)} {k : Nat} {s : Value} {G : Nat → Nat} {w w' : World} (h : SeenUp lo Ds k s G w) (hb : Below w.heap.size w w') : SeenUp lo Ds k s G w' := by
  refine ⟨h.own.kept (row := none) ⟨hb.os, hb.tape, hb.output, hb.size, fun i hi _ => hb.block i hi⟩ ?_, h.g1, fun j hj => Nat.lt_of_lt_of_le (h.g2 j hj) hb.size, h.ne, h.inj, fun i hi q hq => ?_, fun i hi q => ?_⟩
  · cases hs : s.ownBlock with
    | none => exact Or.inl rfl
    | some b => exact Or.inr (by simp)
  · rw [hb.cell (p := ⟨G i, q, none⟩) (h.g2 i hi)]; exact h.cell i hi q hq
  · rw [hb.frozen (p := ⟨G i, q, none⟩) (h.g2 i hi)]; exact h.free i hi q
theorem made_bool {w : World} {n B : Nat} (h : w.ownsRow B 4 1 (.slice (some ⟨B, 0, none⟩) n n) n (madeCells (Value.bool false).cells (n * 1)).toList) : (∀ q, q < n → w.cell? ⟨B, q, none⟩ = some (.bool false)) ∧ ∀ q, w.frozen? ⟨B, q, none⟩ = false := by
  refine ⟨fun q hq => ?_, h.frozenAt⟩
  rw [h.cellAt q (by omega)]
  show (madeCells #[Value.bool false] (n * 1)).toList[q]? = _
  rw [Nat.mul_one, toList_madeCells_one]
  simp [hq]
/-- One more row. -/
theorem SeenUp.up {lo : Nat} {Ds : List (List Int)} {k g : Nat} {s s' : Value} {G : Nat → Nat} {w w1 w' : World} (h : SeenUp lo Ds k s G w) (hg : g = w.heap.size) (hlo : lo ≤ w.heap.size)
    (hb : Below w.heap.size w w1) (hgl : g < w1.heap.size) (hc : ∀ q, q < (Ds.getD k []).length → w1.cell? ⟨g, q, none⟩ = some (.bool false)) (hf : ∀ q, w1.frozen? ⟨g, q, none⟩ = false)
    (hown : w'.ownsRow lo 79 1 s' (k + 1) ((List.range k).map (rowV Ds G) ++ [.slice (some ⟨g, 0, none⟩) (Ds.getD k []).length (Ds.getD k []).length])) (hgr : w1.grownBy w' s.ownBlock) (hat : s'.ownBlock = s.ownBlock ∨ ∃ b, s'.ownBlock = some b ∧ w1.heap.size ≤ b) :
    SeenUp lo Ds (k + 1) s' (fun j => if j = k then g else G j) w' := by
  have hsb : ∀ b, s.ownBlock = some b → b < w.heap.size := fun b hb => (World.ownsRow.lt h.own b hb).2
  have hold : ∀ j, j < k → (if j = k then g else G j) = G j := fun j hj => if_neg (by omega)
  have far : ∀ j, j < k + 1 → (if j = k then g else G j) < w1.heap.size := fun j hj => by
    split
    · exact hgl
    · exact Nat.lt_of_lt_of_le (h.g2 j (by omega)) hb.size
  have nes : ∀ j, j < k + 1 → s.ownBlock ≠ some (if j = k then g else G j) := fun j hj => by
    split
    · intro e; have := hsb _ e; omega
    · exact h.ne j (by omega)
  refine ⟨?_, fun j hj => ?_, fun j hj => Nat.lt_of_lt_of_le (far j hj) hgr.size, fun j hj => ?_, fun i j hi hj hij => ?_, fun i hi q hq => ?_, fun i hi q => ?_⟩
  · have e : (List.range (k + 1)).map (rowV Ds fun j => if j = k then g else G j) = (List.range k).map (rowV Ds G) ++ [.slice (some ⟨g, 0, none⟩) (Ds.getD k []).length (Ds.getD k []).length] := by
      rw [List.range_succ, List.map_append]
      congr 1
      · exact List.map_congr_left fun j hj => by
          have := List.mem_range.1 hj
          show Value.slice (some ⟨if j = k then g else G j, 0, none⟩) _ _ = Value.slice (some ⟨G j, 0, none⟩) _ _
          rw [hold j this]
      · simp [rowV]
    rw [e]; exact hown
  · split
    · omega
    · exact h.g1 j (by omega)
  · rcases hat with e | ⟨b, e, hbl⟩
    · rw [e]; exact nes j hj
    · rw [e]; intro q; injection q with q; have := far j hj; omega
  · by_cases e1 : i = k
    · by_cases e2 : j = k
      · omega
      · simp only [e1, e2, if_true, if_false]
        have := h.g2 j (by omega); omega
    · by_cases e2 : j = k
      · simp only [e1, e2, if_true, if_false]
        have := h.g2 i (by omega); omega
      · simp only [e1, e2, if_false]
        exact h.inj i j (by omega) (by omega) hij
  · rw [World.cell?_of_block (w := w1) (hgr.block _ (far i hi) (fun e => nes i hi e.symm))]
    by_cases e1 : i = k
    · subst e1; simp only [if_true]; exact hc q hq
    · simp only [e1, if_false]
      rw [hb.cell (p := ⟨G i, q, none⟩) (h.g2 i (by omega))]
      exact h.cell i (by omega) q hq
  · rw [World.frozen?_of_block (w := w1) (hgr.block _ (far i hi) (fun e => nes i hi e.symm))]
    by_cases e1 : i = k
    · subst e1; simp only [if_true]; exact hf q
    · simp only [e1, if_false]
      rw [hb.frozen (p := ⟨G i, q, none⟩) (h.g2 i (by omega))]
      exact h.free i (by omega) q
theorem SeenUp.seen {lo : Nat} {Ds : List (List Int)} {B sc p : Nat} {G : Nat → Nat} {w : World} (h : SeenUp lo Ds Ds.length (.slice (some ⟨B, 0, none⟩) Ds.length sc) G w) (hp : w.heap.size ≤ p) : Seen lo p B G Ds (fun _ _ => false) w := by
  have hb := World.ownsRow.lt h.own B rfl
  refine ⟨fun i hi => ?_, h.cell, h.free, h.g2, hb.1, by omega, h.g1, fun i hi => by have := h.g2 i hi; omega, fun i hi e => h.ne i hi (by rw [e]; rfl), h.inj⟩
  rw [h.own.cellAt i (by omega)]
  simp [hi, rowV]
/-- What the model tells of all choices. -/
def AllD (Ds : List (List Int)) (w : World) (e : Ending) (w' : World) : Prop :=
  ∃ fv B sc G p, e = .returned (.tuple #[.int .i64 (cntW (exts nwB Ds Ds.length [])), fv, .slice (some ⟨B, 0, none⟩) Ds.length sc]) ∧ Below w.heap.size w w' ∧ II w.heap.size w'.heap.size w' fv (hdo (exts nwB Ds Ds.length []) []) ∧ Seen w.heap.size p B G Ds (seenX Ds (fun _ _ => false) (exts nwB Ds Ds.length [])) w'
set_option maxRecDepth 100000 in
set_option maxHeartbeats 8000000 in
theorem l07All_any (dv : Value) (Ds : List (List Int)) (w : World) (hdv : LV w dv Ds) (ok : DomsOk Ds) :
    Calls Try.prog 58 #[dv] w (AllD Ds w) := by
  obtain ⟨i0, hi, hz0, hz1, hz2⟩ := info_parts Try.infoBo
  obtain ⟨j0, hj, hy0, hy1, hy2⟩ := info_parts Try.infoBs
  have HOK := Lib.hid ok
  have hn1 := ok.l1
  have hn6 := ok.l2
  have HDV := Lib.hid hdv
  rcases hdv with ⟨hz, -⟩ | ⟨b, off, dcap, U, rfl, hpos, hbl, hcell⟩
  · rw [hz] at hn1; simp at hn1
  have HDW : Hid (∀ W, Below w.heap.size w W → ∀ i, i < Ds.length → W.cell? ⟨b, off + i, none⟩ = some (U i) ∧ IL W (U i) (Ds.getD i [])) := Lib.hid fun W hb i hi =>
    ⟨by rw [hb.cell (p := ⟨b, off + i, none⟩) hbl]; exact (hcell i hi).1, (hcell i hi).2.below hb (Nat.le_refl _)⟩
  have U0 : Hid (SeenUp w.heap.size Ds 0 (.slice (some ⟨w.heap.size, 0, none⟩) 0 0) (fun _ => 0) (w.alloc (.cells #[] 79))) := Lib.hid ⟨World.ownsRow_made w #[] 0 (Nat.le_refl _) (Nat.zero_le _) rfl, fun j h => by omega, fun j h => by omega, fun j h => by omega, fun i j h => by omega, fun i h => by omega, fun i h => by omega⟩
  have HB0 := Lib.hid (below_alloc w (.cells #[] 79))
  clear hcell ok hpos
  go_enter Try.func58, Try.ntmps58
  go_wp2_with fail
  go_loopg [5, 12] Ds.length (fun gk s i wr => ∃ (k : Nat) (G : Nat → Nat), k ≤ Ds.length ∧ gk + k = Ds.length ∧ i = .int .i64 k ∧ Below w.heap.size w wr ∧ SeenUp w.heap.size Ds k s G wr)
  case atStart => exact ⟨0, _, Nat.zero_le _, by omega, by simp, HB0.out, U0.out⟩
  case round =>
    obtain ⟨k, G, hk, hgk, rfl, hB, hU⟩ := hrel
    have HB := Lib.hid hB
    have HU := Lib.hid hU
    have hws : w.heap.size ≤ wr.heap.size := hB.size
    clear hB hU
    by_cases hkn : k < Ds.length
    · obtain ⟨cu, iu⟩ := HDW.out _ HB.out k hkn
      obtain ⟨E, hE⟩ : ∃ E, E = Ds.getD k [] := ⟨_, rfl⟩
      have HE := Lib.hid hE
      have hEl : E.length ≤ 8 := by rw [hE]; exact (HOK.out.d k hkn).l2
      rw [← hE] at iu
      obtain ⟨ua, uc, hue⟩ := iu.long
      rw [hue] at cu
      clear hE hue iu
      go_wp2_with (first | (at_make; refine wpList_make_full _ rfl _ _ 79 rfl wr.heap.size 4 i0 (.bool false) 1 Try.underlying79 hi hz0 hz1 _ _ _ _ E.length rfl rfl rfl rfl (by rw [hz2]; omega) (by unfold maxLen; omega) (Nat.le_refl _) ?_; intro w2 hown hgrow; have HB2 := Lib.hid ((Below.refl wr.heap.size wr).grown hgrow (Nat.le_refl _) (fun g hg => by cases hg)); have HC2 := Lib.hid (made_bool hown); have HL2 := Lib.hid (hown.lt _ rfl).2; clear hown hgrow) | (at_builtin; refine wpList_append_lies _ rfl _ _ 70 rfl w.heap.size 79 j0 (.slice none 0 0) 1 24 Try.underlying70 hj hy0 hy1 hy2 rfl (by decide) _ _ _ rfl ((HU.out.below HB2.out).own.alloc _) ⟨w2.heap.size, 0, none⟩ 1 1 [.slice (some ⟨wr.heap.size, 0, none⟩) E.length E.length] rfl rfl one_new (by intro u hu; simp at hu; subst hu; rfl) (by omega) (by unfold maxLen; omega) (by omega) (by have := HB2.out.size; simp; omega) (w2.heap.size + 1) (by simp) ?_; intro g cap w3 hown hgrow hat hgl; have HB3 : Hid (Below w.heap.size w w3) := Lib.hid (((HB.out.trans (HB2.out.mono hws)).alloc (Nat.le_trans hws HB2.out.size) _).grown hgrow (by have := HB2.out.size; simp; omega) (fun k hk => (World.ownsRow.lt HU.out.own k hk).1)); have HO := Lib.hid hown; have HG := Lib.hid hgrow; have HA := Lib.hid hat; clear hown hgrow hat hgl))
      have hu3 := HU.out.up (s' := .slice (some ⟨g, 0, none⟩) (k + 1) cap) rfl hws (HB2.out.trans ((below_alloc w2 _).mono HB2.out.size)) (by have := HL2.out; simp; omega) (fun q hq => keep_cell (HC2.out.1 q (HE.out ▸ hq)) (below_alloc w2 _) HL2.out) (fun q => by rw [(below_alloc w2 _).frozen (p := ⟨wr.heap.size, q, none⟩) HL2.out]; exact HC2.out.2 q) (by rw [← HE.out]; exact HO.out) HG.out (HA.out.imp (fun e => (show some g = _ from e.symm)) (fun e => ⟨g, rfl, by simp; omega⟩))
      have HU3 := Lib.hid hu3
      clear hu3
      go_roundg (gk - 1)
      case measure => omega
      case rel => exact ⟨k + 1, _, by omega, by omega, by go_num, HB3.out, HU3.out⟩
    · obtain rfl : k = Ds.length := by omega
      rcases HU.out.own.2 with ⟨_, h0⟩ | ⟨B, sc, cur, rfl, _⟩
      · omega
      have HQ := Lib.hid (fun fv bd (W : World) (hw : Below w.heap.size w W) (hf : Fst (wr.heap.size + 1) fv [] W) (hs : Seen w.heap.size (wr.heap.size + 1) B G Ds (fun _ _ => false) W) =>
        differM_any w w.heap.size (wr.heap.size + 1) B sc G Ds _ HOK.out HDV.out (Nat.le_refl _) Ds.length (fun _ _ => false) [] bd 0 [] fv W hw hw.size (by simp) (SI.nil _ (Nat.le_refl _) _ _) hf hs)
      have HS0 := Lib.hid (HU.out.seen (p := wr.heap.size + 1) (by omega))
      have HBB : Hid (∀ o1 o2 o3, Below wr.heap.size wr (((wr.alloc o1).alloc o2).alloc o3)) := Lib.hid fun o1 o2 o3 => ((below_alloc wr o1).alloc (by simp) o2).alloc (by simp; omega) o3
      go_wp2_with fail
      go_at_call 105; refine (HQ.out _ _ _ (HB.out.trans ((HBB.out _ _ _).mono hws)) ((Fst.made wr _ _ [] ⟨rfl, _, _, rfl⟩).below (below_alloc _ _)) (HS0.out.below (HBB.out _ _ _))).mono ?_; rintro e w4 ⟨fv, rfl, ht, hf, hs⟩
      have HT : Hid (Below w.heap.size w w4) := Lib.hid ((HB.out.trans ((HBB.out _ _ _).mono hws)).trans (ht.below (by simp; omega)))
      have HF := Lib.hid hf
      have HS := Lib.hid hs
      obtain ⟨fa, fc, rfl⟩ := SI.len hf.il
      have c0 := hf.cell
      have hlt := cell_block hf.cell
      obtain ⟨FF, hFF⟩ : ∃ FF, FF = hdo (exts nwB Ds Ds.length []) [] := ⟨_, rfl⟩
      have HFF := Lib.hid hFF
      rw [← hFF] at c0
      clear ht hf hs hFF
      go_wp2_with fail
      go_quiet (fail)
      go_wp2_with fail
      go_ret3
      refine ⟨.slice fa FF.length fc, B, sc, G, wr.heap.size + 1, rfl, below_drewN HT.out _, ?_, HS.out.below (below_drewN (Below.refl _ _) _)⟩
      have h := HF.out.il
      rw [← HFF.out] at h ⊢
      exact SI.wide h (by omega) (Nat.le_refl _) (Nat.le_refl _)
end Go.Proofs.Ytiobbclciboggaa
