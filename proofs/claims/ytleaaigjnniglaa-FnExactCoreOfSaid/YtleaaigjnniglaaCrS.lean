/- Clauses that have no model together: the model's walk. -/
import Derived.Test.YtleaaigjnniglaaCr2
import Derived.Test.YtleaaigjnniglaaCrM
import Derived.Deep.RegionLawGrows
import Derived.Deep.AppendLies
namespace Go.Proofs.Ytleaaigjnniglaa
open Go.RowKit Go.ChangeShapes Go.WideShapes

theorem Try.infoII : (Try.prog.info? 22).map (fun i => (i.zero, i.size, i.bytes)) = some (some (.slice none 0 0), 1, 24) := by kernel_rfl
theorem tot_few {C : List (List Int)} (h : ∀ i, i < C.length → (C.getD i []).length ≤ 10) : ∀ k, k ≤ C.length → totAt C k ≤ 10 * k
  | 0, _ => Nat.le_refl _
  | k + 1, hk => by
    have ih := tot_few h k (by omega)
    have := h k (by omega)
    show totAt C k + (C.getD k []).length ≤ _
    omega
theorem part_ok {F : Fm} {L : Nat} (o : OKFm F) (h : FmN F L) {s : Nat} : OKFm ⟨(L : Int), partK F.cs (setL s F.cs.length)⟩ ∧ FmN ⟨(L : Int), partK F.cs (setL s F.cs.length)⟩ L := by
  have hl : (partK F.cs (setL s F.cs.length)).length ≤ F.cs.length := by unfold partK; rw [List.length_map]; exact set_len _ _
  have hfew := h.ok.few
  have L1 := h.L1
  have L2 := h.L2
  have hat : ∀ j, j < (partK F.cs (setL s F.cs.length)).length → ∃ i, i < F.cs.length ∧ (partK F.cs (setL s F.cs.length)).getD j [] = F.cs.getD i [] := fun j hj => by
    have hj2 : j < (setL s F.cs.length).length := by unfold partK at hj; rw [List.length_map] at hj; exact hj
    obtain ⟨i, h1, h2, -⟩ := set_mem (List.getElem_mem hj2)
    refine ⟨i, h1, ?_⟩
    unfold partK
    simp [List.getD, hj2, h2]
  have hcl : ∀ j, j < (partK F.cs (setL s F.cs.length)).length → ClOk (L : Int) ((partK F.cs (setL s F.cs.length)).getD j []) := fun j hj => by
    obtain ⟨i, h1, h2⟩ := hat j hj
    rw [h2]
    exact h.cl h1
  have htot := tot_few (C := partK F.cs (setL s F.cs.length)) (fun j hj => by have := (hcl j hj).len; omega) _ (Nat.le_refl _)
  refine ⟨⟨?_, ⟨?_, fun j hj => ?_⟩⟩, ⟨⟨by show (1 : Int) ≤ (L : Int); omega, by show (L : Int) ≤ 10; omega, by show (partK _ _).length ≤ 48; omega, hcl⟩, rfl, h.L1, h.L2, h.p1, h.p2⟩⟩
  · show szL (partK _ _) ≤ _
    unfold szL
    omega
  · show (partK _ _).length ≤ maxLen
    unfold maxLen
    omega
  · obtain ⟨i, h1, h2⟩ := hat j hj
    show FitI ((partK _ _).getD j [])
    rw [h2]
    exact o.fit.2 i h1
theorem head_first {F : Fm} {L : Nat} (h1 : formB F = true) (hL : L = F.letters.toNat) : (firstB F = true → 0 ≤ headI (modK L F.cs (2 ^ L))) ∧ (firstB F = false → headI (modK L F.cs (2 ^ L)) = -1) := by
  have hm := modsF_yes h1
  rw [← hL] at hm
  unfold firstB
  rw [hm]
  cases hk : modK L F.cs (2 ^ L) with
  | nil => exact ⟨fun h => by simp at h, fun _ => rfl⟩
  | cons x t =>
    obtain ⟨q, -, rfl⟩ := modK_in (show x ∈ modK L F.cs (2 ^ L) by rw [hk]; exact List.mem_cons_self ..)
    exact ⟨fun _ => by show (0 : Int) ≤ (q : Int); omega, fun h => by simp at h⟩
theorem saysJ_no {Z : List Int} {b : Bool} {w w' : World} (h : Z = []) (h2 : b = false) (k : Below w.heap.size w w') : SaysJB Z b w (.returned (.tuple #[.slice none 0 0, .bool false])) w' := ⟨_, by rw [h2], by rw [h]; exact ⟨Nat.le_refl _, Or.inl ⟨rfl, _, _, rfl⟩⟩, k⟩
theorem saysJ_yes {Z Y : List Int} {b : Bool} {v : Value} {w w' : World} (h : Y = Z) (h2 : b = true) (hv : II w.heap.size w'.heap.size w' v Y) (k : Below w.heap.size w w') : SaysJB Z b w (.returned (.tuple #[v, .bool true])) w' := ⟨_, by rw [h2], h ▸ hv, k⟩
def upL (k : Nat) : List Int := (List.range k).map fun i : Nat => (i : Int)
theorem upL_next (k : Nat) : upL (k + 1) = upL k ++ [(k : Int)] := by unfold upL; rw [List.range_succ, List.map_append]; rfl
theorem upL_len (k : Nat) : (upL k).length = k := by unfold upL; simp
set_option maxRecDepth 100000 in
set_option maxHeartbeats 8000000 in
theorem specCoreOf_any (v : Value) (F : Fm) (w : World) (hv : FmV w v F) (o : OKFm F) :
    Calls Try.prog 47 #[v] w (SaysJB (crL F) (noneB F) w) := by
  obtain ⟨i0, hi, hz0, hz1, hz2⟩ := info_parts Try.infoI
  obtain ⟨j0, ji, jz0, jz1, jz2⟩ := info_parts Try.infoII
  have hls : ∃ ao cap, v = .agg #[.int .i64 F.letters, .slice ao F.cs.length cap] := by
    obtain ⟨s1, e, h⟩ := hv
    obtain ⟨ao, cap, rfl⟩ := h.long
    exact ⟨ao, cap, e⟩
  obtain ⟨ao, cap, rfl⟩ := hls
  obtain ⟨s1, e1, g1⟩ := FmAt.mk' hv 31
  obtain rfl : s1 = .slice ao F.cs.length cap := by simpa using e1.symm
  have G1 := Lib.hid g1
  have HLV : Hid (LV w (.slice ao F.cs.length cap) F.cs) := Lib.hid (by obtain ⟨s, e, h⟩ := hv; obtain rfl : s = .slice ao F.cs.length cap := by simpa using e.symm
                                                                        exact h)
  have hb0 := Lib.hid (fun o => below_alloc w o)
  clear g1 e1 hv
  cases h1 : formB F with
  | false =>
    have HN := Lib.hid (none_no h1)
    have HM := Lib.hid (cr_no HN.out)
    have H1 := Lib.hid h1
    clear h1
    go_enter Try.func47, Try.ntmps47
    go_wp2_with fail
    go_at_call 55; refine (l05Is_any w.heap.size F _ G1.out o).mono ?_; rintro e w1 ⟨rfl, b1⟩
    rw [H1.out]
    have HB := Lib.hid ((hb0.out _).trans (b1.mono (hb0.out _).size))
    clear b1
    go_wp2_with fail
    go_ret2
    exact saysJ_no HM.out HN.out HB.out
  | true =>
    obtain ⟨L, hL⟩ : ∃ L, L = F.letters.toNat := ⟨_, rfl⟩
    have hh0 := (formB_ok h1).num
    rw [← hL] at hh0
    have HH := Lib.hid hh0
    have H1 := Lib.hid h1
    have hhf := head_first h1 hL
    have hyn := none_yes h1
    cases h2 : firstB F with
    | true =>
      have hq := hhf.1 h2
      have HN : Hid (noneB F = false) := Lib.hid (by rw [hyn, h2]; rfl)
      have HM := Lib.hid (cr_no HN.out)
      obtain ⟨q, hqe⟩ : ∃ q, q = headI (modK L F.cs (2 ^ L)) := ⟨_, rfl⟩
      rw [← hqe] at hq
      have HQ := Lib.hid hqe
      clear h1 h2 hhf hyn hh0 hL hqe
      go_enter Try.func47, Try.ntmps47
      go_wp2_with fail
      go_at_call 55; refine (l05Is_any w.heap.size F _ G1.out o).mono ?_; rintro e w1 ⟨rfl, b1⟩
      rw [H1.out]
      have HB := Lib.hid ((hb0.out _).trans (b1.mono (hb0.out _).size))
      have G2 := Lib.hid (G1.out.keep b1)
      clear b1
      go_wp2_with fail
      go_at_call 67; refine (l05First_any w.heap.size F L _ G2.out o HH.out).mono ?_; rintro e w2 ⟨rfl, m, rfl⟩
      rw [← HQ.out]
      go_wp2_with fail
      go_ret2
      exact saysJ_no HM.out HN.out (below_drewN HB.out _)
    | false =>
      have HQ := Lib.hid (hhf.2 h2)
      have HN : Hid (noneB F = true) := Lib.hid (by rw [hyn, h2]; rfl)
      have HM : Hid (crL F = coreK L F.cs F.cs.length) := Lib.hid (by rw [hL]; exact cr_yes HN.out)
      have hfew := hh0.ok.few
      have HCS : Hid (coreK L F.cs F.cs.length = setL (leftK L F.cs F.cs.length) F.cs.length) := Lib.hid (core_set L F.cs _ (Nat.le_refl _))
      have HS0 : Hid (upL F.cs.length = setL (leftK L F.cs 0) F.cs.length) := Lib.hid (set_all _).symm
      have HNN := Lib.hid hh0.n
      clear h1 h2 hhf hyn hh0 hL
      go_enter Try.func47, Try.ntmps47
      go_wp2_with fail
      go_at_call 55; refine (l05Is_any w.heap.size F _ G1.out o).mono ?_; rintro e w1 ⟨rfl, b1⟩
      rw [H1.out]
      have HB := Lib.hid ((hb0.out _).trans (b1.mono (hb0.out _).size))
      have G2 := Lib.hid (G1.out.keep b1)
      have HBX := Lib.hid ((Box2.mk' w (.int .i64 F.letters) (.slice ao F.cs.length cap) 31).keep b1 (by simp))
      clear b1
      go_wp2_with fail
      go_at_call 67; refine (l05First_any w.heap.size F L _ G2.out o HH.out).mono ?_; rintro e w2 ⟨rfl, m, rfl⟩
      rw [HQ.out]
      obtain ⟨w2, hw2⟩ : ∃ w2, w2 = w1.drewN m := ⟨_, rfl⟩
      have HB2 : Hid (Below w.heap.size w w2) := Lib.hid (by rw [hw2]; exact below_drewN HB.out m)
      have HBX2 : Hid (Box2 w2 w.heap.size (.int .i64 F.letters) (.slice ao F.cs.length cap)) := Lib.hid (by rw [hw2]; exact HBX.out.keep (below_drewN (Below.refl _ _) m) HBX.out.lt)
      rw [← hw2]
      clear hw2 HB HBX G1 G2 hb0
      obtain ⟨c0, c1⟩ := HBX2.out
      have hlo : w.heap.size ≤ w2.heap.size := HB2.out.size
      have hl2 : w.heap.size < w2.heap.size := HBX2.out.lt
      have hl3 : ¬ w.heap.size = w2.heap.size := by omega
      have c1' : (w2.alloc (.cells #[] 2)).cell? ⟨w.heap.size, 1, none⟩ = some (.slice ao F.cs.length cap) := keep_cell c1 (below_alloc w2 _) hl2
      go_wp2_with fail
      go_loopg [4, 20] F.cs.length (fun gk iv i wr => ∃ k : Nat, k ≤ F.cs.length ∧ gk + k = F.cs.length ∧ i = .int .i64 k ∧ Below w2.heap.size w2 wr ∧ Grows (Value.int .i64) 2 w2.heap.size iv (upL k) wr)
      case atStart => exact ⟨0, Nat.zero_le _, by omega, rfl, below_alloc w2 _, Grows.empty _ _ _ _ (Nat.le_refl _)⟩
      case round =>
        obtain ⟨k, hk, hgk, rfl, hB, hG⟩ := hrel
        have HBk := Lib.hid hB
        have HGk := Lib.hid hG
        by_cases hlt : k < F.cs.length
        · have HUL := Lib.hid (upL_len k)
          have HUN := Lib.hid (upL_next k)
          clear hB hG c0 c1
          go_wp2_with (at_builtin; refine wpList_append_own _ rfl _ _ 22 rfl w2.heap.size 2 i0 (.int .i64 0) 1 8 Try.underlying22 hi hz0 hz1 hz2 rfl (by decide) _ _ _ rfl (Grows.alloc HGk.out _) ⟨wr.heap.size, 0, none⟩ 1 1 [.int .i64 (k : Int)] rfl rfl ?c1 ?c2 ?c3 ?c4 ?c5 ?_)
          case c1 => exact one_new
          case c2 => intro u hu; simp at hu; subst hu; rfl
          case c3 => have := HUL.out; unfold maxLen; omega
          case c4 => have := HUL.out; omega
          case c5 => have := HBk.out.size; simp; omega
          intro v' w' hown hgrow _
          have HN2 : Hid (Below w2.heap.size w2 w' ∧ Grows (Value.int .i64) 2 w2.heap.size v' (upL (k + 1)) w') := Lib.hid ⟨(HBk.out.alloc HBk.out.size _).grown hgrow (by have := HBk.out.size; simp; omega) (fun g hg => HGk.out.block g hg), by rw [HUN.out]; exact Grows.more (news := [(k : Int)]) rfl hown⟩
          clear hown hgrow
          go_wp2_with fail
          go_roundg (gk - 1)
          case measure => omega
          case rel => exact ⟨k + 1, by omega, by omega, by go_num, HN2.out.1, HN2.out.2⟩
        · obtain rfl : k = F.cs.length := by omega
          have HI0 : Hid (II w.heap.size wr.heap.size wr u4 (setL (leftK L F.cs 0) F.cs.length)) := Lib.hid (by rw [← HS0.out]; exact II.wide' HGk.out.si hlo)
          have HB3 : Hid (Below w.heap.size w wr) := Lib.hid (HB2.out.trans (HBk.out.mono hlo))
          have HBX3 : Hid (Box2 wr w.heap.size (.int .i64 F.letters) (.slice ao F.cs.length cap)) := Lib.hid (HBX2.out.keep HBk.out HBX2.out.lt)
          obtain ⟨w3, rfl⟩ : ∃ x : World, x = wr := ⟨_, rfl⟩
          clear hB hG HBk HGk c0 c1 HB2 HBX2
          obtain ⟨c0, c1⟩ := HBX3.out
          go_wp2_with fail
          go_loopg [4, 31] F.cs.length (fun gk iv i wr => ∃ k : Nat, k ≤ F.cs.length ∧ gk + k = F.cs.length ∧ i = .int .i64 k ∧ Below w3.heap.size w3 wr ∧ II w.heap.size wr.heap.size wr iv (setL (leftK L F.cs k) F.cs.length))
          case atStart => exact ⟨0, Nat.zero_le _, by omega, rfl, Below.refl _ _, HI0.out⟩
          case round =>
            obtain ⟨k, hk, hgk, rfl, hB, hI⟩ := hrel
            obtain ⟨W, rfl⟩ : ∃ x : World, x = wr := ⟨_, rfl⟩
            obtain ⟨g2, rfl⟩ : ∃ x : Nat, x = gk := ⟨_, rfl⟩
            have HBW : Hid (Below w.heap.size w W) := Lib.hid (HB3.out.trans (hB.mono HB3.out.size))
            have HB3W := Lib.hid hB
            have HIW := Lib.hid hI
            by_cases hlt : k < F.cs.length
            · have HYk := Lib.hid (@core_yes L F.cs k)
              have HXk := Lib.hid (@core_no L F.cs k)
              have HHF := Lib.hid (@head_free L F.cs (outK (leftK L F.cs k) k))
              have HHN := Lib.hid (@head_none L F.cs (outK (leftK L F.cs k) k))
              have HPO := Lib.hid (part_ok o HH.out (s := outK (leftK L F.cs k) k))
              obtain ⟨Z, hZ⟩ : ∃ Z, Z = setL (leftK L F.cs k) F.cs.length := ⟨_, rfl⟩
              have hzp : 0 < Z.length := by
                have := mem_set hlt (left_high L F.cs k k (Nat.le_refl _) hlt)
                rw [← hZ] at this
                exact List.length_pos_of_mem this
              have hzl : Z.length ≤ 48 := by rw [hZ]; exact Nat.le_trans (set_len _ _) hfew
              have HZM : Hid (∀ m, m < Z.length → ∃ i : Nat, i < F.cs.length ∧ Z.getD m 0 = (i : Int)) := Lib.hid fun m hm => by
                have hmem : Z.getD m 0 ∈ Z := by rw [getDI hm]; exact List.getElem_mem hm
                rw [hZ] at hmem
                obtain ⟨i, h1, h2, -⟩ := set_mem hmem
                rw [← hZ] at h2
                exact ⟨i, h1, h2⟩
              have HEND : Hid (dropK Z k Z.length = setL (outK (leftK L F.cs k) k) F.cs.length) := Lib.hid (by rw [hZ]; exact drop_set _ _ _)
              rw [← hZ] at hI
              have HZE := Lib.hid hZ
              obtain ⟨b, off, cap2, rfl, hbl, hcell⟩ := fails_cells (II.il hI) hzp
              have HC := Lib.hid hcell
              rcases HLV.out with ⟨hz, -⟩ | ⟨cb, coff, ccap, U, hse, hpos, hcbl, hcc⟩
              · rw [hz] at hlt; simp at hlt
              simp only [Value.slice.injEq] at hse
              obtain ⟨rfl, -, rfl⟩ := hse
              have HCC := Lib.hid hcc
              have HBXW : Hid (Box2 W w.heap.size (.int .i64 (L : Int)) (.slice (some ⟨cb, coff, none⟩) F.cs.length (F.cs.length + ccap))) := Lib.hid (by rw [← HNN.out]; exact HBX3.out.keep hB HBX3.out.lt)
              clear hB hI hcell hcc c0 c1 hZ
              have hwl : w.heap.size < W.heap.size := HBXW.out.lt
              have c0' : (W.alloc (.cells #[] 2)).cell? ⟨w.heap.size, 0, none⟩ = some (.int .i64 (L : Int)) := keep_cell HBXW.out.c0 (below_alloc W _) hwl
              have hZn : ¬ Z.length = 0 := by omega
              go_wp2_with fail
              clear c0'
              go_loopg [7, 40] Z.length (fun gk lv i wr => ∃ m : Nat, m ≤ Z.length ∧ gk + m = Z.length ∧ i = .int .i64 m ∧ ∃ vs, CrAt L F.cs W (dropK Z k m) (dropK Z k m) lv vs wr)
              case atStart => exact ⟨0, Nat.zero_le _, by omega, rfl, _, CrAt.start L F.cs W⟩
              case round =>
                obtain ⟨m, hm, hgm, rfl, vs, hat⟩ := hrel
                have HA := Lib.hid hat
                by_cases hmt : m < Z.length
                · obtain ⟨i, hin, hxe⟩ := HZM.out m hmt
                  have d0 : wr.cell? ⟨b, off + m, none⟩ = some (.int .i64 (i : Int)) := by rw [hat.below.cell (p := ⟨b, off + m, none⟩) hbl, ← hxe]; exact HC.out m hmt
                  have HXE := Lib.hid hxe
                  clear hat hxe
                  by_cases hik : i = k
                  · subst hik
                    have HDN := Lib.hid (drop_no hmt HXE.out)
                    go_wp2_with fail
                    go_roundg (gk - 1)
                    case measure => omega
                    case rel => exact ⟨m + 1, by omega, by omega, by go_num, vs, by rw [HDN.out]; exact HA.out⟩
                  · have hne : ((i : Int) == (k : Int)) = false := beq_false_of_ne (by omega)
                    have HDY : Hid (dropK Z k (m + 1) = dropK Z k m ++ [(i : Int)]) := Lib.hid (by rw [drop_yes hmt (by rw [HXE.out]; omega), HXE.out])
                    have HDL := Lib.hid (drop_len Z k m)
                    generalize dropK Z k m = D at HA HDY HDL
                    go_wp2_with (at_builtin; refine wpList_append_own _ rfl _ _ 22 rfl W.heap.size 2 i0 (.int .i64 0) 1 8 Try.underlying22 hi hz0 hz1 hz2 rfl (by decide) _ _ _ rfl (Grows.alloc HA.out.left _) ⟨wr.heap.size, 0, none⟩ 1 1 [.int .i64 (i : Int)] rfl rfl ?c1 ?c2 ?c3 ?c4 ?c5 ?_)
                    case c1 => exact one_new
                    case c2 => intro u hu; simp at hu; subst hu; rfl
                    case c3 => have := HDL.out; unfold maxLen; omega
                    case c4 => have := HDL.out; omega
                    case c5 => have := HA.out.below.size; simp; omega
                    intro v' w4 hown hgrow _
                    have HA4 := Lib.hid (HA.out.more hown hgrow)
                    clear hown hgrow d0
                    obtain ⟨rv, r0, r1, rf, rown, rne, rlt⟩ := HA4.out.cells
                    have HRO := Lib.hid rown
                    have HR1 := Lib.hid r1
                    have d0 : w4.cell? ⟨b, off + m, none⟩ = some (.int .i64 (i : Int)) := by rw [HA4.out.below.cell (p := ⟨b, off + m, none⟩) hbl, ← HXE.out]; exact HC.out m hmt
                    obtain ⟨c0, c1⟩ := HBXW.out.keep HA4.out.below hwl
                    have HB4 : Hid (Below w.heap.size w w4) := Lib.hid (HBW.out.trans (HA4.out.below.mono HBW.out.size))
                    have d1 : w4.cell? ⟨cb, coff + i, none⟩ = some (U i) := by rw [HB4.out.cell (p := ⟨cb, coff + i, none⟩) hcbl]; exact (HCC.out i hin).1
                    have HU : Hid (IL W (U i) (F.cs.getD ((i : Int)).toNat [])) := Lib.hid (by rw [Int.toNat_natCast]; exact (HCC.out i hin).2.below HBW.out (Nat.le_refl _))
                    generalize U i = u at d1 HU
                    have i1 : (i : Int) < (F.cs.length : Int) := by omega
                    have i2 : (0 : Int) ≤ (i : Int) := by omega
                    obtain ⟨ua, uc, hue⟩ := HU.out.long
                    obtain ⟨ul, hul⟩ : ∃ ul, ul = (F.cs.getD ((i : Int)).toNat []).length := ⟨_, rfl⟩
                    rw [← hul] at hue
                    subst hue
                    have HVL : Hid (vs.length ≤ 48) := Lib.hid (by rw [HA4.out.len]; have := HDL.out; omega)
                    have HOWN : Hid (∀ o n, ((w4.alloc o).drewN n).ownsRow W.heap.size 22 1 rv vs.length vs) := Lib.hid (fun o n => HRO.out.alloc o)
                    have hwz : W.heap.size ≤ w4.heap.size := HA4.out.below.size
                    clear r0 rown hul
                    go_wp2_with fail
                    go_region_law (first
                      | (refine step_append_lies _ (by rfl) _ _ _ (by rfl) W.heap.size 22 j0 _ 1 24 Try.underlying26 ji jz0 jz1 jz2 rfl (by omega) rv vs.length vs (by rfl) (HOWN.out _ _) ⟨w4.heap.size, 0, none⟩ 1 1 [.slice ua ul uc] (by rfl) (by rfl) (World.news_of_block (cs := #[_]) (t := 22) (fr := (0, 0)) (heap_alloc_new _ _)) (by simp [Value.oneCell']) (by omega) (by have := HVL.out; unfold maxLen; omega) (by have := HVL.out; omega) (by simp; omega) (w4.heap.size + 1) (by simp) ?_; intro gg gcap w1 hown1 hgrow hat hlt1; obtain ⟨k1, k2⟩ := HA4.out.kept HR1.out (by first | exact below_drewN ((Below.refl w4.heap.size w4).alloc (Nat.le_refl _) _) _ | exact (below_drewN (Below.refl w4.heap.size w4) 1).alloc (Nat.le_refl _) _ | exact (Below.refl w4.heap.size w4).drew.alloc (Nat.le_refl _) _ | exact ((Below.refl w4.heap.size w4).alloc (Nat.le_refl _) _).drew) hgrow; have HNX := Lib.hid (fun q => HA4.out.next (x := (i : Int)) HR1.out HU.out (by first | exact below_drewN ((Below.refl w4.heap.size w4).alloc (Nat.le_refl _) _) _ | exact (below_drewN (Below.refl w4.heap.size w4) 1).alloc (Nat.le_refl _) _ | exact (Below.refl w4.heap.size w4).drew.alloc (Nat.le_refl _) _ | exact ((Below.refl w4.heap.size w4).alloc (Nat.le_refl _) _).drew) hown1 hgrow q); clear hown1 hgrow hat hlt1))
                    all_goals
                      go_wp2_with fail
                      go_roundg (gk - 1)
                      case measure => omega
                      case rel => exact ⟨m + 1, by omega, by omega, by go_num, _, by rw [HDY.out]; exact HNX.out 0⟩
                · obtain rfl : m = Z.length := by omega
                  rw [HEND.out] at hat
                  have HAT := Lib.hid hat
                  have HFM := Lib.hid hat.fm
                  have HBN : Hid (∀ q, Below w3.heap.size w3 (wr.drewN q)) := Lib.hid fun q => below_drewN (HB3W.out.trans (hat.below.mono HB3W.out.size)) q
                  have HBN2 : Hid (∀ q, Below W.heap.size W (wr.drewN q)) := Lib.hid fun q => below_drewN hat.below q
                  clear hat HA
                  cases hfr : freeB L F.cs (outK (leftK L F.cs k) k) with
                  | true =>
                    have hq := HHF.out hfr
                    have HUP := Lib.hid (HYk.out hfr)
                    obtain ⟨q, hqe⟩ : ∃ q, q = headI (modK L (partK F.cs (setL (outK (leftK L F.cs k) k) F.cs.length)) (2 ^ L)) := ⟨_, rfl⟩
                    rw [← hqe] at hq
                    have HQE := Lib.hid hqe
                    clear hfr hqe
                    go_wp2_with fail
                    go_at_call 67; refine (l05First_any (W.heap.size + 1) ⟨(L : Int), partK F.cs (setL (outK (leftK L F.cs k) k) F.cs.length)⟩ L _ HFM.out HPO.out.1 HPO.out.2).mono ?_; rintro e w5 ⟨rfl, mm, rfl⟩
                    rw [← HQE.out]
                    go_wp2_with fail
                    go_roundg (g2 - 1)
                    case measure => omega
                    case rel => exact ⟨k + 1, by omega, by omega, by go_num, HBN.out mm, by rw [HUP.out.1]; exact SI.wide (II.below' HIW.out (HBN2.out mm) (Nat.le_refl _)) (Nat.le_refl _) (HBN2.out mm).size (Nat.le_refl _)⟩
                  | false =>
                    have HUP := Lib.hid (HXk.out hfr)
                    have HQE := Lib.hid (HHN.out hfr)
                    clear hfr
                    go_wp2_with fail
                    go_at_call 67; refine (l05First_any (W.heap.size + 1) ⟨(L : Int), partK F.cs (setL (outK (leftK L F.cs k) k) F.cs.length)⟩ L _ HFM.out HPO.out.1 HPO.out.2).mono ?_; rintro e w5 ⟨rfl, mm, rfl⟩
                    rw [HQE.out]
                    go_wp2_with fail
                    go_roundg (g2 - 1)
                    case measure => omega
                    case rel => exact ⟨k + 1, by omega, by omega, by go_num, HBN.out mm, by rw [HUP.out.1]; exact II.wide' (Grows.drewN HAT.out.left mm).si HBW.out.size⟩
            · obtain rfl : k = F.cs.length := by omega
              clear hB hI
              go_wp2_with fail
              go_ret2
              exact saysJ_yes (by rw [HM.out, HCS.out]) HN.out HIW.out HBW.out
end Go.Proofs.Ytleaaigjnniglaa
