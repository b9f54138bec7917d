/- The journal that is recovered: the model. -/
import Derived.Test.YtcgdkjbbdpmmhaaDoorRj0
import Derived.Test.YtcgdkjbbdpmmhaaDoorL8S
import Derived.Test.YtcgdkjbbdpmmhaaDoorDcS
import Derived.Deep.RegionHeld3
namespace Go.Proofs.YtcgdkjbbdpmmhaaDoor
open Go.RowKit Go.ChangeShapes Go.WideShapes

/-- Where the first blank is. -/
def cutN (y : ByteArray) : Nat := (befL y.data.toList).length
theorem befL_take : ∀ l : List UInt8, befL l = l.take (befL l).length ∧ (befL l).length ≤ l.length
  | [] => by simp [befL]
  | c :: r => by
    unfold befL
    split
    · simp
    · obtain ⟨h1, h2⟩ := befL_take r
      rw [List.length_cons, List.take_succ_cons, ← h1]
      exact ⟨rfl, by rw [List.length_cons]; omega⟩
theorem cutN_le (y : ByteArray) : cutN y ≤ y.size := by
  have := (befL_take y.data.toList).2
  rwa [Array.length_toList] at this
theorem cutN_before {y : ByteArray} {c : Nat} (h : c < cutN y) (hc : c < y.size) : (((y[c]'hc).toNat : Int) == 32) = false := by
  rw [beq_eq_false_iff_ne]
  intro e
  have e1 := (befL_take y.data.toList).1
  have hl : c < (befL y.data.toList).length := h
  have e2 : (befL y.data.toList)[c] = y[c]'hc := by
    have : (befL y.data.toList)[c]? = some (y[c]'hc) := by
      rw [e1, List.getElem?_take_of_lt hl, List.getElem?_eq_getElem (by rw [Array.length_toList]; exact hc)]
      rfl
    rw [List.getElem?_eq_getElem hl] at this
    injection this
  have hn := befL_no y.data.toList _ (List.getElem_mem hl)
  rw [e2] at hn
  exact hn (UInt8.toNat_inj.1 (by have e3 : (32 : UInt8).toNat = 32 := rfl; omega))
theorem cutN_mem {y : ByteArray} (h : cutN y < y.size) : 32 ∈ y.data.toList := by
  by_cases hm : 32 ∈ y.data.toList
  · exact hm
  · have e := (aft_none hm).2
    unfold cutN at h
    rw [e, Array.length_toList] at h
    exact absurd h (Nat.lt_irrefl _)
theorem cutN_at {y : ByteArray} (h : cutN y < y.size) : (((y[cutN y]'h).toNat : Int) == 32) = true := by
  have e := bef_aft (cutN_mem h)
  have : y.data.toList[cutN y]? = some 32 := by
    conv => lhs; rw [e]
    show (befL y.data.toList ++ 32 :: aftL y.data.toList)[(befL y.data.toList).length]? = some 32
    rw [List.getElem?_append_right (Nat.le_refl _), Nat.sub_self]
    rfl
  rw [List.getElem?_eq_getElem (by rw [Array.length_toList]; exact h)] at this
  injection this with this
  have e2 : y[cutN y]'h = 32 := this
  rw [e2]; rfl
theorem cutN_at2 {y : ByteArray} {c : Nat} (h : cutN y = c) (hc : c < y.size) : (((y[c]'hc).toNat : Int) == 32) = true := by subst h; exact cutN_at hc
theorem cutN_none {y : ByteArray} (h : cutN y = y.size) : ¬ 32 ∈ y.data.toList := by
  intro hm
  have e := congrArg List.length (bef_aft hm)
  rw [List.length_append, List.length_cons, Array.length_toList] at e
  unfold cutN at h
  have e2 : y.data.size = y.size := rfl
  omega
theorem cut_front (y : ByteArray) : y.extract 0 (cutN y) = bsOf (befL y.data.toList) := by
  have h := extract_list y 0 (befL y.data.toList).length
  show y.extract 0 (befL y.data.toList).length = _
  rw [List.drop_zero, ← (befL_take y.data.toList).1] at h
  exact ByteArray.ext (Array.toList_inj.1 (by rw [h, bs_list]))
theorem cut_back {y : ByteArray} (h : cutN y < y.size) : y.extract (cutN y + 1) y.size = aftB y := by
  have e := bef_aft (cutN_mem h)
  have h2 := extract_list y (cutN y + 1) y.size
  rw [List.take_of_length_le (by rw [Array.length_toList]; exact Nat.le_refl _)] at h2
  refine ByteArray.ext (Array.toList_inj.1 ?_)
  rw [h2, aftB_data]
  conv => lhs; rw [e]
  unfold cutN
  rw [List.drop_append, List.drop_of_length_le (by omega), show (befL y.data.toList).length + 1 - (befL y.data.toList).length = 1 by omega]
  rfl
def SaysTI (Z : List ByteArray) (n : Int) (w : World) (e : Ending) (w' : World) : Prop := ∃ v, e = .returned (.tuple #[v, .int .i64 n]) ∧ TI w.heap.size w'.heap.size w' v Z ∧ Below w.heap.size w w'
theorem Tryd.infoRm : (Tryd.prog.info? 9).map (fun i => (i.zero, i.size, i.bytes)) = some (some (.string (bsOf [])), 1, 16) := by kernel_rfl
set_option maxRecDepth 100000 in
set_option maxHeartbeats 4000000 in
theorem l08Recover_any (s : ByteArray) (w : World) (hs : s.size ≤ 16000) :
    Calls Tryd.prog 37 #[.string s] w (SaysTI (rL (lnY s) (rN (lnY s))) (rS (lnY s) (rN (lnY s)) : Nat) w) := by
  have CU := Lib.hid (l08Lines_any s w (by omega))
  obtain ⟨i0, hi, hz0, hz1, hz2⟩ := info_parts Tryd.infoRm
  have L0 : Hid (rL (lnY s) 0 = [] ∧ rC (lnY s) 0 = 0 ∧ rS (lnY s) 0 = 0) := Lib.hid ⟨rfl, rfl, rfl⟩
  go_enter Tryd.func37, Tryd.ntmps37
  go_wp2_with fail
  go_at_call 63; refine CU.out.mono ?_; rintro e w2 ⟨g, M, cap, hM, rfl, hc, b2⟩
  have HC := Lib.hid hc
  have B2 := Lib.hid b2
  have HM := Lib.hid hM
  have hMs : M ≤ s.size := by have := lnY_len s; omega
  have G0 := Lib.hid (Grows.empty Value.string 9 w2.heap.size w2 (Nat.le_refl _))
  have B0 := Lib.hid (below_alloc w2 (.cells #[] 9))
  clear hc b2 hM CU
  go_wp2_with fail
  go_loopg [6, 7, 8, 9] M (fun gk o c n i wr => ∃ k : Nat, k ≤ M ∧ gk + k = M ∧ i = .int .i64 k ∧ c = .int .i64 (rC (lnY s) k) ∧ n = .int .i64 ((rS (lnY s) k : Nat) : Int) ∧ (∀ j, j < k → rG (lnY s) j = true) ∧ Grows Value.string 9 w2.heap.size o (rL (lnY s) k) wr ∧ Below w2.heap.size w2 wr)
  case atStart => exact ⟨0, Nat.zero_le _, by omega, rfl, by rw [L0.out.2.1], by rw [L0.out.2.2]; rfl, fun j hj => absurd hj (Nat.not_lt_zero _), by rw [L0.out.1]; exact G0.out, B0.out⟩
  case round =>
    obtain ⟨k, hk, hgk, rfl, rfl, rfl, hall, hG, hB⟩ := hrel
    clear G0 B0
    have HG := Lib.hid hG
    have HB := Lib.hid hB
    have HA := Lib.hid hall
    have HGK := Lib.hid hgk
    clear hG hB hall hgk
    by_cases hlt : k < M
    · have hc1 : wr.cell? ⟨g, k, none⟩ = some (.string (lnK (lnY s) k)) := by rw [HB.out.cell (p := ⟨g, k, none⟩) (cell_block (HC.out k hlt))]; exact HC.out k hlt
      obtain ⟨hy1, -⟩ := lnK_in s k
      have hrs := rS_le (fun j => (lnK_in s j).1) k
      have hrb : rS (lnY s) k ≤ 16000 * 16001 := Nat.le_trans hrs (Nat.mul_le_mul (by omega) (by omega))
      have HY1 : Hid (rS (lnY s) (k + 1) = rS (lnY s) k + ((lnK (lnY s) k).size + 1)) := Lib.hid rfl
      have HC1 : Hid (rC (lnY s) (k + 1) = chkTo (rC (lnY s) k) (aftB (lnK (lnY s) k)) (aftB (lnK (lnY s) k)).size) := Lib.hid rfl
      have HL1 : Hid (rL (lnY s) (k + 1) = rL (lnY s) k ++ [aftB (lnK (lnY s) k)]) := Lib.hid (rL_succ _ _)
      have HG1 := Lib.hid (rG_iff (lnY s) k)
      have hcin := rC_in (lnY s) k
      have HRN := Lib.hid (fun (h2 : k = M ∨ rG (lnY s) k = false) => rN_of HM.out hk HA.out h2)
      have hll : (rL (lnY s) k).length = k := rL_len _ _
      have HLL := Lib.hid hll
      obtain ⟨y, hy⟩ : ∃ y, lnK (lnY s) k = y := ⟨_, rfl⟩
      rw [hy] at hc1 hy1 HY1 HC1 HL1 HG1
      have HN1 := Lib.hid (fun c (h : c < cutN y) hc => cutN_before h hc)
      have HN2 := Lib.hid (fun c (h : cutN y = c) hc => cutN_at2 h hc)
      have hnl := cutN_le y
      have HN3 := Lib.hid (fun (h : cutN y = y.size) => cutN_none h)
      have HN4 := Lib.hid (fun (h : cutN y < y.size) => And.intro (cutN_mem h) (And.intro (cut_front y) (cut_back h)))
      have hal := aftB_size y
      obtain ⟨N, hN⟩ : ∃ N, cutN y = N := ⟨_, rfl⟩
      have HN := Lib.hid hN
      rw [hN] at HN3 HN4 hnl
      clear hy hN hrs
      obtain ⟨wo, rfl⟩ : ∃ x : World, x = wr := ⟨_, rfl⟩
      obtain ⟨g2, rfl⟩ : ∃ x : Nat, x = gk := ⟨_, rfl⟩
      go_wp2_with fail
      go_loopg [10] N (fun gk cv wr => ∃ c : Nat, c ≤ N ∧ gk + c = N ∧ cv = .int .i64 c ∧ wo = wr)
      case atStart => exact ⟨0, Nat.zero_le _, by omega, rfl, rfl⟩
      case round =>
        obtain ⟨c, hcN, hgc, rfl, rfl⟩ := hrel
        have HGC := Lib.hid hgc
        clear hgc
        by_cases hlc : c < N
        · have hcy : c < y.size := by omega
          have hb := HN1.out c (by rw [HN.out]; exact hlc) hcy
          go_wp2_with fail
          go_roundg (gk - 1)
          case measure => have := HGC.out; omega
          case rel => exact ⟨c + 1, by omega, by have := HGC.out; omega, by go_num, rfl⟩
        · obtain rfl : c = N := by omega
          by_cases hcy : c < y.size
          · have hb := HN2.out c HN.out hcy
            obtain ⟨e1, e2, e3⟩ := HN4.out hcy
            have d1 : ((c : Int) == (y.size : Int)) = false := by rw [beq_eq_false_iff_ne]; omega
            obtain ⟨ln, hln⟩ : ∃ ln, aftB y = ln := ⟨_, rfl⟩
            rw [hln] at e3 HC1 HL1 hal
            have CK := Lib.hid (fun W => l01Check_any (rC (lnY s) k) ln (by unfold maxLen; omega) hcin.1 hcin.2 W)
            rw [← HC1.out] at CK
            have hcin2 := rC_in (lnY s) (k + 1)
            have DE := Lib.hid (fun W => l01Dec_any (rC (lnY s) (k + 1)) W (by omega) (by omega))
            unfold SaysS at DE
            obtain ⟨x, hx⟩ : ∃ x : ByteArray, (⟨(Lib.itoa (rC (lnY s) (k + 1))).toArray⟩ : ByteArray) = x := ⟨_, rfl⟩
            rw [hx] at DE
            have HX : Hid (rG (lnY s) k = ((y.extract 0 c).toList == x.toList)) := Lib.hid (by
              rw [Bool.eq_iff_iff, HG1.out, beq_iff_eq, ← hx, e2, ByteArray.toList_eq, ByteArray.toList_eq, bs_list]
              exact ⟨fun h => by rw [h.2], fun h => ⟨e1, by simpa using h⟩⟩)
            have E3 := Lib.hid e3
            have BD := Lib.hid (below_drewN (Below.refl wo.heap.size wo) 1)
            have HCC := Lib.hid (fun w3 (b : Below wo.heap.size wo w3) => keep_cell hc1 b (cell_block hc1))
            have w1 : IntKind.i64.wrap ((c : Int) + 1) = (c : Int) + 1 := by rw [IntKind.wrap_i64]; omega
            have c0 : (0 : Int) ≤ (c : Int) := by omega
            have c2 : (c : Int) ≤ (y.size : Int) := by omega
            have c3 : (c : Int) + 1 ≤ (y.size : Int) := by omega
            have c4 : (0 : Int) ≤ (c : Int) + 1 := by omega
            have c5 : ((c : Int) + 1).toNat = c + 1 := by omega
            have c6 : c + 1 ≤ y.size := by omega
            have c7 : c ≤ y.size := by omega
            clear e1 e2 e3 hln hx HG1 HN1 HN2 HN3 HN4
            cases q : ((y.extract 0 c).toList == x.toList) with
            | false =>
              have HRK := Lib.hid (HRN.out (Or.inr (HX.out.trans q)))
              go_wp2_with fail
              rw [E3.out]
              go_wp2_with fail
              go_at_call 64; refine (CK.out _).mono ?_; rintro e w4 ⟨rfl, rfl⟩
              go_wp2_with fail
              go_region_held3 (fun w' => w'.cell? ⟨g, k, none⟩ = some (.string y)) (first | exact hc1 | exact S2.out) (first
                | (go_at_call 65; refine (DE.out _).mono ?_; rintro e w3 ⟨rfl, b3⟩; have bz := BD.out.trans b3; have H3 := Lib.hid bz; have S2 := Lib.hid (HCC.out _ bz); clear b3 bz))
              all_goals
                go_wp2_with fail
                go_ret2
                rw [HRK.out]
                exact ⟨_, rfl, SI.wide (HG.out.below H3.out (Nat.le_refl _)).si B2.out.size (Nat.le_refl _) (Nat.le_refl _), B2.out.trans ((HB.out.trans (H3.out.mono HB.out.size)).mono B2.out.size)⟩
            | true =>
              have HGT := Lib.hid (HX.out.trans q)
              have HGB := Lib.hid (fun w3 (b : Below wo.heap.size wo w3) => HG.out.below b (Nat.le_refl _))
              have HBB := Lib.hid (fun w3 (b : Below wo.heap.size wo w3) => HB.out.trans (b.mono HB.out.size))
              have HM1 : Hid ((rL (lnY s) k).length + 1 ≤ maxLen) := Lib.hid (by unfold maxLen; omega)
              have HM2 : Hid (((rL (lnY s) k).length + 1) * 16 ≤ 140737488355328) := Lib.hid (by omega)
              have hy2 : y.size ≤ 16000 := by omega
              clear hll
              go_wp2_with fail
              rw [E3.out]
              go_wp2_with fail
              go_at_call 64; refine (CK.out _).mono ?_; rintro e w4 ⟨rfl, rfl⟩
              go_wp2_with fail
              go_region_held3 (fun w' => w'.cell? ⟨g, k, none⟩ = some (.string y)) (first | exact hc1 | exact S2.out) (first
                | (go_at_call 65; refine (DE.out _).mono ?_; rintro e w3 ⟨rfl, b3⟩; have bz := BD.out.trans b3; have H3 := Lib.hid bz; have S2 := Lib.hid (HCC.out _ bz); clear b3 bz))
              have G3 := Lib.hid (HGB.out _ H3.out)
              have B3 := Lib.hid (HBB.out _ H3.out)
              have hc3 := S2.out
              go_wp2_with (at_builtin; refine wpList_append_own _ rfl _ _ 22 rfl w2.heap.size 9 i0 (.string (bsOf [])) 1 16 Tryd.underlying22 hi hz0 hz1 hz2 rfl (by decide) _ _ _ rfl (Grows.alloc G3.out _) ⟨w3.heap.size, 0, none⟩ 1 1 [.string ln] rfl rfl ?c1 ?c2 ?c3 ?c4 ?c5 ?_)
              case c1 => exact one_new
              case c2 => intro u hu; simp at hu; subst hu; rfl
              case c3 => exact HM1.out
              case c4 => exact HM2.out
              case c5 => have := B3.out.size; simp; omega
              intro v' w' hown hgrow _
              have GN : Hid (Grows Value.string 9 w2.heap.size v' (rL (lnY s) (k + 1)) w') := Lib.hid (by rw [HL1.out]; exact Grows.more (news := [ln]) rfl hown)
              have BN : Hid (Below w2.heap.size w2 w') := Lib.hid ((B3.out.alloc B3.out.size _).grown hgrow (by have := B3.out.size; simp; omega) (fun g hg => G3.out.block g hg))
              have c4' : w'.cell? ⟨g, k, none⟩ = some (.string y) := by rw [BN.out.cell (p := ⟨g, k, none⟩) (cell_block (HC.out k hlt)), ← B3.out.cell (p := ⟨g, k, none⟩) (cell_block (HC.out k hlt))]; exact hc3
              clear hown hgrow hc3 hc1
              go_wp2_with fail
              go_roundg (g2 - 1)
              case measure => have := HGK.out; omega
              case rel => exact ⟨k + 1, by omega, by have := HGK.out; omega, by go_num, rfl, by (rw [HY1.out]; go_num), fun j hj => by
                by_cases e : j = k
                · rw [e]; exact HGT.out
                · exact HA.out j (by omega), GN.out, BN.out⟩
          · have hNe : c = y.size := by omega
            have HRK := Lib.hid (HRN.out (Or.inr (by
              rw [Bool.eq_false_iff]
              exact fun h => HN3.out hNe (HG1.out.1 h).1)))
            have d1 : ((c : Int) == (y.size : Int)) = true := by rw [beq_iff_eq]; omega
            clear hNe
            go_wp2_with fail
            go_ret2
            rw [HRK.out]
            exact ⟨_, rfl, SI.wide HG.out.si B2.out.size (Nat.le_refl _) (Nat.le_refl _), B2.out.trans (HB.out.mono B2.out.size)⟩
    · obtain rfl : k = M := by omega
      have HRK := Lib.hid (rN_of HM.out (Nat.le_refl _) HA.out (Or.inl rfl))
      go_wp2_with fail
      go_ret2
      rw [HRK.out]
      exact ⟨_, rfl, SI.wide HG.out.si B2.out.size (Nat.le_refl _) (Nat.le_refl _), B2.out.trans (HB.out.mono B2.out.size)⟩
end Go.Proofs.YtcgdkjbbdpmmhaaDoor
