/- Does a form hold by values? Both sides. -/
import Derived.Test.YtleaaigjnniglaaHb0
import Derived.Test.YtleaaigjnniglaaVa
namespace Go.Proofs.Ytleaaigjnniglaa
open Go.RowKit Go.ChangeShapes Go.WideShapes

/-- Two bools. -/
def SaysOO (a b : Bool) (w : World) (e : Ending) (w' : World) : Prop := e = .returned (.tuple #[.bool a, .bool b]) ∧ Below w.heap.size w w'
theorem saysOO {a b c d : Bool} {w w' : World} (h : a = c) (h2 : b = d) (k : Below w.heap.size w w') : SaysOO c d w (.returned (.tuple #[.bool a, .bool b])) w' := ⟨by rw [h, h2], k⟩
def hbB (F : Fm) (V : List Bool) : Bool := formB F && ((V.length : Int) == F.letters)
def hbA (F : Fm) (V : List Bool) : Bool := hbB F V && modelB F.letters.toNat F.cs (numK V V.length)
theorem hb_no1 {F : Fm} {V : List Bool} (h : formB F = false) : hbA F V = false ∧ hbB F V = false := by unfold hbA hbB; rw [h]; exact ⟨rfl, rfl⟩
theorem hb_no2 {F : Fm} {V : List Bool} (h : ((V.length : Int) == F.letters) = false) : hbA F V = false ∧ hbB F V = false := by
  have : hbB F V = false := by unfold hbB; rw [h, Bool.and_false]
  unfold hbA
  rw [this]
  exact ⟨rfl, rfl⟩
theorem hb_yes {F : Fm} {V : List Bool} (h1 : formB F = true) (h2 : ((V.length : Int) == F.letters) = true) : hbA F V = modelB F.letters.toNat F.cs (numK V V.length) ∧ hbB F V = true := by
  have : hbB F V = true := by unfold hbB; rw [h1, h2]; rfl
  unfold hbA
  rw [this]
  exact ⟨rfl, rfl⟩
theorem BL.any {w : World} {v : Value} {Z : List Bool} (h : BL w v Z) : ∃ ao cap, v = .slice ao Z.length cap ∧ ∀ i, i < Z.length → ∃ b off, ao = some ⟨b, off, none⟩ ∧ b < w.heap.size ∧ w.cell? ⟨b, off + i, none⟩ = some (.bool (Z.getD i false)) := by
  rcases h with ⟨rfl, ao, cap, rfl⟩ | ⟨b, off, cap, rfl, h2, h3, h4⟩
  · exact ⟨ao, cap, rfl, fun i hi => by simp at hi⟩
  · exact ⟨_, _, rfl, fun i hi => ⟨b, off, rfl, h3, h4 i hi⟩⟩
theorem II.any' {w : World} {v : Value} {Z : List Int} (h : IL w v Z) : ∃ ao cap, v = .slice ao Z.length cap ∧ ∀ i, i < Z.length → ∃ b off, ao = some ⟨b, off, none⟩ ∧ b < w.heap.size ∧ w.cell? ⟨b, off + i, none⟩ = some (.int .i64 (Z.getD i 0)) := by
  rcases h with ⟨rfl, ao, cap, rfl⟩ | ⟨b, off, cap, rfl, h2, h3, h4⟩
  · exact ⟨ao, cap, rfl, fun i hi => by simp at hi⟩
  · exact ⟨_, _, rfl, fun i hi => ⟨b, off, rfl, h3, h4 i hi⟩⟩
set_option maxRecDepth 100000 in
set_option maxHeartbeats 4000000 in
theorem placesOf_any (v : Value) (V : List Bool) (w : World) (hv : BL w v V) (hn : V.length ≤ 10) :
    Calls Try.prog 64 #[v, .bool true] w (Made (Value.int .i64) (0 : Int) (plcK V V.length) w) := by
  obtain ⟨i0, hi, hz0, hz1, hz2⟩ := info_parts Try.infoI
  obtain ⟨ao, cap, rfl, hcell⟩ := hv.any
  have HC := Lib.hid hcell
  clear hcell hv
  go_enter Try.func64, Try.ntmps64
  go_wp2_with fail
  go_loopg [5, 10] V.length (fun gk v i wr => ∃ k : Nat, k ≤ V.length ∧ gk + k = V.length ∧ i = .int .i64 k ∧ Below w.heap.size w wr ∧ Grows (Value.int .i64) 2 w.heap.size v (plcK V k) wr)
  case atStart => exact ⟨0, Nat.zero_le _, by omega, rfl, Below.refl _ _, Grows.nil _ _ _ _⟩
  case round =>
    obtain ⟨k, hk, hgk, rfl, hB, hG⟩ := hrel
    have HB := Lib.hid hB
    have HG := Lib.hid hG
    by_cases hlt : k < V.length
    · obtain ⟨b, off, hao, hbl, hx⟩ := HC.out k hlt
      subst hao
      have c0 : wr.cell? ⟨b, off + k, none⟩ = some (.bool (V.getD k false)) := by rw [hB.cell (p := ⟨b, off + k, none⟩) hbl]; exact hx
      clear hB hG hx
      cases hm : V.getD k false with
      | true =>
        have hml := plcK_len V k
        have HUP := Lib.hid (plcK_yes hm)
        have HML : Hid ((plcK V k).length ≤ k) := Lib.hid hml
        rw [hm] at c0
        clear hml hm
        go_wp2_with (at_builtin; refine wpList_append_own _ rfl _ _ 22 rfl w.heap.size 2 i0 (.int .i64 0) 1 8 Try.underlying22 hi hz0 hz1 hz2 rfl (by decide) _ _ _ rfl (Grows.alloc HG.out _) ⟨wr.heap.size, 0, none⟩ 1 1 [.int .i64 (k : Int)] rfl rfl ?c1 ?c2 ?c3 ?c4 ?c5 ?_)
        case c1 => exact one_new
        case c2 => intro u hu; simp at hu; subst hu; rfl
        case c3 => have := HML.out; unfold maxLen; omega
        case c4 => have := HML.out; omega
        case c5 => have := HB.out.size; simp; omega
        intro v' w' hown hgrow _
        have HN2 : Hid (Below w.heap.size w w' ∧ Grows (Value.int .i64) 2 w.heap.size v' (plcK V (k + 1)) w') := Lib.hid ⟨(HB.out.alloc HB.out.size _).grown hgrow (by have := HB.out.size; simp; omega) (fun g hg => HG.out.block g hg), by rw [HUP.out]; exact Grows.more (news := [(k : Int)]) rfl hown⟩
        clear hown hgrow c0
        go_wp2_with fail
        go_roundg (gk - 1)
        case measure => omega
        case rel => exact ⟨k + 1, by omega, by omega, by go_num, HN2.out.1, HN2.out.2⟩
      | false =>
        have HUP := Lib.hid (plcK_no hm)
        rw [hm] at c0
        clear hm
        go_wp2_with fail
        go_roundg (gk - 1)
        case measure => omega
        case rel => exact ⟨k + 1, by omega, by omega, by go_num, HB.out, by rw [HUP.out]; exact HG.out⟩
    · obtain rfl : k = V.length := by omega
      clear hB hG
      go_wp2_with fail
      refine bodyPost_ret (results_tmp rfl _ _ _) rfl ?_
      exact ⟨_, rfl, HG.out.si, HB.out⟩
set_option maxRecDepth 100000 in
set_option maxHeartbeats 4000000 in
theorem implHoldsBy_any (v : Value) (F : Fm) (u : Value) (V : List Bool) (w : World) (hv : FmV w v F) (hu : BL w u V) (o : OKFm F) (oV : OKB V) :
    Calls Try.prog 28 #[v, u] w (SaysOO (hbA F V) (hbB F V) w) := by
  have hv0 := hv
  have hvn := oV.size
  obtain ⟨s1, rfl, g1⟩ := hv
  have HV := Lib.hid (fun wx (hb : Below w.heap.size w wx) => hv0.below hb (Nat.le_refl _))
  have HU := Lib.hid (fun wx (hb : Below w.heap.size w wx) => BL.below hu hb (Nat.le_refl _))
  have hb0 := Lib.hid (fun o => below_alloc w o)
  obtain ⟨ao, cap, rfl⟩ := g1.long
  obtain ⟨au, cu, rfl⟩ := hu.long
  clear hv0 g1 hu
  cases h1 : formB F with
  | false =>
    have HN := Lib.hid (hb_no1 (V := V) h1)
    have H1 := Lib.hid h1
    clear h1
    go_enter Try.func28, Try.ntmps28
    go_wp2_with fail
    go_at_call 22; refine (implForm_any _ F _ (HV.out _ (hb0.out _)) o).mono ?_; rintro e w1 ⟨rfl, b1⟩
    rw [H1.out]
    have HB := Lib.hid ((hb0.out _).trans (b1.mono (hb0.out _).size))
    clear b1
    go_wp2_with fail
    go_ret2
    exact saysOO HN.out.1.symm HN.out.2.symm HB.out
  | true =>
    cases h2 : ((V.length : Int) == F.letters) with
    | false =>
      have HN := Lib.hid (hb_no2 h2)
      have H1 := Lib.hid h1
      have hne : ((V.length : Int) != F.letters) = true := by rw [bne, h2]; rfl
      clear h1 h2
      go_enter Try.func28, Try.ntmps28
      go_wp2_with fail
      go_at_call 22; refine (implForm_any _ F _ (HV.out _ (hb0.out _)) o).mono ?_; rintro e w1 ⟨rfl, b1⟩
      rw [H1.out]
      have HB := Lib.hid ((hb0.out _).trans (b1.mono (hb0.out _).size))
      obtain ⟨c0, c1⟩ := (Box2.mk' w (.int .i64 F.letters) (.slice ao F.cs.length cap) 31).keep b1 (by simp)
      clear b1
      go_wp2_with fail
      go_ret2
      exact saysOO HN.out.1.symm HN.out.2.symm HB.out
    | true =>
      have hh0 := (formB_ok h1).num
      have hVL : (V.length : Int) = F.letters := by simpa using h2
      have hLV : F.letters.toNat = V.length := by omega
      rw [hLV] at hh0
      have HN : Hid (hbA F V = modelB V.length F.cs (numK V V.length) ∧ hbB F V = true) := Lib.hid (by have := hb_yes (V := V) h1 h2; rw [hLV] at this; exact this)
      have H1 := Lib.hid h1
      have HH := Lib.hid hh0
      have hL1 := hh0.L1
      have hL2 := hh0.L2
      have hp2 := hh0.p2
      have HNN := Lib.hid hVL.symm
      have HV2 : Hid (∀ wx, Below w.heap.size w wx → FmV wx (.agg #[.int .i64 (V.length : Int), .slice ao F.cs.length cap]) F) := Lib.hid fun wx hb => by
        have := HV.out wx hb
        rw [HNN.out] at this
        exact this
      have hne : ((V.length : Int) != (V.length : Int)) = false := by simp
      have HOR := Lib.hid (orL_num (L := V.length) (V := V) hL1)
      obtain ⟨N, hN⟩ : ∃ N, N = 2 ^ V.length := ⟨_, rfl⟩
      have HOL : Hid (∀ j, orL V.length (plcK V V.length) j < N) := Lib.hid (fun j => by rw [hN]; exact orL_lt (L := V.length) (T := plcK V V.length) hL1 j)
      rw [← hN] at hp2
      have HOS : Hid (∀ j, orL V.length (plcK V V.length) (j + 1) = orL V.length (plcK V V.length) j ||| 2 ^ (V.length - (((plcK V V.length).getD j 0).toNat + 1))) := Lib.hid fun j => rfl
      have HPM := Lib.hid (fun x => @plcK_mem V V.length x)
      have hpl := plcK_len V V.length
      have HNL := Lib.hid (numK_lt V V.length)
      have HFLN : Hid ((failL V.length F.cs F.cs.length).length = N) := Lib.hid (by rw [failL_len, hN])
      clear h1 h2 hh0 hVL hLV hN
      go_enter Try.func28, Try.ntmps28
      go_wp2_with fail
      go_at_call 22; refine (implForm_any _ F _ (HV.out _ (hb0.out _)) o).mono ?_; rintro e w1 ⟨rfl, b1⟩
      rw [H1.out]
      have HB := Lib.hid ((hb0.out _).trans (b1.mono (hb0.out _).size))
      have HBX := Lib.hid ((Box2.mk' w (.int .i64 F.letters) (.slice ao F.cs.length cap) 31).keep b1 (by simp))
      obtain ⟨c0, c1⟩ := HBX.out
      rw [HNN.out] at c0
      clear b1
      go_wp2_with fail
      go_at_call 64; refine (placesOf_any _ V _ (HU.out _ HB.out) hL2).mono ?_; rintro e w2 ⟨v2, rfl, hi2, b2⟩
      have HB2 := Lib.hid (HB.out.trans (b2.mono HB.out.size))
      have HBX2 := Lib.hid (HBX.out.keep b2 HBX.out.lt)
      have HT0 : Hid (orL V.length (plcK V V.length) 0 = 0) := Lib.hid rfl
      generalize plcK V V.length = T at hi2 HOR HOL HOS HPM hpl HT0
      obtain ⟨ax, cx, rfl, hcell⟩ := II.any' (II.il hi2)
      have HC := Lib.hid hcell
      clear hi2 hcell b2 c0 c1 HB HBX
      go_wp2_with fail
      go_loopg [6, 22] T.length (fun gk s i wr => ∃ k : Nat, k ≤ T.length ∧ gk + k = T.length ∧ i = .int .i64 k ∧ s = .int .i64 (orL V.length T k : Nat) ∧ w2 = wr)
      case atStart => exact ⟨0, Nat.zero_le _, by omega, rfl, by rw [HT0.out]; rfl, rfl⟩
      case round =>
        obtain ⟨k, hk, hgk, rfl, rfl, rfl⟩ := hrel
        obtain ⟨c0, c1⟩ := HBX2.out
        rw [HNN.out] at c0
        have hol := HOL.out k
        by_cases hlt : k < T.length
        · obtain ⟨b, off, hao, hbl, d0⟩ := HC.out k hlt
          subst hao
          obtain ⟨i, hi1, -, hi3⟩ := (HPM.out (T.getD k 0)).1 (by rw [getDI hlt]; exact List.getElem_mem hlt)
          have hs := HOS.out k
          rw [hi3] at d0
          rw [hi3, Int.toNat_natCast] at hs
          have hpq := pow10 (L := V.length - (i + 1)) (by omega)
          have hor := i64_or62 (orL V.length T k) (2 ^ (V.length - (i + 1))) (by omega) (by omega)
          rw [← hs] at hor
          have hwi : IntKind.i64.wrap ((i : Int) + 1) = ((i + 1 : Nat) : Int) := by rw [IntWalk.i64_in _ (by omega)]; rfl
          generalize hD : 2 ^ (V.length - (i + 1)) = D at hor
          have HD := Lib.hid hD
          generalize orL V.length T k = q at hor hol
          generalize hq2 : orL V.length T (k + 1) = q2 at hor
          have HQ2 := Lib.hid hq2
          clear hq2
          have HOR2 := Lib.hid hor
          clear hi3 hs hD hpq hor
          go_wp2_with fail
          go_at_call 65; refine (digitOf_is (V.length : Int) _ V.length (i + 1) _ rfl (by omega) (by omega) hL2).mono ?_; rintro e w' ⟨rfl, rfl⟩
          rw [HD.out]
          have hor := HOR2.out
          go_wp2_with fail
          go_roundg (gk - 1)
          case measure => omega
          case rel => exact ⟨k + 1, by omega, by omega, by go_num, by rw [HQ2.out], rfl⟩
        · obtain rfl : k = T.length := by omega
          have hor := HOR.out
          rw [hor] at hol
          rw [hor]
          have hfl := HFLN.out
          have HFE : Hid ((failK V.length F.cs (numK V V.length) F.cs.length = 0) ↔ modelB V.length F.cs (numK V V.length) = true) := Lib.hid (by rw [model_fail]; simp)
          have HFA : Hid ((failL V.length F.cs F.cs.length).getD (numK V V.length) 0 = (failK V.length F.cs (numK V V.length) F.cs.length : Int)) := Lib.hid (failL_at HNL.out)
          have HM := Lib.hid HN.out.1
          generalize numK V V.length = q at hol HFE HFA HM HN
          have hq : (q : Int) < (N : Int) := by omega
          have HBq := Lib.hid HB2.out.size
          clear hor
          go_wp2_with fail
          go_at_call 66; refine (failsOf_any _ F V.length _ (HV2.out _ HB2.out) o HH.out).mono ?_; rintro e w3 ⟨v3, rfl, hi3, b3⟩
          have H3 := Lib.hid (HB2.out.trans (b3.mono HB2.out.size))
          obtain ⟨b, off, cap1, rfl, hbl, hcell⟩ := fails_cells (II.il hi3) (by rw [hfl]; omega)
          have d0 := hcell q (by rw [hfl]; omega)
          rw [HFA.out] at d0
          rw [hfl]
          clear hi3 b3 hcell c0 c1
          have hfe := HFE.out
          generalize failK V.length F.cs q F.cs.length = f at d0 hfe
          cases hm : modelB V.length F.cs q with
          | true =>
            obtain rfl : f = 0 := hfe.2 hm
            have HMM := Lib.hid hm
            clear hfe hm
            go_wp2_with fail
            go_ret2
            exact saysOO (by rw [HN.out.1, HMM.out]) HN.out.2.symm H3.out
          | false =>
            have hf0 : ((f : Int) == 0) = false := by
              have : f ≠ 0 := fun e => by rw [hfe.1 e] at hm; cases hm
              exact beq_false_of_ne (by omega)
            have HMM := Lib.hid hm
            clear hfe hm
            go_wp2_with fail
            go_ret2
            exact saysOO (by rw [HN.out.1, HMM.out]) HN.out.2.symm H3.out
set_option maxRecDepth 100000 in
set_option maxHeartbeats 4000000 in
theorem specHoldsBy_any (v : Value) (F : Fm) (u : Value) (V : List Bool) (w : World) (hv : FmV w v F) (hu : BL w u V) (o : OKFm F) (oV : OKB V) :
    Calls Try.prog 26 #[v, u] w (SaysOO (hbA F V) (hbB F V) w) := by
  have hvn := oV.size
  obtain ⟨s1, rfl, g1⟩ := FmAt.mk' hv 31
  have G1 := Lib.hid g1
  obtain ⟨s2, hb2, hs2⟩ := g1.box
  obtain rfl : s2 = s1 := by
    have := hb2.c1
    rw [World.cell?_alloc_new] at this
    simpa using this.symm
  have HBX0 := Lib.hid hb2
  obtain ⟨ao, cap, rfl⟩ := hs2.long
  have hb0 := Lib.hid (fun o => below_alloc w o)
  have HU := Lib.hid (fun wx (hb : Below w.heap.size w wx) => BL.below hu hb (Nat.le_refl _))
  obtain ⟨au, cu, rfl⟩ := hu.long
  clear g1 hb2 hs2 hv hu
  cases h1 : formB F with
  | false =>
    have HN := Lib.hid (hb_no1 (V := V) h1)
    have H1 := Lib.hid h1
    clear h1
    go_enter Try.func26, Try.ntmps26
    go_wp2_with fail
    go_at_call 55; refine (l05Is_any w.heap.size F _ G1.out o).mono ?_; rintro e w1 ⟨rfl, b1⟩
    rw [H1.out]
    have HB := Lib.hid ((hb0.out _).trans (b1.mono (hb0.out _).size))
    clear b1
    go_wp2_with fail
    go_ret2
    exact saysOO HN.out.1.symm HN.out.2.symm HB.out
  | true =>
    cases h2 : ((V.length : Int) == F.letters) with
    | false =>
      have HN := Lib.hid (hb_no2 h2)
      have H1 := Lib.hid h1
      have hne : ((V.length : Int) != F.letters) = true := by rw [bne, h2]; rfl
      clear h1 h2
      go_enter Try.func26, Try.ntmps26
      go_wp2_with fail
      go_at_call 55; refine (l05Is_any w.heap.size F _ G1.out o).mono ?_; rintro e w1 ⟨rfl, b1⟩
      rw [H1.out]
      have HB := Lib.hid ((hb0.out _).trans (b1.mono (hb0.out _).size))
      obtain ⟨c0, c1⟩ := HBX0.out.keep b1 HBX0.out.lt
      clear b1
      go_wp2_with fail
      go_ret2
      exact saysOO HN.out.1.symm HN.out.2.symm HB.out
    | true =>
      have hh0 := (formB_ok h1).num
      have hVL : (V.length : Int) = F.letters := by simpa using h2
      have hLV : F.letters.toNat = V.length := by omega
      rw [hLV] at hh0
      have HN : Hid (hbA F V = modelB V.length F.cs (numK V V.length) ∧ hbB F V = true) := Lib.hid (by have := hb_yes (V := V) h1 h2; rw [hLV] at this; exact this)
      have H1 := Lib.hid h1
      have HH := Lib.hid hh0
      have hL2 := hh0.L2
      have HNN := Lib.hid hVL.symm
      have hne : ((V.length : Int) != F.letters) = false := by rw [bne, h2]; rfl
      have HNK : Hid (∀ k, k ≤ V.length → numK V k < 1024) := Lib.hid fun k hk => by
        have h3 := numK_lt V k
        have h4 : 2 ^ k ≤ 2 ^ V.length := Nat.pow_le_pow_right (by omega) hk
        have h5 := hh0.p2
        omega
      have HNS : Hid (∀ k, numK V (k + 1) = 2 * numK V k + (if V.getD k false then 1 else 0)) := Lib.hid fun k => rfl
      clear h1 h2 hh0 hVL hLV
      go_enter Try.func26, Try.ntmps26
      go_wp2_with fail
      go_at_call 55; refine (l05Is_any w.heap.size F _ G1.out o).mono ?_; rintro e w1 ⟨rfl, b1⟩
      rw [H1.out]
      have HB := Lib.hid ((hb0.out _).trans (b1.mono (hb0.out _).size))
      have HG := Lib.hid (G1.out.keep b1)
      obtain ⟨c0, c1⟩ := HBX0.out.keep b1 HBX0.out.lt
      obtain ⟨ax, cx, hsl, hcl⟩ := (HU.out _ HB.out).any
      obtain ⟨rfl, -, rfl⟩ : au = ax ∧ True ∧ cu = cx := by simpa using hsl
      have HC := Lib.hid hcl
      clear b1 hsl hcl
      go_wp2_with fail
      clear c0 c1 hne
      go_loopg [6, 19] V.length (fun gk s i wr => ∃ k : Nat, k ≤ V.length ∧ gk + k = V.length ∧ i = .int .i64 k ∧ s = .int .i64 (numK V k : Nat) ∧ w1 = wr)
      case atStart => exact ⟨0, Nat.zero_le _, by omega, rfl, rfl, rfl⟩
      case round =>
        obtain ⟨k, hk, hgk, rfl, rfl, rfl⟩ := hrel
        have hnk := HNK.out k hk
        by_cases hlt : k < V.length
        · obtain ⟨b, off, hau, hbl, d0⟩ := HC.out k hlt
          subst hau
          have hns := HNS.out k
          generalize hq : numK V k = q at hnk hns
          have hw2 : IntKind.i64.wrap ((q : Int) * 2) = ((2 * q : Nat) : Int) := by rw [IntWalk.i64_in _ (by omega)]; omega
          cases hm : V.getD k false with
          | true =>
            rw [hm] at d0 hns
            have HS : Hid (numK V (k + 1) = 2 * q + 1) := Lib.hid hns
            clear hns hq hm
            go_wp2_with fail
            go_roundg (gk - 1)
            case measure => omega
            case rel => exact ⟨k + 1, by omega, by omega, by go_num, by rw [HS.out]; go_num, rfl⟩
          | false =>
            rw [hm] at d0 hns
            have HS : Hid (numK V (k + 1) = 2 * q) := Lib.hid hns
            clear hns hq hm
            go_wp2_with fail
            go_roundg (gk - 1)
            case measure => omega
            case rel => exact ⟨k + 1, by omega, by omega, by go_num, by rw [HS.out]; go_num, rfl⟩
        · obtain rfl : k = V.length := by omega
          go_wp2_with fail
          go_at_call 63; refine (l05Model_any w.heap.size F V.length (numK V V.length) _ HG.out o HH.out hnk).mono ?_; rintro e w' ⟨rfl, m, rfl⟩
          go_wp2_with fail
          go_ret2
          exact saysOO HN.out.1.symm HN.out.2.symm (below_drewN HB.out _)
end Go.Proofs.Ytleaaigjnniglaa
