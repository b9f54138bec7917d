/- Sets of domains with no more numbers: the program. -/
import Derived.Test.YtnakpfbeeekmiaaDoorTg0
import Derived.Test.YtnakpfbeeekmiaaDoorDmI
import Derived.Test.YtnakpfbeeekmiaaDoorCnt48
import Derived.Test.YtnakpfbeeekmiaaDoorRowA
import Derived.Test.YtnakpfbeeekmiaaDoorTz
import Derived.Test.YtnakpfbeeekmiaaDoorGrw
import Derived.StillTailTactics
import Derived.Laws.ShiftsVar
import Derived.Laws.BitsAll
import Derived.Laws.MakeOwn
import Derived.OwnWalk
namespace Go.Proofs.YtnakpfbeeekmiaaDoor
open Go.RowKit Go.ChangeShapes Go.WideShapes

attribute [local irreducible] popN
theorem i64_and62 (a b : Nat) (ha : a < 4611686018427387904) (hb : b < 4611686018427387904) : bits .and .i64 (a : Int) (b : Int) = ((a &&& b : Nat) : Int) := by
  have hx : a &&& b ≤ a := Nat.and_le_left
  show IntKind.i64.wrap ((BitVec.ofInt 64 (a : Int) &&& BitVec.ofInt 64 (b : Int)).toNat : Int) = _
  rw [BitVec.toNat_and, ofInt_u64 a (by omega), ofInt_u64 b (by omega)]
  exact IntWalk.i64_in _ (by omega)
theorem i64_or62 (a b : Nat) (ha : a < 4611686018427387904) (hb : b < 4611686018427387904) : bits .or .i64 (a : Int) (b : Int) = ((a ||| b : Nat) : Int) := by
  have hx : a ||| b < 2 ^ 62 := Nat.or_lt_two_pow (n := 62) (by simpa using ha) (by simpa using hb)
  show IntKind.i64.wrap ((BitVec.ofInt 64 (a : Int) ||| BitVec.ofInt 64 (b : Int)).toNat : Int) = _
  rw [BitVec.toNat_or, ofInt_u64 a (by omega), ofInt_u64 b (by omega)]
  exact IntWalk.i64_in _ (by omega)
theorem holdBoth62 (a b : Nat) (w : World) (h1 : a < 4611686018427387904) (h2 : b < 4611686018427387904) :
    Calls Tryd.prog 37 #[.int .i64 a, .int .i64 b] w (fun e w' => e = .returned (.int .i64 (a ||| b : Nat)) ∧ w' = w) := by
  have e1 := i64_or62 a b h1 h2
  go_enter Tryd.func37, Tryd.ntmps37
  go_wp2
  go_ret
  exact ⟨rfl, rfl⟩
/-- The numbers of the first k domains, a bit each. -/
def msL (Ds : List (List Int)) (k : Nat) : List Int := (List.range k).map fun i => ((mskE (Ds.getD i []) (Ds.getD i []).length : Nat) : Int)
theorem msL_len (Ds : List (List Int)) (k : Nat) : (msL Ds k).length = k := by simp [msL]
theorem msL_at {Ds : List (List Int)} {k i : Nat} (h : i < k) : (msL Ds k).getD i 0 = ((mskE (Ds.getD i []) (Ds.getD i []).length : Nat) : Int) := by simp [msL, List.getD, h]
theorem msL_up (Ds : List (List Int)) (k : Nat) : msL Ds (k + 1) = msL Ds k ++ [((mskE (Ds.getD k []) (Ds.getD k []).length : Nat) : Int)] := by unfold msL; rw [List.range_succ, List.map_append]; rfl
theorem dom_lt {Ds : List (List Int)} (h : DomsOk Ds) {k : Nat} (hk : k < Ds.length) : mskE (Ds.getD k []) (Ds.getD k []).length < 4294967296 := mskE_lt (fun i hi => (h.d k hk).v i hi) _ (Nat.le_refl _)
theorem or_lt {Ds : List (List Int)} (h : DomsOk Ds) (m : Nat) : orD Ds Ds.length m < 4294967296 := orD_lt (fun _ hk => dom_lt h hk) m _ (Nat.le_refl _)
def orsD (Ds : List (List Int)) : List Int := allF (fun m => (orD Ds Ds.length m : Int)) (2 ^ Ds.length)
set_option maxRecDepth 100000 in
set_option maxHeartbeats 8000000 in
theorem joinOrD_any (v : Value) (Ds : List (List Int)) (w : World) (hv : IL w v (msL Ds Ds.length)) (OK : DomsOk Ds) (ht : TzTab w) :
    Calls Tryd.prog 25 #[v, .func (.func 37) #[] #[]] w (Made (Value.int .i64) (0 : Int) (orsD Ds) w) := by
  obtain ⟨i0, hi, hz0, hz1, hz2⟩ := info_parts Tryd.infoI
  have OKH := Lib.hid OK
  have HT := Lib.hid ht
  have l1 := OK.l1
  have l2 := OK.l2
  have l16 : Ds.length ≤ 16 := by omega
  obtain ⟨q1, q2⟩ := pow16 l16
  have hml := msL_len Ds Ds.length
  rcases hv with ⟨hz, -⟩ | ⟨b, off, cap, rfl, hpos, hbl, hcell⟩
  · rw [hz] at hml; simp at hml; omega
  rw [hml] at hcell ⊢
  have HC : Hid (∀ i, i < Ds.length → w.cell? ⟨b, off + i, none⟩ = some (.int .i64 ((mskE (Ds.getD i []) (Ds.getD i []).length : Nat) : Int))) := Lib.hid fun i hi => by rw [hcell i hi, msL_at hi]
  obtain ⟨N, hN⟩ : ∃ N, N = 2 ^ Ds.length := ⟨_, rfl⟩
  have HN := Lib.hid hN
  have hp : (2 : Int) ^ Ds.length = (N : Int) := by rw [hN]; simp
  rw [← hN] at q1 q2
  have H0 := Lib.hid (show List.replicate N (0 : Int) = mix (fun _ => 0) (fun m => (orD Ds Ds.length m : Int)) N 1 from (rep_allF fun _ _ => rfl).trans (mix_done fun x hx => by
    obtain rfl : x = 0 := by omega
    show (0 : Int) = ((orD Ds Ds.length 0 : Nat) : Int); rw [orD_zero]; rfl).symm)
  clear hcell OK hN ht hml hpos
  go_enter Tryd.func25, Tryd.ntmps25
  go_wp2_with (at_make; refine wpList_make_full _ rfl _ _ 24 rfl w.heap.size 2 i0 (.int .i64 0) 1 Tryd.underlying24 hi hz0 hz1 _ _ _ _ N rfl rfl rfl rfl (by rw [hz2]; omega) (by unfold maxLen; omega) (Nat.le_refl _) ?_; intro w2 hown hgrow; have bm := (Below.refl w.heap.size w).grown hgrow (Nat.le_refl _) (fun g hg => by cases hg); have hA := Lib.hid (show RowAt w w.heap.size (List.replicate N 0) w2 from ⟨bm, (hown.lt _ rfl).2, Nat.le_refl _, Arr.made_i hown⟩); clear hown hgrow bm)
  go_loopg [6] N (fun gk s wr => ∃ k : Nat, 1 ≤ k ∧ k ≤ N ∧ gk + k = N + 1 ∧ s = .int .i64 k ∧ RowAt w w.heap.size (mix (fun _ => 0) (fun m => (orD Ds Ds.length m : Int)) N k) wr)
  case atStart => exact ⟨1, Nat.le_refl _, q1, by omega, rfl, hA.out.to H0.out⟩
  case round =>
    clear hA
    obtain ⟨k, hk1, hk, hgk, rfl, hat⟩ := hrel
    have HA := Lib.hid hat
    clear hat
    by_cases hlt : k < N
    · have k0 : k ≠ 0 := by omega
      have k64 : k < 65536 := by omega
      obtain ⟨q, hq, htn⟩ := low_facts l16 k0 (by rw [← HN.out]; exact hlt)
      have HLOW : Hid (orD Ds Ds.length k = orD Ds Ds.length (k &&& (k - 1)) ||| mskE (Ds.getD (Lib.ctz 64 k) []) (Ds.getD (Lib.ctz 64 k) []).length) := Lib.hid (orD_low hq Ds.length htn)
      have e1 := i64_and62 k (k - 1) (by omega) (by omega)
      rw [show ((k - 1 : Nat) : Int) = (k : Int) - 1 by omega] at e1
      have hplt : k &&& (k - 1) < k := by have := Nat.and_le_right (n := k) (m := k - 1); omega
      have TZ : Hid (∀ W, Below w.heap.size w W → Calls Tryd.prog 45 #[.int .u64 k] W (fun e w' => e = .returned (.int .i64 (Lib.ctz 64 k)) ∧ w' = W)) := Lib.hid fun W hb => (tz_any k W k0 k64 (HT.out.below hb)).mono fun _ _ ⟨h1, h2⟩ => ⟨h1, h2.symm⟩
      have x1 : wr.cell? ⟨b, off + Lib.ctz 64 k, none⟩ = some (.int .i64 ((mskE (Ds.getD (Lib.ctz 64 k) []) (Ds.getD (Lib.ctz 64 k) []).length : Nat) : Int)) := by rw [HA.out.below.cell (p := ⟨b, off + Lib.ctz 64 k, none⟩) hbl]; exact HC.out _ htn
      have hy := dom_lt OKH.out htn
      have hs := or_lt OKH.out (k &&& (k - 1))
      have y1 := HA.out.cell (i := k &&& (k - 1)) (by rw [mix_len]; omega)
      rw [mix_old (by omega) (by omega)] at y1
      have hf := HA.out.arr.free k
      have y2 := HA.out.cell (i := k) (by rw [mix_len]; omega)
      rw [mix_new (by omega) (Nat.le_refl _)] at y2
      have HST : Hid ((mix (fun _ => 0) (fun m => (orD Ds Ds.length m : Int)) N k).set k ((orD Ds Ds.length (k &&& (k - 1)) ||| mskE (Ds.getD (Lib.ctz 64 k) []) (Ds.getD (Lib.ctz 64 k) []).length : Nat) : Int) = mix (fun _ => 0) (fun m => (orD Ds Ds.length m : Int)) N (k + 1)) := Lib.hid (by rw [← mix_up, ← HLOW.out])
      have HLEN : Hid (k < (mix (fun _ => 0) (fun m => (orD Ds Ds.length m : Int)) N k).length) := Lib.hid (by rw [mix_len]; exact hlt)
      generalize orD Ds Ds.length (k &&& (k - 1)) = s at y1 hs HST
      generalize k &&& (k - 1) = p at e1 hplt y1
      generalize mskE (Ds.getD (Lib.ctz 64 k) []) (Ds.getD (Lib.ctz 64 k) []).length = y at x1 hy HST
      generalize Lib.ctz 64 k = t at TZ htn x1
      have wk : IntKind.i64.wrap ((k : Int) - 1) = (k : Int) - 1 := IntWalk.i64_in _ (by omega)
      have wy : IntKind.u64.wrap (k : Int) = (k : Int) := by rw [IntKind.wrap_u64]; omega
      have lp : (p : Int) < (N : Int) := by omega
      have lt : (t : Int) < (Ds.length : Int) := by omega
      have lk : (k : Int) < (N : Int) := by omega
      have HBD := Lib.hid (show Below w.heap.size w wr.drew from below_drewN HA.out.below 1)
      clear hq HLOW k0
      go_wp2_with fail
      refine wp_region_still_tail 18 (by kernel_rfl) (by kernel_rfl) ?_
      simp only [List.take_succ_cons, List.take_zero, List.drop_succ_cons, List.drop_zero]
      repeat still_step
      still_call (TZ.out _ HBD.out)
      repeat still_step
      still_call (holdBoth62 s y _ (by omega) (by omega))
      repeat still_step
      refine wpStill_nil ?_
      change wpList _ _ _ _ _ wr.drew
      go_wp2_with fail
      go_roundg (gk - 1)
      case measure => omega
      case rel => exact ⟨k + 1, by omega, by omega, by omega, by go_num, ((HA.out.drew 1).set HLEN.out _).to HST.out⟩
    · obtain rfl : k = N := by omega
      have HE : Hid (mix (fun _ => 0) (fun m => (orD Ds Ds.length m : Int)) k k = orsD Ds) := Lib.hid (by rw [mix_end (Nat.le_refl _)]; unfold orsD; rw [← HN.out])
      go_wp2_with fail
      refine bodyPost_ret (results_tmp rfl _ _ _) rfl ?_
      refine ⟨_, rfl, ?_, HA.out.below⟩
      have h := (HA.out.to HE.out).arr.si HA.out.ge HA.out.lt
      have hl : (orsD Ds).length = k := by unfold orsD; rw [allF_len, ← HN.out]
      rw [hl] at h
      exact h
set_option maxRecDepth 100000 in
set_option maxHeartbeats 8000000 in
theorem implTg_yes (v : Value) (Ds : List (List Int)) (w : World) (hv : LV w v Ds) (o : OKL Ds) (q : domsB Ds = true) (ht : TzTab w) :
    Calls Tryd.prog 17 #[v] w (SaysJB (tgT Ds (2 ^ Ds.length)) true w) := by
  obtain ⟨i0, hi, hz0, hz1, hz2⟩ := info_parts Tryd.infoI
  have HV := Lib.hid hv
  have H := Lib.hid q
  have HT := Lib.hid ht
  have HOK := Lib.hid (domsB_ok q)
  have hn1 := HOK.out.l1
  have hn6 := HOK.out.l2
  rcases hv with ⟨hz, -⟩ | ⟨b, off, dcap, D, rfl, hpos, hbl, hcell⟩
  · rw [hz] at hn1; simp at hn1
  have HDW : Hid (∀ W, Below w.heap.size w W → ∀ i, i < Ds.length → W.cell? ⟨b, off + i, none⟩ = some (D i) ∧ IL W (D i) (Ds.getD i [])) := Lib.hid fun W hb i hi =>
    ⟨by rw [hb.cell (p := ⟨b, off + i, none⟩) hbl]; exact (hcell i hi).1, (hcell i hi).2.below hb (Nat.le_refl _)⟩
  obtain ⟨N, hN⟩ : ∃ N, N = 2 ^ Ds.length := ⟨_, rfl⟩
  have HN := Lib.hid hN
  have hN64 : N ≤ 64 := by
    have : 2 ^ Ds.length ≤ 2 ^ 6 := Nat.pow_le_pow_right (by omega) hn6
    rw [hN]; omega
  have hN1 : 1 ≤ N := by rw [hN]; exact Nat.pow_pos (by omega)
  rw [← hN]
  clear q hcell hN ht
  go_enter Tryd.func17, Tryd.ntmps17
  go_wp2_with fail
  go_at_call 36; refine (implAreDomains_any _ Ds _ HV.out o).mono ?_; rintro e w1 ⟨rfl, b1⟩
  rw [H.out]
  have B1 := Lib.hid b1
  have hs1 : w.heap.size ≤ w1.heap.size := B1.out.size
  have HBW : Hid (∀ W, Below w1.heap.size w1 W → Below w.heap.size w W) := Lib.hid fun W h => B1.out.trans (h.mono hs1)
  clear b1
  go_wp2_with fail
  go_loopg [4, 18] Ds.length (fun gk s i wr => ∃ k : Nat, k ≤ Ds.length ∧ gk + k = Ds.length ∧ i = .int .i64 k ∧ Grows (Value.int .i64) 2 w1.heap.size s (msL Ds k) wr ∧ Below w1.heap.size w1 wr)
  case atStart => exact ⟨0, Nat.zero_le _, by omega, rfl, Grows.nil _ _ _ _, Below.refl _ _⟩
  case round =>
    obtain ⟨k, hk, hgk, rfl, hG, hB⟩ := hrel
    have HG := Lib.hid hG
    have HB := Lib.hid hB
    clear hG hB
    by_cases hlt : k < Ds.length
    · obtain ⟨cu, iu⟩ := HDW.out _ (HBW.out _ HB.out) k hlt
      have hdm := HOK.out.d k hlt
      have HMU := Lib.hid (msL_up Ds k)
      have hml := msL_len Ds k
      have hmlt := dom_lt HOK.out hlt
      obtain ⟨E, hE⟩ : ∃ E, E = Ds.getD k [] := ⟨_, rfl⟩
      rw [← hE] at iu hdm HMU hmlt
      have hEl := hdm.l2
      have hE1 := hdm.l1
      have HV2 := Lib.hid (fun i hi => hdm.v i hi)
      have HML := Lib.hid (fun i hi => mskE_lt (fun i hi => hdm.v i hi) i hi)
      generalize D k = Dk at cu iu
      rcases iu with ⟨hz, -⟩ | ⟨eb, eo, ec, rfl, -, ebl, ecell⟩
      · rw [hz] at hE1; simp at hE1
      have HEC := Lib.hid ecell
      obtain ⟨wA, rfl⟩ : ∃ x : World, x = wr := ⟨_, rfl⟩
      obtain ⟨gA, rfl⟩ : ∃ x : Nat, x = gk := ⟨_, rfl⟩
      have HMLN := Lib.hid hml
      generalize msL Ds k = Ms at HG HMU HMLN
      clear hE hdm ecell hml
      go_wp2_with fail
      go_loopg [7, 24] E.length (fun gk h i wi => ∃ a : Nat, a ≤ E.length ∧ gk + a = E.length ∧ i = .int .i64 a ∧ h = .int .i64 (mskE E a : Nat) ∧ wA = wi)
      case atStart => exact ⟨0, Nat.zero_le _, by omega, rfl, rfl, rfl⟩
      case round =>
        obtain ⟨a, ha, hga, rfl, rfl, rfl⟩ := hrel
        have hm := HML.out a ha
        by_cases hal : a < E.length
        · have cx := HEC.out a hal
          obtain ⟨x0, x31⟩ := HV2.out a hal
          obtain ⟨y, hy⟩ : ∃ y : Nat, E.getD a 0 = (y : Int) := ⟨(E.getD a 0).toNat, by omega⟩
          have hy31 : y ≤ 31 := by omega
          have UM : Hid (mskE E (a + 1) = mskE E a ||| 2 ^ y) := Lib.hid (by rw [mskE, hy]; rfl)
          rw [hy] at cx
          obtain ⟨P, hP⟩ : ∃ P : Nat, P = 2 ^ y := ⟨_, rfl⟩
          have hP2 : P ≤ 2147483648 := by
            have : 2 ^ y ≤ 2 ^ 31 := Nat.pow_le_pow_right (by omega) hy31
            rw [hP]; omega
          have hpp : (2 : Int) ^ y = (P : Int) := by rw [hP]; simp
          rw [← hP] at UM
          generalize mskE E a = M at hm UM
          have hor := i64_or62 M P (by omega) (by omega)
          have wp1 : IntKind.i64.wrap (P : Int) = (P : Int) := IntWalk.i64_in _ (by omega)
          clear hP hy x0 x31
          go_wp2_with fail
          go_roundg (gk - 1)
          case measure => omega
          case rel => exact ⟨a + 1, by omega, by omega, by go_num, by rw [UM.out], rfl⟩
        · obtain rfl : a = E.length := by omega
          generalize mskE E E.length = M at hm hmlt HMU
          go_wp2_with (at_builtin; (refine wpList_append_own _ rfl _ _ 24 rfl w1.heap.size 2 i0 (.int .i64 0) 1 8 Tryd.underlying24 hi hz0 hz1 hz2 rfl (by decide) _ _ _ rfl (Grows.alloc HG.out _) ⟨wA.heap.size, 0, none⟩ 1 1 [.int .i64 (M : Int)] rfl rfl one_new (by intro u hu; simp at hu; subst hu; rfl) (by rw [HMLN.out]; unfold maxLen; omega) (by rw [HMLN.out]; omega) (by have := HB.out.size; simp; omega) ?_); intro v' w8 hown hgrow _; (have G8 : Hid (Grows (Value.int .i64) 2 w1.heap.size v' (Ms ++ [(M : Int)]) w8) := Lib.hid (Grows.more rfl hown)); (have B8 : Hid (Below w1.heap.size w1 w8) := Lib.hid ((HB.out.alloc HB.out.size _).grown hgrow (by have := HB.out.size; simp; omega) (fun q hq => (World.ownsRow.lt HG.out q hq).1))); clear hown hgrow)
          go_roundg (gA - 1)
          case measure => omega
          case rel => exact ⟨k + 1, by omega, by omega, by go_num, by rw [HMU.out]; exact G8.out, B8.out⟩
    · obtain rfl : k = Ds.length := by omega
      have hml := msL_len Ds Ds.length
      have HIL : Hid (IL wr u4 (msL Ds Ds.length)) := Lib.hid (by have h := HG.out.si (d := (0 : Int)); exact h.vl)
      obtain ⟨na, nc, rfl⟩ := SI.len (d := (0 : Int)) HG.out.si
      clear hml
      go_wp2_with fail
      go_at_call 25; refine (joinOrD_any _ Ds _ HIL.out HOK.out (HT.out.below (HBW.out _ HB.out))).mono ?_; rintro e w5 ⟨v5, rfl, i5, b5⟩
      have B5 := Lib.hid (HB.out.trans (b5.mono HB.out.size))
      have hlen : (orsD Ds).length = N := by unfold orsD; rw [allF_len, HN.out]
      rcases i5.2 with ⟨hz, -⟩ | ⟨sb, so, sc, rfl, sp, sge, slt, -, scell⟩
      · rw [hz] at hlen; simp at hlen; omega
      have SC : Hid (∀ W, Below w5.heap.size w5 W → ∀ i, i < N → W.cell? ⟨sb, so + i, none⟩ = some (.int .i64 (orD Ds Ds.length i : Nat))) := Lib.hid fun W hb i hi => by
        have hc := scell i (by rw [hlen]; exact hi)
        unfold orsD at hc
        rw [allF_at (by rw [← HN.out]; exact hi)] at hc
        rw [keep_cell hc hb (cell_block hc)]
      rw [hlen]
      have hs5 : w1.heap.size ≤ w5.heap.size := B5.out.size
      clear scell hlen i5 b5 sp sge slt
      go_wp2_with fail
      go_loopg [10, 41] N (fun gk s i wr => ∃ k : Nat, k ≤ N ∧ gk + k = N ∧ i = .int .i64 k ∧ Grows (Value.int .i64) 2 w5.heap.size s (tgT Ds k) wr ∧ Below w5.heap.size w5 wr)
      case atStart => exact ⟨0, Nat.zero_le _, by omega, rfl, Grows.nil _ _ _ _, Below.refl _ _⟩
      case round =>
        obtain ⟨k, hk, hgk, rfl, hG, hB5⟩ := hrel
        have HGK := Lib.hid hG
        have HBK := Lib.hid hB5
        clear hG hB5
        by_cases hlt : k < N
        · have cx := SC.out _ HBK.out k hlt
          have hs := or_lt HOK.out k
          have HTY := Lib.hid (@tgT_yes Ds k)
          have HTN := Lib.hid (@tgT_no Ds k)
          have HTB : Hid (tightB Ds k = (popN 48 (orD Ds Ds.length k) == popN 48 k)) := Lib.hid rfl
          have htl := tgT_few Ds k
          have c1 := popN_leN 48 (orD Ds Ds.length k)
          have c2 := popN_leN 48 k
          have CO : Hid (∀ W, Calls Tryd.prog 38 #[.int .i64 (orD Ds Ds.length k : Nat)] W (fun e w' => e = .returned (.int .i64 (popN 48 (orD Ds Ds.length k))) ∧ W = w')) := Lib.hid fun W => countIn48 _ W (by omega)
          have CK : Hid (∀ W, Calls Tryd.prog 38 #[.int .i64 k] W (fun e w' => e = .returned (.int .i64 (popN 48 k)) ∧ W = w')) := Lib.hid fun W => countIn48 k W (by omega)
          generalize tgT Ds k = T at HTY HTN HGK htl
          generalize popN 48 (orD Ds Ds.length k) = p at HTB c1 CO
          generalize popN 48 k = r at HTB c2 CK
          generalize orD Ds Ds.length k = s at cx hs CO
          by_cases he : p = r
          · have HNX := Lib.hid (HTY.out (by rw [HTB.out]; simpa using he))
            have hce : ((p : Int) == (r : Int)) = true := by simp; omega
            subst he
            clear HTY HTN HTB
            go_wp2_with fail
            go_at_call 38; refine (CO.out _).mono ?_; rintro e w' ⟨rfl, rfl⟩
            go_wp2_with fail
            go_at_call 38; refine (CK.out _).mono ?_; rintro e w' ⟨rfl, rfl⟩
            go_wp2_with (at_builtin; (refine wpList_append_own _ rfl _ _ 24 rfl w5.heap.size 2 i0 (.int .i64 0) 1 8 Tryd.underlying24 hi hz0 hz1 hz2 rfl (by decide) _ _ _ rfl (Grows.alloc HGK.out _) ⟨wr.heap.size, 0, none⟩ 1 1 [.int .i64 (k : Int)] rfl rfl one_new (by intro u hu; simp at hu; subst hu; rfl) (by unfold maxLen; omega) (by omega) (by have := HBK.out.size; simp; omega) ?_); intro v' w8 hown hgrow _; (have G8 : Hid (Grows (Value.int .i64) 2 w5.heap.size v' (T ++ [(k : Int)]) w8) := Lib.hid (Grows.more rfl hown)); (have B8 : Hid (Below w5.heap.size w5 w8) := Lib.hid ((HBK.out.alloc HBK.out.size _).grown hgrow (by have := HBK.out.size; simp; omega) (fun q hq => (World.ownsRow.lt HGK.out q hq).1))); clear hown hgrow)
            go_roundg (gk - 1)
            case measure => omega
            case rel => exact ⟨k + 1, by omega, by omega, by go_num, by rw [HNX.out]; exact G8.out, B8.out⟩
          · have HNX := Lib.hid (HTN.out (by rw [HTB.out]; simpa using he))
            have hce : ((p : Int) == (r : Int)) = false := by simp; omega
            clear he HTY HTN HTB
            go_wp2_with fail
            go_at_call 38; refine (CO.out _).mono ?_; rintro e w' ⟨rfl, rfl⟩
            go_wp2_with fail
            go_at_call 38; refine (CK.out _).mono ?_; rintro e w' ⟨rfl, rfl⟩
            go_wp2_with fail
            go_roundg (gk - 1)
            case measure => omega
            case rel => exact ⟨k + 1, by omega, by omega, by go_num, by rw [HNX.out]; exact HGK.out, HBK.out⟩
        · obtain rfl : k = N := by omega
          have HI := Lib.hid (SI.wide (HGK.out.si (d := (0 : Int))) (lo' := w.heap.size) (Nat.le_trans hs1 hs5) (Nat.le_refl _) (Nat.le_refl _))
          have HBX := Lib.hid (HBW.out _ (B5.out.trans (HBK.out.mono hs5)))
          go_wp2_with fail
          go_ret2
          exact ⟨_, rfl, HI.out, HBX.out⟩
theorem implTightSets_any (v : Value) (Ds : List (List Int)) (w : World) (hv : LV w v Ds) (o : OKL Ds) (ht : TzTab w) :
    Calls Tryd.prog 17 #[v] w (SaysJB (tgL Ds) (domsB Ds) w) := by
  cases q : domsB Ds with
  | true =>
    have e : tgL Ds = tgT Ds (2 ^ Ds.length) := by unfold tgL; rw [if_pos q]
    rw [e]; exact implTg_yes v Ds w hv o q ht
  | false =>
    have e : tgL Ds = [] := by unfold tgL; rw [q]; rfl
    rw [e]
    have HV := Lib.hid hv
    obtain ⟨ao, cap, rfl⟩ := hv.long
    have H := Lib.hid q
    clear q e hv ht
    go_enter Tryd.func17, Tryd.ntmps17
    go_wp2_with fail
    go_at_call 36; refine (implAreDomains_any _ Ds _ HV.out o).mono ?_; rintro e w1 ⟨rfl, b⟩
    rw [H.out]
    have HB := Lib.hid b
    clear b
    go_wp2_with fail
    go_ret2
    exact ⟨_, rfl, SI.nil _ (Nat.le_refl _) _ _, HB.out⟩
end Go.Proofs.YtnakpfbeeekmiaaDoor
