/- The journal of lines: the model. -/
import Derived.Test.YtdmlhjhhkiajaaaDoorJoI
import Derived.Lib.IndexAny
import Derived.Deep.RegionHeld3
namespace Go.Proofs.YtdmlhjhhkiajaaaDoor
open Go.RowKit Go.ChangeShapes Go.WideShapes

theorem nl_mem (s : ByteArray) : nlB s = s.data.toList.contains 10 := (Lib.contains_iff_indexByte _ _).symm
theorem nl_yes {s : ByteArray} {p : Nat} (hp : p < s.size) (h : (s[p]'hp).toNat = 10) : nlB s = true := by
  rw [nl_mem, List.contains_iff_mem]
  have e : (s[p]'hp) = 10 := UInt8.toNat_inj.1 h
  rw [← e]
  exact List.getElem_mem (l := s.data.toList) (by rw [Array.length_toList]; exact hp)
theorem nl_no {s : ByteArray} (h : ∀ q (hq : q < s.size), (s[q]'hq).toNat ≠ 10) : nlB s = false := by
  rw [nl_mem, Bool.eq_false_iff]
  intro hc
  rw [List.contains_iff_mem] at hc
  obtain ⟨q, hq, e⟩ := List.getElem_of_mem hc
  rw [Array.length_toList] at hq
  have h1 := h q hq
  have h2 : (s[q]'hq) = 10 := e
  rw [h2] at h1
  exact h1 rfl
theorem jTxt_up (L : List ByteArray) : ∀ k, (jTxt L k).length ≤ jLen L k + 19 * k ∧ 3 * k ≤ jLen L k
  | 0 => ⟨Nat.le_refl _, Nat.le_refl _⟩
  | k + 1 => by
    obtain ⟨h1, h2⟩ := jTxt_up L k
    have h3 := (jEnt_len (s := L.getD k (bsOf [])) (jChk_in L (k + 1))).2
    show (jTxt L k ++ _).length ≤ jLen L k + _ + 19 * (k + 1) ∧ 3 * (k + 1) ≤ jLen L k + _
    rw [List.length_append]
    omega
theorem jLen_mono (L : List ByteArray) (k : Nat) : ∀ d, jLen L k ≤ jLen L (k + d)
  | 0 => Nat.le_refl _
  | d + 1 => by
    have h := jLen_mono L k d
    show _ ≤ jLen L (k + d) + _
    omega
set_option maxRecDepth 100000 in
set_option maxHeartbeats 4000000 in
theorem l08Journal_any (v : Value) (L : List ByteArray) (w : World) (hv : TL w v L) (hT : jLen L L.length ≤ 16000) :
    Calls Tryd.prog 72 #[v] w (fun e w' => e = .returned (.string (bsOf (jTxt L L.length))) ∧ Below w.heap.size w w') := by
  rcases hv with ⟨rfl, ao, cap, rfl⟩ | ⟨b, off, cap, rfl, hpos, hbl, hcell⟩
  · go_enter Tryd.func72, Tryd.ntmps72
    go_wp2_with fail
    refine wp_loop_rounds 1 ?_
    rw [rounds_succ]
    go_wp2_with fail
    go_ret
    exact ⟨rfl, Below.refl _ _⟩
  · have HC : Hid (∀ W, Below w.heap.size w W → ∀ i, i < L.length → W.cell? ⟨b, off + i, none⟩ = some (.string (L.getD i (bsOf [])))) := Lib.hid fun W h i hi => by
      rw [h.cell (p := ⟨b, off + i, none⟩) hbl, hcell i hi]
    have HLM := Lib.hid (fun k (h : k ≤ L.length) => (show jLen L k ≤ 16000 from by have h2 := jLen_mono L k (L.length - k); rw [show k + (L.length - k) = L.length by omega] at h2; omega))
    have S0 : Hid ((⟨#[]⟩ : ByteArray) = bsOf (jTxt L 0)) := Lib.hid rfl
    have hn : L.length ≤ 16000 := by have := (jTxt_up L L.length).2; omega
    clear hcell hT
    go_enter Tryd.func72, Tryd.ntmps72
    go_wp2_with fail
    go_loopg [3, 4, 5] L.length (fun gk s c i wr => ∃ k : Nat, k ≤ L.length ∧ gk + k = L.length ∧ i = .int .i64 k ∧ c = .int .i64 (jChk L k) ∧ s = .string (bsOf (jTxt L k)) ∧ Below w.heap.size w wr)
    case atStart => exact ⟨0, Nat.zero_le _, by omega, rfl, rfl, by rw [S0.out], Below.refl _ _⟩
    case round =>
      obtain ⟨k, hk, hgk, rfl, rfl, rfl, hB⟩ := hrel
      clear S0
      have HB := Lib.hid hB
      have HGK := Lib.hid hgk
      clear hgk
      by_cases hlt : k < L.length
      · have c1 := HC.out _ hB k hlt
        have cin := jChk_in L k
        have cin2 := jChk_in L (k + 1)
        have hk1 := HLM.out (k + 1) (by omega)
        have hss : (L.getD k (bsOf [])).size ≤ 16000 := by
          have : jLen L (k + 1) = jLen L k + ((L.getD k (bsOf [])).size + 3) := rfl
          omega
        have hup := jTxt_up L k
        have hk0 := HLM.out k (by omega)
        have hel := (jEnt_len (s := L.getD k (bsOf [])) cin2).2
        have ST : Hid (jChk L (k + 1) = chkTo (jChk L k) (L.getD k (bsOf [])) (L.getD k (bsOf [])).size) := Lib.hid rfl
        have SX : Hid (bsOf (jTxt L k) ++ bsOf (jEnt (jChk L (k + 1)) (L.getD k (bsOf []))) = bsOf (jTxt L (k + 1))) := Lib.hid (by rw [bs_append]; rfl)
        have tl : (bsOf (jTxt L k)).size ≤ 200000 := by rw [bs_size]; omega
        have el : (bsOf (jEnt (jChk L (k + 1)) (L.getD k (bsOf [])))).size ≤ 20000 := by rw [bs_size]; omega
        have EI := entry_is (jChk L (k + 1)) (L.getD k (bsOf []))
        have xl : (bsOf (Lib.itoa (jChk L (k + 1)))).size ≤ 20 := by rw [bs_size]; exact itoa_len (by omega)
        have DEC := Lib.hid (fun W => (show Calls Tryd.prog 60 #[.int .i64 (jChk L (k + 1))] W (fun e w' => e = .returned (.string (bsOf (Lib.itoa (jChk L (k + 1))))) ∧ Below W.heap.size W w') from l01Dec_any (jChk L (k + 1)) W (by omega) (by omega)))
        generalize L.getD k (bsOf []) = s at *
        have CK := Lib.hid (fun w => l01Check_any (jChk L k) s (by unfold maxLen; omega) cin.1 cin.2 w)
        rw [← ST.out] at CK
        generalize hc2 : jChk L (k + 1) = c2 at *
        have HC2 := Lib.hid hc2
        generalize jChk L k = c at *
        generalize bsOf (Lib.itoa c2) = x at *
        have z1 : (⟨#[32]⟩ : ByteArray).size = 1 := rfl
        have z2 : (⟨#[10]⟩ : ByteArray).size = 1 := rfl
        have A1 := run_bs_add2 x ⟨#[32]⟩ (by omega)
        have l1 : (x ++ ⟨#[32]⟩ : ByteArray).size = x.size + 1 := by rw [ByteArray.size_append, z1]
        obtain ⟨y, hy⟩ : ∃ y : ByteArray, y = x ++ ⟨#[32]⟩ := ⟨_, rfl⟩
        rw [← hy] at A1 l1 EI
        have A2 := run_bs_add2 y s (by omega)
        have l2 : (y ++ s : ByteArray).size = y.size + s.size := ByteArray.size_append
        obtain ⟨z, hz⟩ : ∃ z : ByteArray, z = y ++ s := ⟨_, rfl⟩
        rw [← hz] at A2 l2 EI
        have A3 := run_bs_add2 z ⟨#[10]⟩ (by omega)
        rw [EI] at A3
        generalize bsOf (jEnt c2 s) = E at *
        have A4 := run_bs_add2 (bsOf (jTxt L k)) E (by omega)
        rw [SX.out] at A4
        obtain ⟨T, hT⟩ : ∃ T, bsOf (jTxt L k) = T := ⟨_, rfl⟩
        rw [hT] at A4 ⊢
        have hbw : b < wr.heap.size := Nat.lt_of_lt_of_le hbl hB.size
        have HK1 := Lib.hid c1
        clear hB cin cin2 hc2 hy hz z1 z2 l1 l2 EI hT tl el xl hel hup hss hk1 hk0 SX ST
        go_wp2_with fail
        go_at_call 112; refine (CK.out _).mono ?_; rintro e w2 ⟨rfl, rfl⟩
        go_wp2_with fail
        go_region_held3 (fun w' => w'.cell? ⟨b, off + k, none⟩ = some (.string s)) (first | exact c1 | exact S2.out) (first
          | (go_at_call 60; refine (DEC.out _).mono ?_; rintro e w3 ⟨rfl, b3⟩; have bz := (below_drewN (Below.refl wr.heap.size wr) 1).trans b3; have H3 := Lib.hid (HB.out.trans (bz.mono HB.out.size)); have S2 := Lib.hid (keep_cell HK1.out bz hbw); clear b3 bz))
        all_goals
          go_wp2_with fail
          go_roundg (gk - 1)
          case measure => have := HGK.out; omega
          case rel => exact ⟨k + 1, by omega, by have := HGK.out; omega, by go_num, by rw [HC2.out], rfl, by first | exact H3.out | exact below_drewN H3.out _⟩
      · obtain rfl : k = L.length := by omega
        clear hB
        go_wp2_with fail
        go_ret
        exact ⟨rfl, HB.out⟩
set_option maxRecDepth 100000 in
set_option maxHeartbeats 8000000 in
theorem specJournalOf_any (v : Value) (L : List ByteArray) (w : World) (hv : TL w v L) (hn : L.length ≤ 1048576) (hL : ∀ i, i < L.length → (L.getD i (bsOf [])).size ≤ 1048576) :
    Calls Tryd.prog 30 #[v] w (SaysSB (jD L) (jB L) w) := by
  have HL := Lib.hid hL
  have HV := Lib.hid hv
  clear hL
  rcases hv with ⟨rfl, ao, cap, rfl⟩ | ⟨b, off, cap, rfl, hpos, hbl, hcell⟩
  · have LJ := Lib.hid (fun W hv => l08Journal_any (.slice ao 0 cap) [] W hv (by simp [jLen]))
    have e1 : jB [] = true := by decide
    have e2 : jD [] = [] := by decide
    rw [e1, e2]
    clear e1 e2
    go_enter Tryd.func30, Tryd.ntmps30
    go_wp2_with fail
    refine wp_loop_rounds 1 ?_
    rw [rounds_succ]
    go_wp2_with fail
    go_at_call 72; refine (LJ.out _ HV.out).mono ?_; rintro e w3 ⟨rfl, b3⟩
    have B3 := Lib.hid b3
    clear b3
    have z0 : (bsOf (jTxt [] ([] : List ByteArray).length)).size = 0 := rfl
    go_wp2_with fail
    go_ret2
    exact ⟨rfl, B3.out⟩
  · have HC := Lib.hid hcell
    clear hcell
    go_enter Tryd.func30, Tryd.ntmps30
    go_wp2_with fail
    go_loopg [4, 5] L.length (fun gk t i wr => ∃ k : Nat, k ≤ L.length ∧ gk + k = L.length ∧ i = .int .i64 k ∧ t = .int .i64 ((jLen L k : Nat) : Int) ∧ w = wr ∧ (∀ j, j < k → nlB (L.getD j (bsOf [])) = false) ∧ jLen L k ≤ 16000)
    case atStart => exact ⟨0, Nat.zero_le _, by omega, rfl, rfl, rfl, fun j hj => by omega, Nat.zero_le _⟩
    case round =>
      obtain ⟨k, hk, hgk, rfl, rfl, rfl, hall, hlen⟩ := hrel
      have HA := Lib.hid hall
      have HGK := Lib.hid hgk
      clear hall hgk
      obtain ⟨g2, rfl⟩ : ∃ x : Nat, x = gk := ⟨_, rfl⟩
      by_cases hlt : k < L.length
      · have c1 := HC.out k hlt
        have hs := HL.out k hlt
        have SL : Hid (jLen L (k + 1) = jLen L k + ((L.getD k (bsOf [])).size + 3)) := Lib.hid rfl
        have NL := Lib.hid (fun h => jB_nl (L := L) hlt h)
        have LG := Lib.hid (fun (h : 16000 < jLen L (k + 1)) => jB_long (L := L) (k := k + 1) (by omega) (Nat.lt_of_lt_of_le h (jLen_le L (k + 1))))
        generalize hs0 : L.getD k (bsOf []) = s at *
        have HS0 := Lib.hid hs0
        generalize jLen L k = t at *
        have w1 : IntKind.i64.wrap ((s.size : Int) + 3) = (s.size : Int) + 3 := by rw [IntKind.wrap_i64]; omega
        have w2 : IntKind.i64.wrap ((t : Int) + ((s.size : Int) + 3)) = (t : Int) + ((s.size : Int) + 3) := by rw [IntKind.wrap_i64]; omega
        clear hs0
        by_cases hov : t + (s.size + 3) ≤ 16000
        · have d1 : decide ((t : Int) + ((s.size : Int) + 3) > 16000) = false := by simp; omega
          go_wp2_with fail
          go_loopg [6] s.size (fun gk i wr => ∃ p : Nat, p ≤ s.size ∧ gk + p = s.size ∧ i = .int .i64 p ∧ w = wr ∧ ∀ q (hq : q < s.size), q < p → (s[q]'hq).toNat ≠ 10)
          case atStart => exact ⟨0, Nat.zero_le _, by omega, rfl, rfl, fun q _ h => by omega⟩
          case round =>
            obtain ⟨p, hp, hgp, rfl, rfl, hq⟩ := hrel
            have HQ := Lib.hid hq
            have HGP := Lib.hid hgp
            clear hq hgp
            by_cases hps : p < s.size
            · by_cases h10 : (s[p]'hps).toNat = 10
              · have t0 : (((s[p]'hps).toNat : Int) == 10) = true := by rw [beq_iff_eq]; omega
                have E1 := Lib.hid (NL.out (nl_yes hps h10))
                clear h10
                go_wp2_with fail
                go_ret2
                exact ⟨by rw [E1.out, jD_no E1.out]; rfl, Below.refl _ _⟩
              · have t0 : (((s[p]'hps).toNat : Int) == 10) = false := by rw [beq_eq_false_iff_ne]; omega
                have H10 := Lib.hid h10
                clear h10
                go_wp2_with fail
                go_roundg (gk - 1)
                case measure => have := HGP.out; omega
                case rel => exact ⟨p + 1, by omega, by have := HGP.out; omega, by go_num, rfl, fun q hq1 hq2 => by
                  by_cases e : q = p
                  · subst e; exact H10.out
                  · exact HQ.out q hq1 (by omega)⟩
            · obtain rfl : p = s.size := by omega
              have NN := Lib.hid (nl_no (fun q hq => HQ.out q hq hq))
              go_wp2_with fail
              go_roundg (g2 - 1)
              case measure => have := HGK.out; omega
              case rel => exact ⟨k + 1, by omega, by have := HGK.out; omega, by go_num, by (rw [SL.out]; go_num), rfl, fun j hj => by
                by_cases e : j = k
                · subst e; rw [HS0.out]; exact NN.out
                · exact HA.out j (by omega), by rw [SL.out]; exact hov⟩
        · have d1 : decide ((t : Int) + ((s.size : Int) + 3) > 16000) = true := by simp; omega
          have E1 := Lib.hid (LG.out (by rw [SL.out]; omega))
          clear hov
          go_wp2_with fail
          go_ret2
          exact ⟨by rw [E1.out, jD_no E1.out]; rfl, Below.refl _ _⟩
      · obtain rfl : k = L.length := by omega
        have LJ := Lib.hid (l08Journal_any (.slice (some ⟨b, off, none⟩) L.length (L.length + cap)) L w HV.out hlen)
        obtain ⟨T, hT⟩ : ∃ T, bsOf (jTxt L L.length) = T := ⟨_, rfl⟩
        have HT := Lib.hid hT
        rw [hT] at LJ
        have hTs : T.size = (jTxt L L.length).length := by rw [← hT, bs_size]
        by_cases hov : (jTxt L L.length).length ≤ 16000
        · have d1 : decide ((T.size : Int) > 16000) = false := by simp; omega
          have hy := jB_yes HA.out hov
          have E1 := Lib.hid (And.intro hy (jD_yes hy))
          clear hT hTs hov hy hlen
          go_wp2_with fail
          go_at_call 72; refine LJ.out.mono ?_; rintro e w3 ⟨rfl, b3⟩
          have B3 := Lib.hid b3
          clear b3
          go_wp2_with fail
          go_ret2
          exact ⟨by rw [E1.out.1, E1.out.2, ← HT.out]; rfl, B3.out⟩
        · have d1 : decide ((T.size : Int) > 16000) = true := by simp; omega
          have E1 := Lib.hid (jB_long (L := L) (k := L.length) (Nat.le_refl _) (by omega))
          clear hT hTs hov hlen
          go_wp2_with fail
          go_at_call 72; refine LJ.out.mono ?_; rintro e w3 ⟨rfl, b3⟩
          have B3 := Lib.hid b3
          clear b3
          go_wp2_with fail
          go_ret2
          exact ⟨by rw [E1.out, jD_no E1.out]; rfl, B3.out⟩
end Go.Proofs.YtdmlhjhhkiajaaaDoor
