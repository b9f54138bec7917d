/- The journal of lines: the program. -/
import Derived.Test.YtdmlhjhhkiajaaaDoorJoE
import Derived.Test.YtdmlhjhhkiajaaaDoorStL
import Derived.Test.YtdmlhjhhkiajaaaDoorLtS
import Derived.Deep.LoopGhost
namespace Go.Proofs.YtdmlhjhhkiajaaaDoor
open Go.RowKit Go.ChangeShapes Go.WideShapes

set_option maxRecDepth 100000 in
set_option maxHeartbeats 4000000 in
theorem implJournalOf_any (v : Value) (L : List ByteArray) (w : World) (hv : TL w v L) (hn : L.length ≤ 1048576) (hL : ∀ i, i < L.length → (L.getD i (bsOf [])).size ≤ 1048576) (hp : PowTab w) :
    Calls Tryd.prog 32 #[v] w (SaysSB (jD L) (jB L) w) := by
  have HP := Lib.hid hp
  have HL := Lib.hid hL
  clear hp hL
  have BF := Lib.hid (Bld.fresh w)
  have B0 := Lib.hid (below_alloc w (.cells #[.pointer none, .slice none 0 0] 88))
  have BG := Lib.hid (show w.heap.size ≤ (w.alloc (.cells #[.pointer none, .slice none 0 0] 88)).heap.size by simp)
  rcases hv with ⟨rfl, ao, cap, rfl⟩ | ⟨b, off, cap, rfl, hpos, hbl, hcell⟩
  · have ST := Lib.hid (bldString_any w.heap.size w.heap.size [] (w.alloc (.cells #[.pointer none, .slice none 0 0] 88)) BF.out BG.out)
    have e1 : jB [] = true := by decide
    have e2 : jD [] = [] := by decide
    rw [e1, e2]
    clear e1 e2
    go_enter Tryd.func32, Tryd.ntmps32
    go_wp2_with fail
    refine wp_loop_rounds 1 ?_
    rw [rounds_succ]
    go_wp2_with fail
    go_at_call 77; refine ST.out.mono ?_; rintro e w3 ⟨rfl, b3⟩
    have B3 := Lib.hid (B0.out.trans b3)
    clear b3
    go_wp2_with fail
    go_ret2
    exact ⟨rfl, B3.out⟩
  · have HC : Hid (∀ W, Below w.heap.size w W → ∀ i, i < L.length → W.cell? ⟨b, off + i, none⟩ = some (.string (L.getD i (bsOf [])))) := Lib.hid fun W h i hi => by
      rw [h.cell (p := ⟨b, off + i, none⟩) hbl, hcell i hi]
    obtain ⟨G, hG⟩ : ∃ G, G = w.heap.size := ⟨_, rfl⟩
    have HG := Lib.hid hG
    have BF2 : Hid (Bld w.heap.size G (jTxt L 0) (w.alloc (.cells #[.pointer none, .slice none 0 0] 88))) := Lib.hid (by rw [hG]; exact BF.out)
    clear hcell hbl BF hG
    go_enter Tryd.func32, Tryd.ntmps32
    go_wp2_with fail
    rw [← HG.out]
    go_loopg [5, 11] L.length (fun gk c i wr => ∃ k : Nat, k ≤ L.length ∧ gk + k = L.length ∧ i = .int .i64 k ∧ c = .int .i64 (jChk L k) ∧ Bld w.heap.size G (jTxt L k) wr ∧ Below w.heap.size w wr ∧ w.heap.size ≤ wr.heap.size ∧ (∀ j, j < k → nlB (L.getD j (bsOf [])) = false) ∧ (jTxt L k).length ≤ 16000)
    case atStart => exact ⟨0, Nat.zero_le _, by omega, rfl, rfl, BF2.out, B0.out, BG.out, fun j hj => by omega, by simp [jTxt]⟩
    case round =>
      obtain ⟨k, hk, hgk, rfl, rfl, hBd, hB, hsz, hall, hlen⟩ := hrel
      clear BF2 B0 BG
      have HB := Lib.hid hB
      have HBD := Lib.hid hBd
      have HA := Lib.hid hall
      have HGK := Lib.hid hgk
      clear hBd hall hgk
      by_cases hlt : k < L.length
      · have c1 := HC.out _ hB k hlt
        have hs := HL.out k hlt
        have cin := jChk_in L k
        have ST : Hid (jChk L (k + 1) = chkTo (jChk L k) (L.getD k (bsOf [])) (L.getD k (bsOf [])).size) := Lib.hid rfl
        have SX : Hid (jTxt L (k + 1) = jTxt L k ++ jEnt (jChk L (k + 1)) (L.getD k (bsOf []))) := Lib.hid rfl
        have cin2 := jChk_in L (k + 1)
        have hel := jEnt_len (s := L.getD k (bsOf [])) cin2
        have NL := Lib.hid (fun h => jB_nl (L := L) hlt h)
        have LG := Lib.hid (fun h => jB_long (L := L) (k := k + 1) (by omega) h)
        obtain ⟨s, hs0⟩ : ∃ s, s = L.getD k (bsOf []) := ⟨_, rfl⟩
        rw [← hs0] at c1 hs ST SX hel NL
        have HS0 := Lib.hid hs0
        have EN := Lib.hid (fun w hp => entryOf_any (jChk L k) s w hs cin.1 cin.2 hp)
        rw [← ST.out] at EN
        generalize hc2 : jChk L (k + 1) = c2 at *
        have HC2 := Lib.hid hc2
        clear hc2
        generalize jChk L k = c at *
        obtain ⟨E, hE⟩ : ∃ E, jEnt c2 s = E := ⟨_, rfl⟩
        rw [hE] at hel EN SX
        obtain ⟨T, hT⟩ : ∃ T, jTxt L k = T := ⟨_, rfl⟩
        rw [hT] at SX HBD hlen
        have hxl : (jTxt L (k + 1)).length = T.length + E.length := by rw [SX.out, List.length_append]
        have HXL := Lib.hid hxl
        clear hB cin cin2 hs0 hE hT ST hxl
        cases hnl : nlB s with
        | true =>
          have e1 := NL.out hnl
          have E1 := Lib.hid e1
          have CN := Lib.hid (fun w => hnl ▸ contains_nl s w)
          clear hnl e1
          go_wp2_with fail
          go_at_call 73; refine (CN.out _).mono ?_; rintro e w2 ⟨rfl, rfl⟩
          go_wp2_with fail
          go_ret2
          exact ⟨by rw [E1.out, jD_no E1.out]; rfl, HB.out⟩
        | false =>
          have CN := Lib.hid (fun w => hnl ▸ contains_nl s w)
          have HNL := Lib.hid hnl
          clear hnl
          have xs : (bsOf E).size = E.length := bs_size E
          obtain ⟨x, hx⟩ : ∃ x, x = bsOf E := ⟨_, rfl⟩
          have HX := Lib.hid hx
          have EN2 := Lib.hid (fun w hp => (show Calls Tryd.prog 74 #[.int .i64 c, .string s] w (fun e w' => e = .returned (.tuple #[.string x, .int .i64 c2]) ∧ Below w.heap.size w w') from by rw [hx]; exact EN.out w hp))
          rw [← hx] at xs
          have hel2 := hel.2
          have ws : IntKind.i64.wrap ((T.length : Int) + (x.size : Int)) = (T.length : Int) + (x.size : Int) := by rw [IntKind.wrap_i64]; omega
          have KEEP := Lib.hid (fun w3 (h : Below wr.heap.size wr w3) => HBD.out.keep h (Nat.le_refl _))
          by_cases hov : T.length + E.length ≤ 16000
          · have d1 : decide ((T.length : Int) + (x.size : Int) > 16000) = false := by simp; omega
            have HOV := Lib.hid hov
            have XS := Lib.hid xs
            clear hx EN hel hel2 xs hov
            go_wp2_with fail
            go_at_call 73; refine (CN.out _).mono ?_; rintro e w2 ⟨rfl, rfl⟩
            go_wp2_with fail
            go_at_call 74; refine (EN2.out _ (HP.out.below' HB.out)).mono ?_; rintro e w3 ⟨rfl, b3⟩
            have K3 := Lib.hid (KEEP.out _ b3)
            have B3 := Lib.hid (HB.out.trans (b3.mono HB.out.size))
            clear b3
            go_wp2_with fail
            go_at_call 75; refine (bldLen_any w.heap.size G T _ K3.out).mono ?_; rintro e w4 ⟨rfl, rfl⟩
            go_wp2_with fail
            rw [HX.out]
            go_at_call 76; refine (bldWrite_any w.heap.size G T E _ K3.out (by have := HOV.out; omega) B3.out.size).mono ?_; rintro e w5 ⟨n5, rfl, k5, b5⟩
            have K5 := Lib.hid k5
            have B5 := Lib.hid (B3.out.trans b5)
            clear k5 b5
            go_wp2_with fail
            go_roundg (gk - 1)
            case measure => have := HGK.out; omega
            case rel => exact ⟨k + 1, by omega, by have := HGK.out; omega, by go_num, by rw [HC2.out], by rw [SX.out]; exact K5.out, B5.out, B5.out.size, fun j hj => by
              by_cases e : j = k
              · subst e; rw [← HS0.out]; exact HNL.out
              · exact HA.out j (by omega), by rw [HXL.out]; exact HOV.out⟩
          · have d1 : decide ((T.length : Int) + (x.size : Int) > 16000) = true := by simp; omega
            have e1 := LG.out (by rw [HXL.out]; omega)
            have E1 := Lib.hid e1
            clear hx EN hel hel2 xs hov e1
            go_wp2_with fail
            go_at_call 73; refine (CN.out _).mono ?_; rintro e w2 ⟨rfl, rfl⟩
            go_wp2_with fail
            go_at_call 74; refine (EN2.out _ (HP.out.below' HB.out)).mono ?_; rintro e w3 ⟨rfl, b3⟩
            have K3 := Lib.hid (KEEP.out _ b3)
            have B3 := Lib.hid (HB.out.trans (b3.mono HB.out.size))
            clear b3
            go_wp2_with fail
            go_at_call 75; refine (bldLen_any w.heap.size G T _ K3.out).mono ?_; rintro e w4 ⟨rfl, rfl⟩
            go_wp2_with fail
            go_ret2
            exact ⟨by rw [E1.out, jD_no E1.out]; rfl, B3.out⟩
      · obtain rfl : k = L.length := by omega
        have hy := jB_yes HA.out hlen
        have E1 := Lib.hid (And.intro hy (jD_yes hy))
        have ST := Lib.hid (bldString_any w.heap.size G (jTxt L L.length) wr HBD.out HB.out.size)
        clear hy hB
        go_wp2_with fail
        go_at_call 77; refine ST.out.mono ?_; rintro e w3 ⟨rfl, b3⟩
        have B3 := Lib.hid (HB.out.trans b3)
        clear b3
        go_wp2_with fail
        go_ret2
        exact ⟨by rw [E1.out.1, E1.out.2]; rfl, B3.out⟩
end Go.Proofs.YtdmlhjhhkiajaaaDoor
