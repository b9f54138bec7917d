/- Shorter tours by turned parts: the program. -/
import Derived.Test.YtknonlbbakbpiaaSwU
import Derived.Test.YtknonlbbakbpiaaSw1
import Derived.Test.YtknonlbbakbpiaaTourJ
import Derived.Deep.RegionHeld3
import Derived.ScopeJumps
import Derived.WalkMore
namespace Go.Proofs.Ytknonlbbakbpiaa
open Go.RowKit Go.ChangeShapes Go.WideShapes
set_option maxRecDepth 100000

theorem wp_scope_backW {P : Program} {a : Act} {w : World} {Q : Exit → Act → World → Prop} {c rest : Code} (l : Nat) (J : Act → World → Prop) (μ : Act → World → Nat) (hf : findLabel c l = some (.seq .skip rest))
    (first : (∀ a w, J a w → rest.wp P (Exit.jump l J Q) a w) → c.wp P (Exit.jump l J Q) a w)
    (pass : ∀ a w, J a w → rest.wp P (Exit.jump l (fun a' w' => J a' w' ∧ μ a' w' < μ a w) Q) a w) : (Code.scope c).wp P Q a w := by
  refine wp_scope_jumps l J μ hf (first fun a w h => Code.wp_mono ?_ (pass a w h)) fun a w h => ?_
  · intro e a' w' he
    cases e with
    | goto l' => exact ⟨he.1, he.2.1⟩
    | _ => exact he
  · refine wp_seq ?_
    go_wp2
    exact pass a w h
/-- What is left to count. -/
def muS (v : Value) : Nat := match v with
  | .int _ c => (20000 - c).toNat
  | _ => 0
set_option maxHeartbeats 16000000 in
theorem shortenT_any (n : Nat) (v pv u : Value) (L T : List Int) (w : World) (hv : IL w v L) (hp : IL w pv (List.replicate n 0)) (hu : IL w u T) (hL : CityOk L n) (hT : TourOk T n) :
    Calls Try.prog 78 #[.agg #[.int .i64 n, v, pv], u, .func (.func 79) #[] #[]] w (SaysSw (swR L n 10001 T 0) w) := by
  have n1 := hL.n1
  have n2 := hL.n2
  have HL := Lib.hid hL
  have hTl := hT.len
  have HTL := Lib.hid hTl
  have HS0 := Lib.hid (swAt_start hL hT)
  generalize swR L n 10001 T 0 = R at HS0
  have HV : Hid (∀ W, Below w.heap.size w W → IL W v L) := Lib.hid fun W b => hv.below b (Nat.le_refl _)
  have HP : Hid (∀ W, Below w.heap.size w W → IL W pv (List.replicate n 0)) := Lib.hid fun W b => hp.below b (Nat.le_refl _)
  have HU : Hid (∀ W, Below w.heap.size w W → IL W u T) := Lib.hid fun W b => hu.below b (Nat.le_refl _)
  obtain ⟨va, vc, rfl⟩ := hv.long
  obtain ⟨pa, pc, hpe⟩ := hp.long
  rw [List.length_replicate] at hpe
  subst hpe
  obtain ⟨ua, uc, rfl⟩ := hu.long
  obtain ⟨W1, hW1⟩ : ∃ W1, W1 = w.alloc (.cells #[.int .i64 n, .slice va L.length vc, .slice pa n pc] 106) := ⟨_, rfl⟩
  have HBW : Hid (Below w.heap.size w W1 ∧ W1.heap.size = w.heap.size + 1) := Lib.hid (by rw [hW1]; exact ⟨below_alloc _ _, by simp⟩)
  have HBX : Hid (Box3 W1 w.heap.size (.int .i64 n) (.slice va L.length vc) (.slice pa n pc)) := Lib.hid (by rw [hW1]; exact Box3.mk' _ _ _ _ _)
  have hw1 : W1.heap.size = w.heap.size + 1 := HBW.out.2
  have HBB : Hid (∀ W, Below W1.heap.size W1 W → Below w.heap.size w W) := Lib.hid fun W b => HBW.out.1.trans (b.mono HBW.out.1.size)
  have HW1 := Lib.hid hW1
  have htl : T.length ≤ 10 := by omega
  have CL := Lib.hid (cloneI_any (.slice ua T.length uc) T W1 (HU.out W1 HBW.out.1) (by omega))
  clear hv hp hu hL hT hTl hW1
  go_enter Try.func78, Try.ntmps78
  go_wp2_with fail
  rw [← HW1.out]
  refine wp_scope_backW 0 (fun a' w' => ∃ (u4 u5 u6 u7 u10 u11 u12 u13 u14 u15 u16 u17 u18 u19 u20 u21 u22 u23 u24 u25 u26 u27 u28 u29 u30 u31 u32 u33 u34 u35 u36 u37 u38 u39 u40 u41 u42 u43 : Value) (s8 : Value) (X : List Int) (cc : Int), a' = { tmps := #[.agg #[.int .i64 n, .slice va L.length vc, .slice pa n pc], .slice ua T.length uc, .func (.func 79) #[] #[], .pointer (some ⟨w.heap.size, 0, none⟩), u4, u5, u6, u7, s8, .int .i64 cc, u10, u11, u12, u13, u14, u15, u16, u17, u18, u19, u20, u21, u22, u23, u24, u25, u26, u27, u28, u29, u30, u31, u32, u33, u34, u35, u36, u37, u38, u39, u40, u41, u42, u43], defers := [] } ∧ II W1.heap.size w'.heap.size w' s8 X ∧ SwAt L n R X cc ∧ Below W1.heap.size W1 w') (fun a' _ => muS (a'.tmps.getD 9 undef)) (by rfl) ?_ ?_
  · intro H
    go_wp2_with fail
    go_at_call 144; refine CL.out.mono ?_; rintro e w2 ⟨s8, rfl, s2, b2⟩
    have S2 := Lib.hid s2
    have B2 := Lib.hid b2
    obtain ⟨sa, sc, rfl⟩ := SI.len s2
    clear s2 b2
    go_wp2_with fail
    refine wp_label ?_
    rename_i hK
    refine hK _ _ (H _ _ ?_)
    exact ⟨_, _, _, _, _, _, _, _, _, _, _, _, _, _, _, _, _, _, _, _, _, _, _, _, _, _, _, _, _, _, _, _, _, _, _, _, _, _, _, T, 0, rfl, S2.out, HS0.out, B2.out⟩
  · clear HS0 CL
    rintro a' w' ⟨u4, u5, u6, u7, u10, u11, u12, u13, u14, u15, u16, u17, u18, u19, u20, u21, u22, u23, u24, u25, u26, u27, u28, u29, u30, u31, u32, u33, u34, u35, u36, u37, u38, u39, u40, u41, u42, u43, s8, X, cc, rfl, hs, hS, hB⟩
    have HS := Lib.hid hS
    have HB := Lib.hid hB
    have hXl : X.length = n := hS.ok.len
    have HXL := Lib.hid hXl
    obtain ⟨cc0, cc1⟩ := hS.cnt
    have HLX := Lib.hid (longT_in HL.out hS.ok n (Nat.le_refl _))
    have hlx0 := HLX.out.1
    have hcc : cc ≤ 20000 := by omega
    have HSI : Hid (∀ W, Below w'.heap.size w' W → IL W s8 X) := Lib.hid fun W b => VL.below (d := (0 : Int)) (SI.vl hs) b (Nat.le_refl _)
    have HSK := Lib.hid hs
    obtain ⟨sa, sc, rfl⟩ := SI.len hs
    have hww : W1.heap.size ≤ w'.heap.size := hB.size
    clear hS hB cc1 hlx0 hs
    rw [hXl] at HSI HSK ⊢
    have hXl10 : X.length ≤ 10 := by omega
    clear hXl
    go_wp2_with fail
    go_loopg [8, 9, 17] n (fun gk s c i wr => ∃ a : Nat, a ≤ n ∧ gk + a = n ∧ s = .slice sa n sc ∧ c = .int .i64 cc ∧ i = .int .i64 a ∧ (∀ x y, x < a → y < n → btr L X n x y = false) ∧ Below w'.heap.size w' wr)
    case atStart => exact ⟨0, Nat.zero_le _, by omega, rfl, rfl, rfl, fun x y hx => absurd hx (Nat.not_lt_zero _), Below.refl _ _⟩
    case round =>
      obtain ⟨a, ha, hga, rfl, rfl, rfl, hno, hB⟩ := hrel
      have HNO := Lib.hid hno
      have HB1 := Lib.hid hB
      have hsz1 := hB.size
      clear hno hB
      obtain ⟨wA, rfl⟩ : ∃ x : World, x = wr := ⟨_, rfl⟩
      obtain ⟨gA, rfl⟩ : ∃ x : Nat, x = gk := ⟨_, rfl⟩
      by_cases hlt : a < n
      · go_wp2_with fail
        go_loopg [8, 9, 22] n (fun gk s c k wr => ∃ b : Nat, b ≤ n ∧ gk + b = n ∧ s = .slice sa n sc ∧ c = .int .i64 cc ∧ k = .int .i64 b ∧ (∀ y, y < b → btr L X n a y = false) ∧ Below wA.heap.size wA wr)
        case atStart => exact ⟨0, Nat.zero_le _, by omega, rfl, rfl, rfl, fun y hy => absurd hy (Nat.not_lt_zero _), Below.refl _ _⟩
        case round =>
          obtain ⟨b, hb2, hgk, rfl, rfl, rfl, hnb, hB⟩ := hrel
          have HNB := Lib.hid hnb
          have HBA := Lib.hid (HB1.out.trans (hB.mono hsz1))
          have HBA2 := Lib.hid hB
          have hszr := HBA.out.size
          clear hnb hB
          by_cases hbl : b < n
          · have ok2 := turnF_ok (i := a) HS.out.ok hbl
            have TU := Lib.hid (turnPart_any (.slice sa n sc) X a b wr (HSI.out _ HBA.out) (by rw [HXL.out]; exact hlt) (by rw [HXL.out]; exact hbl) (by omega))
            have HIA : Hid (∀ W, Below wr.heap.size wr W → Below w.heap.size w W) := Lib.hid fun W hW => HBB.out W (HB.out.trans ((HBA.out.trans (hW.mono hszr)).mono hww))
            have LN := Lib.hid fun W y (hW : Below wr.heap.size wr W) (hy : IL W y (turnF X a b)) => cityLong_any n (.slice va L.length vc) (.slice pa n pc) y L (turnF X a b) W (HV.out _ (HIA.out W hW)) (HP.out _ (HIA.out W hW)) hy HL.out ok2
            have LX := Lib.hid fun W (hW : Below wr.heap.size wr W) => cityLong_any n (.slice va L.length vc) (.slice pa n pc) (.slice sa n sc) L X W (HV.out _ (HIA.out W hW)) (HP.out _ (HIA.out W hW)) (HSI.out _ (HBA.out.trans (hW.mono hszr))) HL.out HS.out.ok
            have HBT : Hid (btr L X n a b = decide (longT L (turnF X a b) n n < longT L X n n)) := Lib.hid rfl
            have HNX := Lib.hid (HS.out.next HL.out hlt hbl)
            have hlen2 : (turnF X a b).length = n := ok2.len
            have HLEN := Lib.hid hlen2
            obtain ⟨l1, hl1⟩ : ∃ l1, longT L (turnF X a b) n n = l1 := ⟨_, rfl⟩
            obtain ⟨l2, hl2⟩ : ∃ l2, longT L X n n = l2 := ⟨_, rfl⟩
            rw [hl1] at LN HBT
            rw [hl2] at LX HBT
            have X6 := Lib.hid (HBX.out.keep (HB.out.trans (HBA.out.mono hww)) (by omega))
            have hxr : w.heap.size < wr.heap.size := by omega
            clear ok2 hl1 hl2 hlen2
            go_wp2_with fail
            go_at_call 79; refine TU.out.mono ?_; rintro e w6 ⟨nx, rfl, s6, b6⟩
            have S6 := Lib.hid s6
            have B6 := Lib.hid b6
            have hs6 := b6.size
            have I6 : Hid (∀ W, Below w6.heap.size w6 W → IL W nx (turnF X a b)) := Lib.hid fun W hW => VL.below (d := (0 : Int)) (SI.vl s6) hW (Nat.le_refl _)
            have X7 := Lib.hid (X6.out.keep b6 hxr)
            have hx7 := X7.out.lt
            obtain ⟨xa, xc, rfl⟩ := SI.len s6
            clear s6 b6
            obtain ⟨c0, c1, c2⟩ := X7.out
            have HXC := Lib.hid (And.intro c0 (And.intro c1 c2))
            by_cases hc : l1 < l2
            · have HX2 := Lib.hid (HNX.out (by rw [HBT.out]; exact decide_eq_true hc) HNO.out HNB.out)
              go_wp2_with fail
              go_region_held3 (fun w' => w'.cell? ⟨w.heap.size, 0, none⟩ = some (.int .i64 n) ∧ w'.cell? ⟨w.heap.size, 1, none⟩ = some (.slice va L.length vc) ∧ w'.cell? ⟨w.heap.size, 2, none⟩ = some (.slice pa n pc)) (first | exact ⟨c0, c1, c2⟩ | exact K8.out | exact K9.out) (first
                | (go_at_call 145; (with_reducible refine (LN.out _ _ (B6.out.trans (Below.mono (by first | exact Below.refl _ _ | exact below_drewN (Below.refl _ _) _ | exact (Below.refl _ _).drew) hs6)) (I6.out _ (by first | exact Below.refl _ _ | exact below_drewN (Below.refl _ _) _ | exact (Below.refl _ _).drew))).mono ?_); rintro e w8 ⟨rfl, b8⟩; have B86 : Hid (Below w6.heap.size w6 w8) := Lib.hid ((below_drewN (Below.refl w6.heap.size w6) 1).trans b8); have B8 : Hid (Below wr.heap.size wr w8) := Lib.hid (B6.out.trans (B86.out.mono hs6)); have K8 : Hid (_ ∧ _ ∧ _) := Lib.hid ⟨keep_cell HXC.out.1 B86.out hx7, keep_cell HXC.out.2.1 B86.out hx7, keep_cell HXC.out.2.2 B86.out hx7⟩; clear b8)
                | (go_at_call 145; (with_reducible refine (LX.out _ (by first | exact B8.out | exact below_drewN B8.out _)).mono ?_); rintro e w9 ⟨rfl, b9⟩; have B96 : Hid (Below w6.heap.size w6 w9) := Lib.hid (B86.out.trans (b9.mono B86.out.size)); have B9 : Hid (Below wr.heap.size wr w9) := Lib.hid (B8.out.trans (b9.mono B8.out.size)); have K9 : Hid (_ ∧ _ ∧ _) := Lib.hid ⟨keep_cell HXC.out.1 B96.out hx7, keep_cell HXC.out.2.1 B96.out hx7, keep_cell HXC.out.2.2 B96.out hx7⟩; clear b9))
              all_goals
                go_wp2_with fail
                refine wp_goto ?_
                refine ⟨rfl, ⟨_, _, _, _, _, _, _, _, _, _, _, _, _, _, _, _, _, _, _, _, _, _, _, _, _, _, _, _, _, _, _, _, _, _, _, _, _, _, _, turnF X a b, cc + 1, rfl, SI.wide (SI.below S6.out B96.out (Nat.le_refl _)) (by omega) B96.out.size (Nat.le_refl _), HX2.out.1, HB.out.trans ((HBA.out.trans (B9.out.mono hszr)).mono hww)⟩, ?_⟩
                show muS (.int .i64 (cc + 1)) < muS (.int .i64 cc)
                unfold muS
                have h1 := HX2.out.1.cnt.2
                have h2 := (longT_in HL.out HX2.out.1.ok n (Nat.le_refl _)).1
                simp only
                omega
            · have HNB2 : Hid (∀ y, y < b + 1 → btr L X n a y = false) := Lib.hid fun y hy => by
                by_cases e : y = b
                · subst e; rw [HBT.out]; exact decide_eq_false hc
                · exact HNB.out y (by omega)
              go_wp2_with fail
              go_region_held3 (fun w' => w'.cell? ⟨w.heap.size, 0, none⟩ = some (.int .i64 n) ∧ w'.cell? ⟨w.heap.size, 1, none⟩ = some (.slice va L.length vc) ∧ w'.cell? ⟨w.heap.size, 2, none⟩ = some (.slice pa n pc)) (first | exact ⟨c0, c1, c2⟩ | exact K8.out | exact K9.out) (first
                | (go_at_call 145; (with_reducible refine (LN.out _ _ (B6.out.trans (Below.mono (by first | exact Below.refl _ _ | exact below_drewN (Below.refl _ _) _ | exact (Below.refl _ _).drew) hs6)) (I6.out _ (by first | exact Below.refl _ _ | exact below_drewN (Below.refl _ _) _ | exact (Below.refl _ _).drew))).mono ?_); rintro e w8 ⟨rfl, b8⟩; have B86 : Hid (Below w6.heap.size w6 w8) := Lib.hid ((below_drewN (Below.refl w6.heap.size w6) 1).trans b8); have B8 : Hid (Below wr.heap.size wr w8) := Lib.hid (B6.out.trans (B86.out.mono hs6)); have K8 : Hid (_ ∧ _ ∧ _) := Lib.hid ⟨keep_cell HXC.out.1 B86.out hx7, keep_cell HXC.out.2.1 B86.out hx7, keep_cell HXC.out.2.2 B86.out hx7⟩; clear b8)
                | (go_at_call 145; (with_reducible refine (LX.out _ (by first | exact B8.out | exact below_drewN B8.out _)).mono ?_); rintro e w9 ⟨rfl, b9⟩; have B96 : Hid (Below w6.heap.size w6 w9) := Lib.hid (B86.out.trans (b9.mono B86.out.size)); have B9 : Hid (Below wr.heap.size wr w9) := Lib.hid (B8.out.trans (b9.mono B8.out.size)); have K9 : Hid (_ ∧ _ ∧ _) := Lib.hid ⟨keep_cell HXC.out.1 B96.out hx7, keep_cell HXC.out.2.1 B96.out hx7, keep_cell HXC.out.2.2 B96.out hx7⟩; clear b9))
              all_goals
                go_wp2_with fail
                go_roundg (gk - 1)
                case measure => omega
                case rel => exact ⟨b + 1, by omega, by omega, rfl, rfl, by go_num, HNB2.out, HBA2.out.trans (B9.out.mono HBA2.out.size)⟩
          · obtain rfl : b = n := by omega
            go_wp2_with fail
            go_roundg (gA - 1)
            case measure => omega
            case rel => exact ⟨a + 1, by omega, by omega, rfl, rfl, by go_num, fun x y hx hy => by
              by_cases e : x = a
              · subst e; exact HNB.out y hy
              · exact HNO.out x y (by omega) hy, HBA.out⟩
      · obtain rfl : a = n := by omega
        have HD := Lib.hid (HS.out.done HL.out HNO.out)
        go_wp2_with fail
        simp only [Exit.jump]
        refine bodyPost_ret (v := .tuple #[.slice sa a sc, .int .i64 cc]) (by simp [results, Try.results78, go_sem]) rfl ?_
        have hd := HD.out
        exact ⟨.slice sa a sc, by rw [← hd], by rw [← hd]; exact SI.wide (SI.below HSK.out HB1.out (Nat.le_refl _)) (by omega) hsz1 (Nat.le_refl _), HBB.out _ (HB.out.trans (HB1.out.mono hww))⟩
end Go.Proofs.Ytknonlbbakbpiaa
