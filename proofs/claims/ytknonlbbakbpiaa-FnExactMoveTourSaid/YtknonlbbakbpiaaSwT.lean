/- Shorter tours by turned parts: the model, whole. -/
import Derived.Test.YtknonlbbakbpiaaSwS
import Derived.Deep.LoopGhost
namespace Go.Proofs.Ytknonlbbakbpiaa
open Go.RowKit Go.ChangeShapes Go.WideShapes
set_option maxRecDepth 100000

/-- A tour, and how often it was made shorter. -/
def SaysSw (R : List Int × Int) (w : World) (e : Ending) (w' : World) : Prop := ∃ x, e = .returned (.tuple #[x, .int .i64 R.2]) ∧ II w.heap.size w'.heap.size w' x R.1 ∧ Below w.heap.size w w'
theorem swAt_start {L T : List Int} {n : Nat} (hL : CityOk L n) (hT : TourOk T n) : SwAt L n (swR L n 10001 T 0) T 0 := by
  have h := longT_in hL hT n (Nat.le_refl _)
  have := hL.n2
  exact ⟨hT, ⟨10001, rfl, by omega⟩, by omega, by omega⟩
set_option maxHeartbeats 8000000 in
theorem l04Swap_any (v u : Value) (L T : List Int) (n : Nat) (w : World) (hv : IL w v L) (hu : IL w u T) (hL : CityOk L n) (hT : TourOk T n) :
    Calls Try.prog 76 #[v, u] w (SaysSw (swR L n 10001 T 0) w) := by
  obtain ⟨i0, hi, hz0, hz1, hz2⟩ := info_parts Try.infoI
  have n1 := hL.n1
  have n2 := hL.n2
  have HL := Lib.hid hL
  have hTl := hT.len
  have HTL := Lib.hid hTl
  have HS0 := Lib.hid (swAt_start hL hT)
  generalize swR L n 10001 T 0 = R at HS0
  have HV : Hid (∀ W, Below w.heap.size w W → IL W v L) := Lib.hid fun W b => hv.below b (Nat.le_refl _)
  obtain ⟨va, vc, rfl⟩ := hv.long
  rcases hu.lies with ⟨rfl, cap, rfl⟩ | ⟨ad, ucap, rfl, hl2⟩
  · simp at hTl; omega
  have HLI := Lib.hid hl2
  clear hl2 hv hu hL hT hTl
  have htl : T.length ≤ 10 := by have := HTL.out; omega
  go_enter Try.func76, Try.ntmps76
  go_wp2_with (at_builtin; refine wpList_append_own _ rfl _ _ 35 rfl w.heap.size 2 i0 (.int .i64 0) 1 8 Try.underlying35 hi hz0 hz1 hz2 rfl (by decide) _ _ _ rfl (Grows.empty (Value.int .i64) _ _ w (Nat.le_refl _)) ad T.length ucap (T.map (Value.int .i64)) rfl (by simp) ?c1 ?c2 ?c3 ?c4 ?c5 ?_)
  case c1 => exact HLI.out _
  case c2 => exact map_oneI T
  case c3 => simp; unfold maxLen; omega
  case c4 => simp; omega
  case c5 => simp
  intro v' w2 hown hgrow _
  have HN : Hid (Grows (Value.int .i64) 2 w.heap.size v' T w2) := Lib.hid (by have h := hown; show World.ownsRow _ _ _ _ _ _ _; simpa using h)
  have B2 := Lib.hid ((below_alloc w _).grown hgrow (by simp) (fun k hk => by simp [Value.ownBlock] at hk; omega))
  clear hown hgrow
  go_wp2_with fail
  go_loopg [6, 7, 8] ((longT L T n n).toNat * 11 + n) (fun gk s c i wr => ∃ (X : List Int) (cc : Int) (a : Nat), a ≤ n ∧ gk = (longT L X n n).toNat * 11 + (n - a) ∧ II w.heap.size wr.heap.size wr s X ∧ c = .int .i64 cc ∧ i = .int .i64 a ∧ SwAt L n R X cc ∧ (∀ x y, x < a → y < n → btr L X n x y = false) ∧ Below w.heap.size w wr)
  case atStart => exact ⟨T, 0, 0, Nat.zero_le _, by omega, Grows.si HN.out, rfl, rfl, HS0.out, fun x y hx => absurd hx (Nat.not_lt_zero _), B2.out⟩
  case round =>
    clear HS0 HN B2
    obtain ⟨X, cc, a, ha, hgk, hs, rfl, rfl, hS, hno, hB⟩ := hrel
    have HGK := Lib.hid hgk
    have HS := Lib.hid hS
    have HNO := Lib.hid hno
    have HB := Lib.hid hB
    have hXl : X.length = n := hS.ok.len
    have HXL := Lib.hid hXl
    obtain ⟨cc0, cc1⟩ := hS.cnt
    have HLX := Lib.hid (longT_in HL.out hS.ok n (Nat.le_refl _))
    have hlx0 := HLX.out.1
    have hcc : cc ≤ 20000 := by omega
    have HSI : Hid (∀ W, Below wr.heap.size wr W → IL W u6 X) := Lib.hid fun W b => VL.below (d := (0 : Int)) (SI.vl hs) b (Nat.le_refl _)
    have HSK := Lib.hid hs
    obtain ⟨sa, sc, rfl⟩ := SI.len hs
    clear hgk hS hno hB cc1 hlx0 hs
    obtain ⟨wA, rfl⟩ : ∃ x : World, x = wr := ⟨_, rfl⟩
    obtain ⟨gA, rfl⟩ : ∃ x : Nat, x = gk := ⟨_, rfl⟩
    rw [hXl] at HSI HSK ⊢
    have hww : w.heap.size ≤ wA.heap.size := HB.out.size
    by_cases hlt : a < n
    · clear hXl
      go_wp2_with fail
      go_loopg [6, 7, 8, 9] (n - (a + 1)) (fun gk s c i k wr => ∃ b : Nat, a + 1 ≤ b ∧ b ≤ n ∧ gk + b = n ∧ s = .slice sa n sc ∧ c = .int .i64 cc ∧ i = .int .i64 a ∧ k = .int .i64 b ∧ (∀ y, y < b → btr L X n a y = false) ∧ Below wA.heap.size wA wr)
      case atStart => exact ⟨a + 1, Nat.le_refl _, by omega, by omega, rfl, rfl, rfl, by go_num, fun y hy => btr_id (by omega), Below.refl _ _⟩
      case round =>
        obtain ⟨b, hb1, hb2, hgk, rfl, rfl, rfl, rfl, hnb, hB⟩ := hrel
        have HNB := Lib.hid hnb
        have HBA := Lib.hid hB
        have hszr := hB.size
        clear hnb hB
        by_cases hbl : b < n
        · have ok2 := turnF_ok (i := a) HS.out.ok hbl
          have HLN := Lib.hid (longT_in HL.out ok2 n (Nat.le_refl _))
          have TU := Lib.hid (l04Turned_any (.slice sa n sc) X a b wr (HSI.out _ HBA.out) (by omega) (by rw [HXL.out]; exact hbl) (by rw [HXL.out]; omega))
          have LN := Lib.hid fun W y (hW : Below wr.heap.size wr W) (hy : IL W y (turnF X a b)) => l04Long_any (.slice va L.length vc) y L (turnF X a b) n W (HV.out _ (HB.out.trans ((HBA.out.trans (hW.mono hszr)).mono hww))) hy HL.out ok2
          have LX := Lib.hid fun W (hW : Below wr.heap.size wr W) => l04Long_any (.slice va L.length vc) (.slice sa n sc) L X n W (HV.out _ (HB.out.trans ((HBA.out.trans (hW.mono hszr)).mono hww))) (HSI.out _ (HBA.out.trans (hW.mono hszr))) HL.out HS.out.ok
          have HBT : Hid (btr L X n a b = decide (longT L (turnF X a b) n n < longT L X n n)) := Lib.hid rfl
          have HNX := Lib.hid (HS.out.next HL.out hlt hbl)
          obtain ⟨l1, hl1⟩ : ∃ l1, longT L (turnF X a b) n n = l1 := ⟨_, rfl⟩
          obtain ⟨l2, hl2⟩ : ∃ l2, longT L X n n = l2 := ⟨_, rfl⟩
          have H1 := Lib.hid hl1
          have H2 := Lib.hid hl2
          rw [hl1] at LN HBT HLN
          rw [hl2] at LX HBT
          obtain ⟨y1, y2⟩ := HLN.out
          have z12 := HLX.out
          rw [hl2] at z12
          obtain ⟨z1, z2⟩ := z12
          clear ok2 hl1 hl2
          go_wp2_with fail
          go_at_call 141; refine TU.out.mono ?_; rintro e w6 ⟨nx, rfl, s6, b6⟩
          have S6 := Lib.hid s6
          have B6 := Lib.hid b6
          have hs6 := b6.size
          have I6 := Lib.hid (SI.vl s6)
          obtain ⟨xa, xc, rfl⟩ := SI.len s6
          clear s6 b6
          go_wp2_with fail
          go_at_call 81; refine (LN.out _ _ B6.out I6.out).mono ?_; rintro e w7 ⟨rfl, m7, rfl⟩
          go_wp2_with fail
          go_at_call 81; refine (LX.out _ (below_drewN B6.out _)).mono ?_; rintro e w8 ⟨rfl, m8, rfl⟩
          by_cases hc : l1 < l2
          · have HX2 := Lib.hid (HNX.out (by rw [HBT.out]; exact decide_eq_true hc) HNO.out HNB.out)
            go_wp2_with fail
            go_roundg ((longT L (turnF X a b) n n).toNat * 11 + n)
            case measure =>
              have h1 := H1.out
              have h2 := H2.out
              have h3 := HGK.out
              omega
            case rel =>
              have hsz : (turnF X a b).length = n := HX2.out.1.ok.len
              exact ⟨turnF X a b, cc + 1, 0, Nat.zero_le _, by omega, SI.wide S6.out (by omega) (Nat.le_refl _) (Nat.le_refl _), rfl, rfl, HX2.out.1, fun x y hx => absurd hx (Nat.not_lt_zero _), HB.out.trans ((HBA.out.trans ((below_drewN B6.out _).mono hszr)).mono hww)⟩
          · have HNB2 : Hid (∀ y, y < b + 1 → btr L X n a y = false) := Lib.hid fun y hy => by
              by_cases e : y = b
              · subst e; rw [HBT.out]; exact decide_eq_false hc
              · exact HNB.out y (by omega)
            go_wp2_with fail
            go_roundg (gk - 1)
            case measure => omega
            case rel => exact ⟨b + 1, by omega, by omega, by omega, rfl, rfl, rfl, by go_num, HNB2.out, HBA.out.trans ((below_drewN B6.out _).mono hszr)⟩
        · obtain rfl : b = n := by omega
          go_wp2_with fail
          go_roundg (gA - 1)
          case measure => have := HGK.out; omega
          case rel => exact ⟨X, cc, a + 1, by omega, by have := HGK.out; omega, SI.wide (SI.below HSK.out HBA.out (Nat.le_refl _)) (Nat.le_refl _) hszr (Nat.le_refl _), rfl, by go_num, HS.out, fun x y hx hy => by
            by_cases e : x = a
            · subst e; exact HNB.out y hy
            · exact HNO.out x y (by omega) hy, HB.out.trans (HBA.out.mono hww)⟩
    · obtain rfl : a = n := by omega
      have HD := Lib.hid (HS.out.done HL.out HNO.out)
      clear hXl
      go_wp2_with fail
      go_ret2
      have hd := HD.out
      exact ⟨.slice sa a sc, by rw [← hd]; rfl, by rw [← hd]; exact HSK.out, HB.out⟩
end Go.Proofs.Ytknonlbbakbpiaa
