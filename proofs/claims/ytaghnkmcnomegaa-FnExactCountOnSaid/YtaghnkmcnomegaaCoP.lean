/- Different values of some letters: the program's side. -/
import Derived.Test.YtaghnkmcnomegaaCoK
import Derived.Test.YtaghnkmcnomegaaOd0
import Derived.Test.YtaghnkmcnomegaaVa
import Derived.Test.YtaghnkmcnomegaaAny
import Derived.Maps.Own
import Derived.Maps.OwnOps
import Derived.Maps.OwnSet
namespace Go.Proofs.Ytaghnkmcnomegaa
open Go.RowKit Go.ChangeShapes Go.WideShapes Go.Maps

theorem saysIB2 {n m : Int} {b c : Bool} {w w' : World} (h : n = m) (h2 : b = c) (k : Below w.heap.size w w') : SaysIB m c w (.returned (.tuple #[.int .i64 n, .bool b])) w' := ⟨by rw [h, h2], k⟩
def coB (F : Fm) (T : List Int) : Bool := formB F && alB F.letters T
def coI (F : Fm) (T : List Int) : Int := if coB F T then (cntN F.letters.toNat F.cs (rowM F.letters.toNat T) (2 ^ F.letters.toNat) : Nat) else 0
theorem co_no1 {F : Fm} {T : List Int} (h : formB F = false) : coI F T = 0 ∧ coB F T = false := by
  have : coB F T = false := by unfold coB; rw [h]; rfl
  unfold coI
  rw [this]
  exact ⟨rfl, rfl⟩
theorem co_no2 {F : Fm} {T : List Int} (h : alB F.letters T = false) : coI F T = 0 ∧ coB F T = false := by
  have : coB F T = false := by unfold coB; rw [h, Bool.and_false]
  unfold coI
  rw [this]
  exact ⟨rfl, rfl⟩
theorem co_yes {F : Fm} {T : List Int} (h1 : formB F = true) (h2 : alB F.letters T = true) : coI F T = (cntN F.letters.toNat F.cs (rowM F.letters.toNat T) (2 ^ F.letters.toNat) : Nat) ∧ coB F T = true := by
  have : coB F T = true := by unfold coB; rw [h1, h2]; rfl
  unfold coI
  rw [this]
  exact ⟨rfl, rfl⟩
theorem keyI : Keyed Try.prog 2 := int_keyed Try.underlying2
theorem wfI (a : Nat) (h : a < 1048576) : (Lit.int .i64 (a : Int)).wf = true := by
  have h1 : IntKind.i64.min = -9223372036854775808 := by decide
  have h2 : IntKind.i64.max = 9223372036854775807 := by decide
  simp only [Lit.wf, Bool.and_eq_true, decide_eq_true_eq, h1, h2]
  omega
/-- The map of the digits of the first j of a list. -/
structure MapJ (Z : List Int) (M j b : Nat) (w : World) : Prop where
  own : ∃ D : DataW Unit, w.ownsMap Try.prog 2 (plainElem Try.prog 4) b j D ∧ Tidy D ∧ size D = cntJ Z M j ∧ ∀ a : Nat, has D (.int .i64 (a : Int)) = seenJ Z M j a
theorem MapJ.made (Z : List Int) (M : Nat) (w : World) : MapJ Z M 0 w.heap.size (w.alloc (.map #[] 0)) := ⟨.map [], World.ownsMap_made _ _ _ _, tidy_empty, rfl, fun _ => rfl⟩
theorem MapJ.kept {Z : List Int} {M j b : Nat} {w w' : World} (h : MapJ Z M j b w) (hb : Below w.heap.size w w') : MapJ Z M j b w' := by
  obtain ⟨D, h1, h2⟩ := h.own
  exact ⟨D, h1.kept (row := none) ⟨hb.os, hb.tape, hb.output, hb.size, fun i hi _ => hb.block i hi⟩ (by simp), h2⟩
theorem MapJ.up {Z : List Int} {M j b x : Nat} {D : DataW Unit} {w' : World} (hx : (Z.getD j 0).toNat &&& M = x) (ht : Tidy D) (hs : size D = cntJ Z M j) (ha : ∀ a : Nat, has D (.int .i64 (a : Int)) = seenJ Z M j a)
    (hw : w'.ownsMap Try.prog 2 (plainElem Try.prog 4) b (j + 1) (D.put (.int .i64 (x : Int)) (.lit (.bool true)))) : MapJ Z M (j + 1) b w' := by
  have hk : WideAt.IsKeyLit (Lit.int .i64 (x : Int)) := by trivial
  refine ⟨_, hw, ht.put hk _, ?_, fun a => ?_⟩
  · rw [size_put ht, ha x, hs]
    show _ = cntJ Z M j + (if seenJ Z M j ((Z.getD j 0).toNat &&& M) then 0 else 1)
    rw [hx]
    split <;> rfl
  · rw [seenJ_up, hx]
    by_cases e : a = x
    · subst e
      rw [has_put_same ht.isMap hk]
      simp
    · rw [has_put_other (by intro h; injection h with _ h2; exact e (by omega)), ha a]
      have : (x == a) = false := beq_false_of_ne (fun h => e h.symm)
      rw [this, Bool.or_false]
theorem Turned.of_grown {w w' : World} {b : Nat} (h : w.grownBy w' (some b)) : Turned b (b + 1) w w' := ⟨h.os, h.tape, h.output, h.size, fun k hk hl => h.block k hk (by intro e; injection e with e; omega)⟩
set_option maxRecDepth 100000 in
set_option maxHeartbeats 4000000 in
theorem implCountOn_any (v : Value) (F : Fm) (u : Value) (T : List Int) (w : World) (hv : FmV w v F) (hu : IL w u T) (o : OKFm F) (oT : OKI T) :
    Calls Try.prog 28 #[v, u] w (SaysIB (coI F T) (coB F T) w) := by
  have hmm := @run_makeMap Try.prog
  have hv0 := hv
  have hnT := oT.size
  obtain ⟨s1, rfl, g1⟩ := hv
  have HV := Lib.hid (fun wx (hb : Below w.heap.size w wx) => hv0.below hb (Nat.le_refl _))
  have HU := Lib.hid (fun wx (hb : Below w.heap.size w wx) => IL.below hu hb (Nat.le_refl _))
  have hb0 := Lib.hid (fun o => below_alloc w o)
  obtain ⟨ao, cap, rfl⟩ := g1.long
  obtain ⟨au, cu, rfl⟩ := IL.long hu
  clear hv0 g1 hu
  cases h1 : formB F with
  | false =>
    have HN := Lib.hid (co_no1 (T := T) h1)
    have H1 := Lib.hid h1
    clear h1
    go_enter Try.func28, Try.ntmps28
    go_wp2_with fail
    go_at_call 51; refine (implForm_any _ F _ (HV.out _ (hb0.out _)) o).mono ?_; rintro e w1 ⟨rfl, b1⟩
    rw [H1.out]
    have HB := Lib.hid ((hb0.out _).trans (b1.mono (hb0.out _).size))
    clear b1
    go_wp2_with fail
    go_ret2
    exact saysIB2 HN.out.1.symm HN.out.2.symm HB.out
  | true =>
    cases h2 : alB F.letters T with
    | false =>
      have HN := Lib.hid (co_no2 h2)
      have H1 := Lib.hid h1
      have H2 := Lib.hid h2
      clear h1 h2
      go_enter Try.func28, Try.ntmps28
      go_wp2_with fail
      go_at_call 51; refine (implForm_any _ F _ (HV.out _ (hb0.out _)) o).mono ?_; rintro e w1 ⟨rfl, b1⟩
      rw [H1.out]
      have HB := Lib.hid ((hb0.out _).trans (b1.mono (hb0.out _).size))
      obtain ⟨c0, c1⟩ := (Box2.mk' w (.int .i64 F.letters) (.slice ao F.cs.length cap) 34).keep b1 (by simp)
      clear b1
      go_wp2_with fail
      go_at_call 35; refine (areLetters_any F.letters _ T _ (HU.out _ HB.out) hnT).mono ?_; rintro e w2 ⟨rfl, m, rfl⟩
      rw [H2.out]
      go_wp2_with fail
      go_ret2
      exact saysIB2 HN.out.1.symm HN.out.2.symm (below_drewN HB.out _)
    | true =>
      obtain ⟨L, hL⟩ : ∃ L, L = F.letters.toNat := ⟨_, rfl⟩
      have hc0 := co_yes h1 h2
      have hh0 := (formB_ok h1).num
      have AL := alB_ok h2
      rw [← hL] at hc0 hh0
      have hL2 := hh0.L2
      have hL1 := hh0.L1
      have hp2 := hh0.p2
      have hmk := mask_plain L AL _ (Nat.le_refl _)
      have hml := mask_lt AL _ (Nat.le_refl _)
      rw [← hL] at hml
      obtain ⟨N, hN⟩ : ∃ N, N = 2 ^ L := ⟨_, rfl⟩
      rw [← hN] at hc0 hp2 hml
      obtain ⟨M, hM⟩ : ∃ M, M = rowM L T := ⟨_, rfl⟩
      have hM1 : M < 1024 := by rw [hM]; unfold rowM; omega
      have HMP : Hid (plainK F.letters.toNat T T.length = M) := Lib.hid (by rw [← hL, hmk, hM]; rfl)
      rw [← hM] at hc0
      have HN := Lib.hid hc0
      have HH := Lib.hid hh0
      have H1 := Lib.hid h1
      have H2 := Lib.hid h2
      have HAL := Lib.hid AL
      have FO := Lib.hid (formB_ok h1)
      have n1 := FO.out.n1
      have n2 := FO.out.n2
      obtain ⟨Z, hZ⟩ : ∃ Z, Z = modK L F.cs N := ⟨_, rfl⟩
      have hZl : Z.length ≤ 1024 := by rw [hZ]; exact Nat.le_trans (modK_le L F.cs _) hp2
      have HZN : Hid (modK L F.cs (2 ^ L) = Z) := Lib.hid (by rw [← hN, hZ])
      have HZI : Hid (∀ x, x ∈ Z → ∃ m : Nat, m < 1024 ∧ x = (m : Int)) := Lib.hid fun x hx => by
        rw [hZ] at hx
        unfold modK at hx
        rw [List.mem_map] at hx
        obtain ⟨q, hq, rfl⟩ := hx
        rw [List.mem_filter, List.mem_range] at hq
        exact ⟨q, by omega, rfl⟩
      have HCT : Hid (cntJ Z M Z.length = cntN L F.cs M N) := Lib.hid (by rw [hZ]; exact cnt_two L F.cs M N)
      have HCL := Lib.hid (fun j => cntJ_le Z M j)
      clear h1 h2 hc0 hh0 AL hL hmk hml hN hM hZ
      go_enter Try.func28, Try.ntmps28
      go_wp2_with fail
      go_at_call 51; refine (implForm_any _ F _ (HV.out _ (hb0.out _)) o).mono ?_; rintro e w1 ⟨rfl, b1⟩
      rw [H1.out]
      have HB := Lib.hid ((hb0.out _).trans (b1.mono (hb0.out _).size))
      have HBX := Lib.hid ((Box2.mk' w (.int .i64 F.letters) (.slice ao F.cs.length cap) 34).keep b1 (by simp))
      obtain ⟨c0, c1⟩ := HBX.out
      clear b1
      go_wp2_with fail
      go_at_call 35; refine (areLetters_any F.letters _ T _ (HU.out _ HB.out) hnT).mono ?_; rintro e w2 ⟨rfl, m, rfl⟩
      rw [H2.out]
      have HB1 := Lib.hid (below_drewN HB.out m)
      obtain ⟨c0, c1⟩ := HBX.out.keep (below_drewN (Below.refl _ _) m) HBX.out.lt
      go_wp2_with fail
      go_at_call 39; refine (digitsOf_any F.letters _ T _ (HU.out _ HB1.out) hnT n1 n2 (fun i hi => HAL.out.ltr hi)).mono ?_; rintro e w' ⟨rfl, rfl⟩
      rw [HMP.out]
      generalize turnK F.letters.toNat T T.length = TT
      have HBX1 := Lib.hid (HBX.out.keep (below_drewN (Below.refl _ _) m) HBX.out.lt)
      generalize hW1 : w1.drewN m = W1
      rw [hW1] at c0 c1 HB1 HBX1
      clear c0 c1 hW1 HB HBX
      obtain ⟨c0, c1⟩ := (HBX1.out.keep (below_alloc W1 (.map #[] 0)) HBX1.out.lt)
      go_wp2_with fail
      go_at_call 55; refine (modelsOf_any _ F L _ (HV.out _ (HB1.out.alloc HB1.out.size _)) o HH.out).mono ?_; rintro e w3 ⟨v3, rfl, hi3, b3⟩
      rw [HZN.out] at hi3
      have hz3 : W1.heap.size < w3.heap.size := by have := b3.size; simp at this; omega
      have HB3 := Lib.hid ((HB1.out.alloc HB1.out.size (.map #[] 0)).trans (b3.mono (HB1.out.alloc HB1.out.size _).size))
      have HMJ := Lib.hid ((MapJ.made Z M W1).kept b3)
      obtain ⟨az, cz, rfl, hcz⟩ := IL.any (II.il hi3)
      have HBZ : Hid (∀ b off, az = some ⟨b, off, none⟩ → 0 < Z.length → W1.heap.size < b) := Lib.hid fun b off e hp => by
        obtain ⟨-, ⟨e0, -⟩ | ⟨b', off', cap2, e1, -, h3, -⟩⟩ := hi3
        · rw [e0] at hp; simp at hp
        · rw [e] at e1
          simp only [Value.slice.injEq, Option.some.injEq, Addr.mk.injEq, and_true, true_and] at e1
          simp at h3
          omega
      have HCZ := Lib.hid hcz
      have hws : w.heap.size ≤ W1.heap.size := HB1.out.size
      clear hi3 b3 hcz c0 c1
      go_wp2_with fail
      go_loopg [32] Z.length (fun gk i wr => ∃ j : Nat, j ≤ Z.length ∧ gk + j = Z.length ∧ i = .int .i64 j ∧ MapJ Z M j W1.heap.size wr ∧ Turned W1.heap.size (W1.heap.size + 1) w3 wr)
      case atStart => exact ⟨0, Nat.zero_le _, by omega, rfl, HMJ.out, Turned.refl _ _ _⟩
      case round =>
        obtain ⟨j, hj, hgj, rfl, hMJ, hT⟩ := hrel
        have HT := Lib.hid hT
        obtain ⟨D, hD, hD2, hD3, hD4⟩ := hMJ.own
        have HD2 := Lib.hid hD2
        have HD3 := Lib.hid hD3
        have HD4 := Lib.hid hD4
        have HBr := Lib.hid (HB3.out.trans ((hT.below (by omega)).mono (by omega)))
        clear hMJ hD2 hD3 hD4
        by_cases hjt : j < Z.length
        · obtain ⟨b, off, haz, hbl, d0'⟩ := HCZ.out j hjt
          have hbz := HBZ.out b off haz (by omega)
          subst haz
          have d0 : wr.cell? ⟨b, off + j, none⟩ = some (.int .i64 (Z.getD j 0)) := by rw [World.cell?_of_block (w := w3) (a := ⟨b, off + j, none⟩) (hT.block b hbl (by omega))]; exact d0'
          obtain ⟨q, hq, hx⟩ := HZI.out (Z.getD j 0) (by rw [getDI hjt]; exact List.getElem_mem hjt)
          rw [hx] at d0
          have hand := i64_and62 q M (by omega) (by omega)
          obtain ⟨X, hX⟩ : ∃ X, X = q &&& M := ⟨_, rfl⟩
          have hX1 : X < 1024 := by rw [hX]; exact Nat.lt_of_le_of_lt Nat.and_le_right hM1
          rw [← hX] at hand
          have HXX : Hid ((Z.getD j 0).toNat &&& M = X) := Lib.hid (by rw [hx, Int.toNat_natCast, hX])
          clear hT hx hX d0'
          go_wp2_with (at_mapUpdate; refine wpList_mapUpdate_own _ rfl _ _ _ 69 rfl 2 4 keyI Try.underlying69 _ W1.heap.size j _ rfl hD (by unfold maxLen; omega) _ _ _ rfl rfl (keyOf_int_mk Try.underlying2 (wfI X (by omega))) _ [] (plainElem_bool Try.underlying4 true) ?_; intro w4 hown4 hgrow4)
          have HU4 := Lib.hid (MapJ.up HXX.out HD2.out HD3.out HD4.out hown4)
          have HT4 := Lib.hid (HT.out.trans (Turned.of_grown hgrow4))
          clear hown4 hgrow4 hD d0 hand
          go_wp2_with fail
          go_roundg (gk - 1)
          case measure => omega
          case rel => exact ⟨j + 1, by omega, by omega, by go_num, HU4.out, HT4.out⟩
        · obtain rfl : j = Z.length := by omega
          have HSZ : Hid (((size D : Nat) : Int) = coI F T) := Lib.hid (by rw [HD3.out, HCT.out]; exact HN.out.1.symm)
          clear hT
          go_wp2_with (at_len; refine wpList_len_own _ rfl _ 69 rfl 2 4 Try.underlying69 _ W1.heap.size Z.length D rfl hD ?_)
          go_wp2_with fail
          go_ret2
          exact saysIB2 HSZ.out HN.out.2.symm HBr.out
end Go.Proofs.Ytaghnkmcnomegaa
