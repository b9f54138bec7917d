/- Covers one by one: the model's side. -/
import Derived.Test.YtolbkepbcoipcaaSets
import Derived.Test.YtolbkepbcoipcaaOnes
import Derived.Test.YtolbkepbcoipcaaBitI
import Derived.Test.YtolbkepbcoipcaaOwn
import Derived.Deep.LoopGhost
import Derived.Deep.QuietTactic
import Derived.BigQuiet
import Derived.WalkSpells
namespace Go.Proofs.Ytolbkepbcoipcaa
open Go.RowKit Go.ChangeShapes Go.WideShapes

theorem part_lt {l n : Nat} (h : Part l (allS n)) (hn : n ≤ 16) : l < 65536 := by
  have h1 : l &&& allS n ≤ allS n := Nat.and_le_right
  rw [h] at h1
  have := allS_lt hn
  omega
theorem part_le {l a : Nat} (h : Part l a) : l ≤ a := by
  have h1 : l &&& a ≤ a := Nat.and_le_right
  rw [h] at h1
  exact h1
/-- What holds at each round: what is left, what is taken, and the fuel. -/
structure GcAt (L : List Int) (A : Nat) (w : World) (gk l : Nat) (v : Value) (Zs : List Int) (wr : World) : Prop where
  below : Below w.heap.size w wr
  grows : Grows (Value.int .i64) 2 w.heap.size v Zs wr
  part : Part l A
  fuel : l ≤ gk
  len : Zs.length + gk ≤ 65535
  run : (grd L gk l).map (Zs ++ ·) = grd L A A
theorem grd_start (L : List Int) (A : Nat) : (grd L A A).map (([] : List Int) ++ ·) = grd L A A := by
  cases grd L A A <;> rfl
theorem GcAt.next {L : List Int} {A : Nat} {w wr w' : World} {gk l : Nat} {v : Value} {Zs : List Int} (h : GcAt L A w gk l v Zs wr) (b : Below wr.heap.size wr w') : GcAt L A w gk l v Zs w' :=
  ⟨h.below.trans (b.mono h.below.size), (show Grows (Value.int .i64) 2 w.heap.size v Zs w' from by
    obtain ⟨h1, h2⟩ := h.grows
    refine ⟨h1, ?_⟩
    rcases h2 with h2 | ⟨g, cap, cur, e, hB, hg, hr⟩
    · exact Or.inl h2
    · refine Or.inr ⟨g, cap, cur, e, hB, (b.block g ?_).trans hg, hr⟩
      exact (Array.getElem?_eq_some_iff.1 hg).1), h.part, h.fuel, h.len, h.run⟩
theorem GcAt.done {L : List Int} {A : Nat} {w wr : World} {gk : Nat} {v : Value} {Zs : List Int} (h : GcAt L A w gk 0 v Zs wr) : grd L A A = some Zs := by
  rw [← h.run, grd_done]; simp
theorem GcAt.none {L : List Int} {A : Nat} {w wr : World} {gk l : Nat} {v : Value} {Zs : List Int} (h : GcAt L A w gk l v Zs wr) (h0 : l ≠ 0) (hz : setN L (bestS L l (L.length - 1)) &&& l = 0) : grd L A A = none := by
  obtain ⟨g, rfl⟩ : ∃ g, gk = g + 1 := ⟨gk - 1, by have := h.fuel; omega⟩
  rw [← h.run, grd_no h0 hz]; rfl
theorem GcAt.push {L : List Int} {A : Nat} {w wr w' : World} {gk l : Nat} {v v' : Value} {Zs : List Int} {o : Obj} (h : GcAt L A w gk l v Zs wr) (h0 : l ≠ 0) (hz : ¬ setN L (bestS L l (L.length - 1)) &&& l = 0)
    (hown : w'.ownsRow w.heap.size 2 1 v' (Zs.length + 1) (Zs.map (Value.int .i64) ++ [.int .i64 ((bestS L l (L.length - 1) : Nat) : Int)])) (hg : (wr.alloc o).grownBy w' v.ownBlock) :
    GcAt L A w (gk - 1) (l ^^^ (l &&& setN L (bestS L l (L.length - 1)))) v' (Zs ++ [((bestS L l (L.length - 1) : Nat) : Int)]) w' := by
  obtain ⟨g, rfl⟩ : ∃ g, gk = g + 1 := ⟨gk - 1, by have := h.fuel; omega⟩
  have hlt := left_lt hz
  refine ⟨(h.below.alloc h.below.size _).grown hg (by have := h.below.size; simp; omega) (fun k hk => h.grows.block k hk), Grows.more (news := [((bestS L l (L.length - 1) : Nat) : Int)]) rfl hown, left_part h.part, by have := h.fuel; omega, by have := h.len; simp; omega, ?_⟩
  rw [← h.run, grd_yes h0 hz, Nat.add_sub_cancel]
  cases grd L g (l ^^^ (l &&& setN L (bestS L l (L.length - 1)))) <;> simp
theorem bestS_up {L : List Int} {l k : Nat} (h : pop (setN L (bestS L l k) &&& l) < pop (setN L (k + 1) &&& l)) : bestS L l (k + 1) = k + 1 := by rw [bestS, if_pos h]
theorem bestS_no {L : List Int} {l k : Nat} (h : ¬ pop (setN L (bestS L l k) &&& l) < pop (setN L (k + 1) &&& l)) : bestS L l (k + 1) = bestS L l k := by rw [bestS, if_neg h]
set_option maxRecDepth 100000 in
set_option maxHeartbeats 8000000 in
theorem specGc_yes (n : Nat) (v : Value) (L : List Int) (w : World) (hv : IL w v L) (hn : L.length ≤ 1048576) (h1 : setsB (n : Int) L = true) (OK : SetsOk n L) :
    Calls Try.prog 28 #[.int .i64 n, v] w (SaysJB (covL n L) (covB n L) w) := by
  obtain ⟨i0, hi, hz0, hz1, hz2⟩ := info_parts Try.infoI
  have H1 := Lib.hid h1
  have HV := Lib.hid hv
  have OKH := Lib.hid OK
  have n1 := OK.n1
  have n2 := OK.n2
  have l1 := OK.l1
  have l2 := OK.l2
  have HO : Hid (grdO n L = grd L (allS n) (allS n)) := Lib.hid (by unfold grdO; rw [if_pos h1]; simp)
  rcases hv with ⟨rfl, ao, cap, rfl⟩ | ⟨b, off, cap, rfl, hpos, hbl, hcell⟩
  · simp at l1
  have HC : Hid (∀ wx, Below w.heap.size w wx → ∀ i, i < L.length → wx.cell? ⟨b, off + i, none⟩ = some (.int .i64 (setN L i : Int))) := Lib.hid fun wx hb i hi => by
    rw [hb.cell (p := ⟨b, off + i, none⟩) hbl, ← (OKH.out.s i hi).1]; exact hcell i hi
  obtain ⟨A, hA⟩ : ∃ A, A = allS n := ⟨_, rfl⟩
  have HA := Lib.hid hA
  have a1 : A < 65536 := by rw [hA]; exact allS_lt n2
  have hp : IntKind.i64.wrap ((2 : Int) ^ n - 1) = (A : Int) := by
    have h2 : ((2 ^ n : Nat) : Int) = (2 : Int) ^ n := by simp
    have h3 : 0 < 2 ^ n := Nat.pow_pos (by omega)
    have h4 : (2 : Int) ^ n - 1 = (A : Int) := by rw [hA]; unfold allS; omega
    rw [h4]; exact IntWalk.i64_in _ (by omega)
  obtain ⟨p1, p2⟩ := pow_in (n := (n : Int)) (by omega)
  rw [Int.toNat_natCast] at p1 p2
  have hp2 : (2 : Int) ^ n - 1 = (A : Int) := by
    have h3 : 0 < 2 ^ n := Nat.pow_pos (by omega)
    have h2 : ((2 ^ n : Nat) : Int) = (2 : Int) ^ n := by simp
    rw [hA]; unfold allS; omega
  clear h1 hcell OK hA
  go_enter Try.func28, Try.ntmps28
  go_wp2_with fail
  go_at_call 37; refine (l04Sets_is true n _ L _ HV.out hn H1.out).mono ?_; rintro e w' ⟨rfl, m, rfl⟩
  go_wp2_with fail
  clear hp hp2 p1 p2
  go_loopg [6, 7] A (fun gk s6 v wr => ∃ (l : Nat) (Zs : List Int), s6 = .int .i64 l ∧ GcAt L A w gk l v Zs wr)
  case atStart => exact ⟨A, [], rfl, ⟨(below_drewN (Below.refl w.heap.size w) m).alloc (by simp) _, Grows.empty _ _ _ (w.drewN m) (Nat.le_refl _), by rw [HA.out]; exact part_all (by unfold allS; have : 0 < 2 ^ n := Nat.pow_pos (by omega); omega), Nat.le_refl _, by simp; omega, grd_start L A⟩⟩
  case round =>
    obtain ⟨l, Zs, rfl, hat⟩ := hrel
    have HT := Lib.hid hat
    have l64 : l < 65536 := part_lt (by rw [← HA.out]; exact hat.part) n2
    clear hat
    by_cases h0 : l = 0
    · subst h0
      have HD := Lib.hid HT.out.done
      have HG := Lib.hid (HT.out.grows.si (d := 0))
      go_wp2_with fail
      refine bodyPost_ret (results_tmp2 rfl _ _ _) rfl ?_
      have e : grdO n L = some Zs := by rw [HO.out, ← HA.out]; exact HD.out
      have e2 : covL n L = Zs := by unfold covL; rw [e]; rfl
      have e3 : covB n L = true := by unfold covB; rw [e]; rfl
      rw [e2, e3]
      exact ⟨_, rfl, HG.out, HT.out.below⟩
    · have hl0 : decide (0 < l) = true := by simp; omega
      have hl1 : decide ((0 : Int) < (l : Int)) = true := by simp; omega
      have H0 := Lib.hid h0
      clear h0
      go_wp2_with fail
      obtain ⟨wo, rfl⟩ : ∃ x : World, x = wr := ⟨_, rfl⟩
      obtain ⟨g2, rfl⟩ : ∃ x : Nat, x = gk := ⟨_, rfl⟩
      go_loopg [8, 9] L.length (fun gk s8 s9 wr => ∃ k : Nat, k < L.length ∧ gk + k = L.length ∧ s8 = .int .i64 (bestS L l k : Nat) ∧ s9 = .int .i64 ((k : Int) + 1) ∧ ∃ m, wr = wo.drewN m)
      case atStart => exact ⟨0, l1, by omega, rfl, rfl, 0, rfl⟩
      case round =>
        obtain ⟨k, hk, hgk, rfl, rfl, hwr⟩ := hrel
        have hbk := bestS_le L l k
        have HBW : Hid (Below w.heap.size w wr) := Lib.hid (by obtain ⟨m, rfl⟩ := hwr; exact below_drewN HT.out.below m)
        have HW := Lib.hid (drew_more hwr)
        have HW0 := Lib.hid hwr
        have y1 := HC.out wr HBW.out (bestS L l k) (by omega)
        have s1 := set_lt OKH.out (i := bestS L l k) (by omega)
        clear hwr
        by_cases hlt : k + 1 < L.length
        · have x1 := HC.out wr HBW.out (k + 1) hlt
          have s2 := set_lt OKH.out (i := k + 1) hlt
          have e1 := i64_and (setN L (k + 1)) l s2 l64
          have e2 := i64_and (setN L (bestS L l k)) l s1 l64
          have t1 := and_lt (y := l) s2
          have t2 := and_lt (y := l) s1
          have HUP := Lib.hid (bestS_up (L := L) (l := l) (k := k))
          have HNO := Lib.hid (bestS_no (L := L) (l := l) (k := k))
          generalize setN L (k + 1) &&& l = p at e1 t1 HUP HNO
          generalize setN L (bestS L l k) &&& l = q at e2 t2 HUP HNO
          generalize setN L (k + 1) = z at x1 e1
          generalize setN L (bestS L l k) = y at y1 e2
          obtain ⟨bb, hbb⟩ : ∃ bb, bb = bestS L l k := ⟨_, rfl⟩
          rw [← hbb] at y1 hbk HNO ⊢
          have lk : (k : Int) + 1 < (L.length : Int) := by omega
          have wk : IntKind.i64.wrap ((k : Int) + 1) = (k : Int) + 1 := IntWalk.i64_in _ (by omega)
          have wk2 : (0 : Int) ≤ (k : Int) + 1 := by omega
          have wk3 : ((k : Int) + 1).toNat = k + 1 := by omega
          have lb : (bb : Int) < (L.length : Int) := by omega
          clear hbb s1 s2
          by_cases hgt : pop q < pop p
          · have HN := Lib.hid (HUP.out hgt)
            have d1 : decide (pop q < pop p) = true := decide_eq_true hgt
            have d2 : decide ((pop q : Int) < (pop p : Int)) = true := by simp; omega
            clear hgt
            go_wp2_with fail
            go_quiet ((go_at_call 52; exact Calls.quiet_of_same (l04Ones_same _ _ (by omega))))
            clear wk wk2 wk3 e1 e2
            go_wp2_with fail
            go_roundg (gk - 1)
            case measure => omega
            case rel => exact ⟨k + 1, hlt, by omega, by rw [HN.out]; rfl, by go_num, HW.out _⟩
          · have HN := Lib.hid (HNO.out hgt)
            have d1 : decide (pop q < pop p) = false := decide_eq_false hgt
            have d2 : decide ((pop q : Int) < (pop p : Int)) = false := by simp; omega
            clear hgt
            go_wp2_with fail
            go_quiet ((go_at_call 52; exact Calls.quiet_of_same (l04Ones_same _ _ (by omega))))
            clear wk wk2 wk3 e1 e2
            go_wp2_with fail
            go_roundg (gk - 1)
            case measure => omega
            case rel => exact ⟨k + 1, hlt, by omega, by rw [HN.out], by go_num, HW.out _⟩
        · obtain rfl : k = L.length - 1 := by omega
          have HNONE := Lib.hid (fun h => (HT.out.next (below_drewN (Below.refl _ _) 0)).none H0.out h)
          have HPUSH := Lib.hid (fun (W : World) (hb : Below wo.heap.size wo W) (v' : Value) (w' : World) (o : Obj) => (HT.out.next hb).push (v' := v') (w' := w') (o := o) H0.out)
          have HCOV : Hid (grd L A A = none → covL n L = [] ∧ covB n L = false) := Lib.hid fun h => by
            have e : grdO n L = none := by rw [HO.out, ← HA.out]; exact h
            unfold covL covB
            rw [e]
            exact ⟨rfl, rfl⟩
          have e2 := i64_and (setN L (bestS L l (L.length - 1))) l s1 l64
          have e3 := i64_andNot l (setN L (bestS L l (L.length - 1))) l64 s1
          obtain ⟨bb, hbb⟩ : ∃ bb, bb = bestS L l (L.length - 1) := ⟨_, rfl⟩
          rw [← hbb] at y1 hbk HNONE HPUSH e2 e3 ⊢
          have lb : (bb : Int) < (L.length : Int) := by omega
          obtain ⟨kk, hkk⟩ : ∃ kk, L.length = kk + 1 := ⟨L.length - 1, by omega⟩
          have wk : ((L.length - 1 : Nat) : Int) + 1 = (L.length : Int) := by omega
          rw [wk]
          have HWO := Lib.hid (show ∃ m, wr = wo.drewN m from HW0.out)
          clear hbb wk hkk hlt
          by_cases hq : setN L bb &&& l = 0
          · have HN := Lib.hid (HCOV.out (HNONE.out hq))
            rw [hq] at e2
            clear hq e3
            generalize setN L bb = y at y1 e2
            go_wp2_with fail
            refine bodyPost_ret (results_tmp2 rfl _ _ _) rfl ?_
            rw [HN.out.1, HN.out.2]
            exact ⟨_, rfl, SI.nil _ (Nat.le_refl _) _ _, HBW.out⟩
          · have HQ := Lib.hid hq
            have hq1 : (((setN L bb &&& l : Nat) : Int) == 0) = false := by simp; omega
            generalize hQ : setN L bb &&& l = q at e2 hq1
            have HQQ := Lib.hid hQ
            generalize hX : l ^^^ (l &&& setN L bb) = x at e3
            have HX := Lib.hid hX
            obtain ⟨y, hy⟩ : ∃ y, y = setN L bb := ⟨_, rfl⟩
            rw [← hy] at y1 e2 e3
            have HY := Lib.hid hy
            have HB2 : Hid (Below wo.heap.size wo wr) := Lib.hid (by obtain ⟨m, h⟩ := HWO.out; rw [h]; exact below_drewN (Below.refl _ _) m)
            have HT2 := Lib.hid (HT.out.next HB2.out)
            have hzl : Zs.length ≤ 65535 := by have := HT.out.len; omega
            clear hq hQ hX hy
            go_wp2_with (at_builtin; refine wpList_append_own _ rfl _ _ 22 rfl w.heap.size 2 i0 (.int .i64 0) 1 8 Try.underlying22 hi hz0 hz1 hz2 rfl (by decide) _ _ _ rfl (Grows.alloc HT2.out.grows _) ⟨wr.heap.size, 0, none⟩ 1 1 [.int .i64 (bb : Int)] rfl rfl ?c1 ?c2 ?c3 ?c4 ?c5 ?_)
            case c1 => exact one_new
            case c2 => intro u hu; simp at hu; subst hu; rfl
            case c3 => unfold maxLen; omega
            case c4 => omega
            case c5 => have := HT2.out.below.size; simp; omega
            intro v' w' hown hgrow _
            have HN := Lib.hid (HPUSH.out wr HB2.out v' w' _ HQ.out hown hgrow)
            clear hown hgrow
            go_wp2_with fail
            go_roundg (g2 - 1)
            case measure => have := HT.out.fuel; have := H0.out; omega
            case rel => exact ⟨x, _, rfl, by rw [← HX.out]; exact HN.out⟩
set_option maxHeartbeats 1000000 in
theorem specGreedyCover_any (n : Int) (v : Value) (L : List Int) (w : World) (hv : IL w v L) (_ : -9223372036854775808 ≤ n ∧ n ≤ 9223372036854775807) (o : OKI L) :
    Calls Try.prog 28 #[.int .i64 n, v] w (SaysJB (covL n L) (covB n L) w) := by
  have hn := o.size
  cases h1 : setsB n L with
  | false =>
    have e : grdO n L = none := by unfold grdO; rw [if_neg (by rw [h1]; decide)]
    have e2 : covL n L = [] := by unfold covL; rw [e]; rfl
    have e3 : covB n L = false := by unfold covB; rw [e]; rfl
    rw [e2, e3]
    have HV := Lib.hid hv
    have H1 := Lib.hid h1
    obtain ⟨ao, cap, rfl⟩ := hv.long
    clear h1 hv e e2 e3
    go_enter Try.func28, Try.ntmps28
    go_wp2_with fail
    go_at_call 37; refine (l04Sets_is false n _ L _ HV.out hn H1.out).mono ?_; rintro e w' ⟨rfl, m, rfl⟩
    have HB := Lib.hid (below_drewN (Below.refl w.heap.size w) m)
    go_wp2_with fail
    refine bodyPost_ret (results_tmp2 rfl _ _ _) rfl ?_
    exact ⟨_, rfl, SI.nil _ (Nat.le_refl _) _ _, HB.out⟩
  | true =>
    obtain ⟨m, rfl, OK⟩ := setsB_ok h1
    exact specGc_yes m v L w hv hn h1 OK
end Go.Proofs.Ytolbkepbcoipcaa
