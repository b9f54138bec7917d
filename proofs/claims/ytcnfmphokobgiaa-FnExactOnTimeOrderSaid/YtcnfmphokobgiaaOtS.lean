/- Orders that keep the most jobs on time: the model. -/
import Derived.Test.YtcnfmphokobgiaaOtP
import Derived.Test.YtcnfmphokobgiaaJbS
import Derived.Test.YtcnfmphokobgiaaDueS
import Derived.StillTailTactics
import Derived.Deep.RegionWith
namespace Go.Proofs.Ytcnfmphokobgiaa
open Go.RowKit Go.ChangeShapes Go.WideShapes

theorem Grows.front {B g n cap : Nat} {Y : List Int} {w : World} (h : Grows (Value.int .i64) 2 B (.slice (some ⟨g, 0, none⟩) n cap) Y w) {M : Nat} (hM : M ≤ Y.length) : Grows (Value.int .i64) 2 B (.slice (some ⟨g, 0, none⟩) M cap) (Y.take M) w := by
  obtain ⟨h1, h2⟩ := h
  have hl : (Y.take M).length = M := by simp; omega
  refine ⟨by simp, ?_⟩
  rcases h2 with ⟨e, _⟩ | ⟨g', cap', cur, e, hB, hg, hn, hc, hs, ht⟩
  · cases e
  · injection e with e1 e2 e3
    injection e1 with e1
    injection e1 with e1 _ _
    subst e1 e3
    refine Or.inr ⟨g, cap, cur, by rw [hl], hB, hg, by omega, hc, hs, ?_⟩
    rw [hl, Nat.mul_one, List.map_take, ← ht, Nat.mul_one, List.take_take, Nat.min_eq_left hM]
theorem lies_drop {w : World} {g M : Nat} {K : List Nat} (h : Arr (Value.int .i64) 0 w g 0 (intsN K)) {j : Nat} {u : Value} (hu : ((intsN (K.drop (M + 1))).map (Value.int .i64))[j]? = some u) : w.cell? ⟨g, M + 1 + j, none⟩ = some u := by
  have hj : M + 1 + j < K.length := by
    have := (List.getElem?_eq_some_iff.1 hu).1
    simp [intsN] at this
    omega
  have h0 := h.cells (M + 1 + j) (by rw [intsN_len]; exact hj)
  rw [Nat.zero_add] at h0
  rw [h0, ← hu]
  simp [intsN, List.getD, hj]
theorem TwoAt.moreL {w wr w' : World} {v1 v1' v2 : Value} {Y1 Y2 L : List Int} {n : Nat} (h : TwoAt w v1 v2 Y1 Y2 wr) (hn : n = L.length) (hown : w'.ownsRow w.heap.size 2 1 v1' n (L.map (Value.int .i64))) (hg : wr.grownBy w' v1.ownBlock)
    (hat : v1'.ownBlock = v1.ownBlock ∨ v1'.ownBlock = some wr.heap.size) : TwoAt w v1' v2 L Y2 w' := by
  subst hn
  have hs := h.below.size
  refine ⟨h.below.grown hg hs (fun g e => h.one.block g e), hown, ?_, fun g e e2 => ?_⟩
  · refine World.ownsRow.kept h.two hg ?_
    cases hv : v2.ownBlock with
    | none => exact Or.inl rfl
    | some g => exact Or.inr fun e => h.apart g e.symm hv
  · rcases hat with e1 | e1
    · exact h.apart g (by rw [← e1]; exact e) e2
    · have h2 := (World.ownsRow.lt h.two g e2).2
      rw [e1] at e
      injection e with e
      omega
set_option maxRecDepth 100000 in
set_option maxHeartbeats 16000000 in
theorem specOt_yes (v : Value) (Z : List Ac) (w : World) (hv : AV w v Z) (hn : Z.length ≤ 1048576) (h : jobsB Z = true) :
    Calls Try.prog 39 #[v] w (SaysJIB (otL Z) (otI Z) true w) := by
  obtain ⟨i0, hi, hz0, hz1, hz2⟩ := info_parts Try.infoI
  have HV := Lib.hid hv
  have H := Lib.hid h
  have J := Lib.hid (jobsB_ok h)
  have n1 := J.out.n1
  have n2 := J.out.n2
  have HE := Lib.hid (ot_yes h)
  have HYL := Lib.hid (otY_len Z)
  rcases hv with ⟨hz, -⟩ | ⟨b, off, cap, rfl, hpos, hbl, hcell⟩
  · rw [hz] at n1; simp at n1
  have HC := Lib.hid hcell
  clear hcell h hpos
  go_enter Try.func39, Try.ntmps39
  go_wp2_with fail
  go_at_call 49; refine (l06Are_is true _ Z _ HV.out hn H.out).mono ?_; rintro e w1 ⟨rfl, m0, rfl⟩
  go_wp2_with fail
  go_at_call 50; refine (l06Due_any _ Z _ (HV.out.dn m0) (by omega)).mono ?_; rintro e w2 ⟨o, rfl, io, b2⟩
  have BW := Lib.hid ((below_drewN (Below.refl w.heap.size w) m0).trans b2)
  change SI _ _ _ _ _ _ (intsN (otY Z)) at io
  obtain ⟨_, hz | ⟨b3, off3, cap3, rfl, hpos3, hge3, hbl3, hfr3, hcell3⟩⟩ := io
  · have := congrArg List.length hz.1
    rw [intsN_len, HYL.out, List.length_nil] at this
    omega
  have HC3 := Lib.hid hcell3
  have e3 : (intsN (otY Z)).length = Z.length := by rw [intsN_len, HYL.out]
  rw [e3]
  have E3 := Lib.hid e3
  have TS := Lib.hid (TwoAt.start w2)
  clear b2 hcell3 hfr3 hpos3 hge3 e3
  go_wp2_with fail
  go_loopg [6, 7, 8, 9] Z.length (fun gk a c s i wr => ∃ k : Nat, k ≤ Z.length ∧ gk + k = Z.length ∧ i = .int .i64 k ∧ s = .int .i64 (otS Z (otY Z) k).2.2 ∧ TwoAt w2 a c (intsN (otS Z (otY Z) k).1) (intsN (otS Z (otY Z) k).2.1) wr ∧ (∃ g, a.ownBlock = some g) ∧ (∃ g, c.ownBlock = some g))
  case atStart => exact ⟨0, Nat.zero_le _, by omega, rfl, rfl, TS.out, ⟨_, rfl⟩, ⟨_, rfl⟩⟩
  case round =>
    clear TS
    obtain ⟨k, hk, hgk, rfl, rfl, hT, hn6, hn7⟩ := hrel
    have ok : OtOk Z (otY Z) k := otS_ok J.out (ordN_nodup (dueK Z) Z.length) (fun _ h => ordN_mem.1 h) k (by rw [ordN_len]; exact hk)
    by_cases hlt : k < Z.length
    · have hx : (otY Z).getD k 0 < Z.length := ordN_lt _ hlt
      have y3 := (show wr.cell? ⟨b3, off3 + k, none⟩ = some (.int .i64 (((otY Z).getD k 0 : Nat) : Int)) by rw [hT.below.cell (p := ⟨b3, off3 + k, none⟩) hbl3, HC3.out k (by rw [E3.out]; exact hlt), intsN_at (by rw [HYL.out]; exact hlt)])
      have ok2 : OtOk Z (otY Z) (k + 1) := otS_ok J.out (ordN_nodup (dueK Z) Z.length) (fun _ h => ordN_mem.1 h) (k + 1) (by rw [ordN_len]; exact hlt)
      have hfx := J.out.ok _ hx
      have f1 := hfx.f1
      have f2 := hfx.f2
      have t1 := hfx.t1
      have t2 := hfx.t2
      have U : Hid (otS Z (otY Z) (k + 1) = if (otS Z (otY Z) k).2.2 + (Z.getD ((otY Z).getD k 0) zA).f ≤ (Z.getD ((otY Z).getD k 0) zA).t then ((otS Z (otY Z) k).1 ++ [(otY Z).getD k 0], (otS Z (otY Z) k).2.1, (otS Z (otY Z) k).2.2 + (Z.getD ((otY Z).getD k 0) zA).f)
          else (((otS Z (otY Z) k).1 ++ [(otY Z).getD k 0]).filter (fun z => !(z == fstN (lonB2 Z) ((otS Z (otY Z) k).1 ++ [(otY Z).getD k 0]) ((otS Z (otY Z) k).1 ++ [(otY Z).getD k 0]).length)), (otS Z (otY Z) k).2.1 ++ [fstN (lonB2 Z) ((otS Z (otY Z) k).1 ++ [(otY Z).getD k 0]) ((otS Z (otY Z) k).1 ++ [(otY Z).getD k 0]).length], (otS Z (otY Z) k).2.2 + (Z.getD ((otY Z).getD k 0) zA).f - (Z.getD (fstN (lonB2 Z) ((otS Z (otY Z) k).1 ++ [(otY Z).getD k 0]) ((otS Z (otY Z) k).1 ++ [(otY Z).getD k 0]).length) zA).f)) := Lib.hid rfl
      have FX : Hid (∀ W, Below w2.heap.size w2 W → ∀ z, z < Z.length → ArcAt W b (off + z * 4) (Z.getD z zA)) := Lib.hid fun W hW z hz => (HC.out z hz).keep (BW.out.trans (hW.mono BW.out.size)) hbl
      have KIN : Hid (∀ y ∈ (otS Z (otY Z) k).1 ++ [(otY Z).getD k 0], y < Z.length) := Lib.hid fun y hy => by
        rcases List.mem_append.1 hy with h | h
        · exact ordN_mem.1 (List.mem_of_mem_take (ok.sub y h))
        · rw [List.mem_singleton] at h; subst h; exact hx
      have ND : Hid (((otS Z (otY Z) k).1 ++ [(otY Z).getD k 0]).Nodup) := Lib.hid (by
        have hnew : (otY Z).getD k 0 ∉ (otY Z).take k := by
          have h0 := take_up (Y := otY Z) (k := k) (by rw [HYL.out]; exact hlt)
          have h2 : ((otY Z).take (k + 1)).Nodup := List.Nodup.sublist (List.take_sublist _ _) (ordN_nodup (dueK Z) Z.length)
          rw [h0, List.nodup_append] at h2
          intro hm
          exact h2.2.2 _ hm _ (by simp) rfl
        rw [List.nodup_append]
        refine ⟨ok.nd, by simp, fun a ha b hb => ?_⟩
        rw [List.mem_singleton] at hb
        subst hb
        intro e
        exact hnew (e ▸ ok.sub a ha))
      obtain ⟨-, -, lK, lA, -, s1, s2⟩ := ok
      obtain ⟨-, -, -, -, -, s3, s4⟩ := ok2
      have HT := Lib.hid hT
      have N6 := Lib.hid hn6
      have N7 := Lib.hid hn7
      clear hn6 hn7
      have hsz := hT.below.size
      have Y3 : Hid (∀ W, Below w2.heap.size w2 W → W.cell? ⟨b3, off3 + k, none⟩ = some (.int .i64 (((otY Z).getD k 0 : Nat) : Int))) := Lib.hid fun W hW => by rw [hW.cell (p := ⟨b3, off3 + k, none⟩) hbl3, HC3.out k (by rw [E3.out]; exact hlt), intsN_at (by rw [HYL.out]; exact hlt)]
      have FXx := Lib.hid (fun W hW => And.intro (FX.out W hW _ hx).c0 (FX.out W hW _ hx).c1)
      clear hT hfx s3 s4
      have lx : (((otY Z).getD k 0 : Nat) : Int) < (Z.length : Int) := by omega
      have lk : (k : Int) < (Z.length : Int) := by omega
      generalize hP : otS Z (otY Z) k = P at *
      generalize (otY Z).getD k 0 = x at *
      obtain ⟨K, A, s⟩ := P
      dsimp only at *
      clear hP
      generalize (Z.getD x zA).f = f at *
      generalize (Z.getD x zA).t = t at *
      go_wp2_with (at_builtin; refine wpList_append_own_at _ rfl _ _ 24 rfl w2.heap.size 2 i0 (.int .i64 0) 1 8 Try.underlying24 hi hz0 hz1 hz2 rfl (by decide) _ _ _ rfl (Grows.alloc HT.out.one _) ⟨wr.heap.size, 0, none⟩ 1 1 [.int .i64 (x : Int)] rfl rfl one_new (by intro u hu; simp at hu; subst hu; rfl) (by rw [intsN_len]; unfold maxLen; omega) (by rw [intsN_len]; omega) (by simp; omega) ?_)
      intro v' w' hown hgrow _ hat
      have T2 : Hid (TwoAt w2 v' u7 (intsN (K ++ [x])) (intsN A) w') := Lib.hid (by rw [intsN_snoc]; exact HT.out.more hown hgrow (by simpa using hat))
      clear hown hgrow hat y3
      have y3 := Y3.out w' T2.out.below
      obtain ⟨a0, a1⟩ := FXx.out w' T2.out.below
      have hKl : (K ++ [x]).length = K.length + 1 := by simp
      obtain ⟨g, gc, cur, rfl, hB, hgl, _, hgc, _, _, har⟩ := T2.out.one.at (by omega)
      by_cases hq : s + f ≤ t
      · have U2 := Lib.hid (U.out.trans (if_pos hq))
        clear U har
        go_wp2_with fail
        go_roundg (gk - 1)
        case measure => omega
        case rel => exact ⟨k + 1, by omega, by omega, by go_num, by rw [U2.out], by rw [U2.out]; exact T2.out, ⟨g, rfl⟩, N7.out⟩
      · have U2 := Lib.hid (U.out.trans (if_neg hq))
        have nq : t < s + f := by omega
        have HCE : Hid (∀ i, i < (K ++ [x]).length → w'.cell? ⟨g, i, none⟩ = some (.int .i64 (((K ++ [x]).getD i 0 : Nat) : Int))) := Lib.hid fun i hi => by
          have h0 := har.cells i (by rw [intsN_len]; exact hi)
          rw [Nat.zero_add, intsN_at hi] at h0
          exact h0
        have HIN : Hid (∀ i, i < (K ++ [x]).length → (K ++ [x]).getD i 0 < Z.length) := Lib.hid fun i hi => KIN.out _ (getD_memN hi)
        have FX' : Hid (∀ z, z < Z.length → w'.cell? ⟨b, off + z * 4, none⟩ = some (.int .i64 (Z.getD z zA).f)) := Lib.hid fun z hz => (FX.out w' T2.out.below z hz).c0
        have HER := Lib.hid (erase_filter ND.out)
        clear U har KIN
        generalize hK1 : K ++ [x] = K1 at *
        have HKL := Lib.hid hKl
        clear hK1
        have l1 : 1 ≤ K1.length := by omega
        have l2 : K1.length ≤ 13 := by omega
        clear hKl
        go_wp2_with fail
        obtain ⟨wo, rfl⟩ : ∃ x : World, x = wr := ⟨_, rfl⟩
        obtain ⟨g2, rfl⟩ : ∃ x : Nat, x = gk := ⟨_, rfl⟩
        go_loopg [10, 11] K1.length (fun gk m i wi => ∃ p : Nat, 1 ≤ p ∧ p ≤ K1.length ∧ gk + p = K1.length + 1 ∧ i = .int .i64 p ∧ m = .int .i64 (mxI (lonB2 Z) K1 p) ∧ ∃ q, wi = w'.drewN q)
        case atStart => exact ⟨1, Nat.le_refl _, l1, by omega, rfl, rfl, 0, rfl⟩
        case round =>
          obtain ⟨p, hp1, hp, hgp, rfl, rfl, hwi⟩ := hrel
          obtain ⟨p0, rfl⟩ : ∃ p0, p = p0 + 1 := ⟨p - 1, by omega⟩
          have hm := mxI_lt (lonB2 Z) K1 p0
          by_cases hlp : p0 + 1 < K1.length
          · have y1 : wr.cell? ⟨g, p0 + 1, none⟩ = some (.int .i64 ((K1.getD (p0 + 1) 0 : Nat) : Int)) := by obtain ⟨q, rfl⟩ := hwi; exact HCE.out _ hlp
            have y2 : wr.cell? ⟨g, mxI (lonB2 Z) K1 (p0 + 1), none⟩ = some (.int .i64 ((K1.getD (mxI (lonB2 Z) K1 (p0 + 1)) 0 : Nat) : Int)) := by obtain ⟨q, rfl⟩ := hwi; exact HCE.out _ (by omega)
            have h1 := HIN.out _ hlp
            have h2 := HIN.out (mxI (lonB2 Z) K1 (p0 + 1)) (by omega)
            have u1 : wr.cell? ⟨b, off + K1.getD (p0 + 1) 0 * 4, none⟩ = some (.int .i64 (Z.getD (K1.getD (p0 + 1) 0) zA).f) := by obtain ⟨q, rfl⟩ := hwi; exact FX'.out _ h1
            have u2 : wr.cell? ⟨b, off + K1.getD (mxI (lonB2 Z) K1 (p0 + 1)) 0 * 4, none⟩ = some (.int .i64 (Z.getD (K1.getD (mxI (lonB2 Z) K1 (p0 + 1)) 0) zA).f) := by obtain ⟨q, rfl⟩ := hwi; exact FX'.out _ h2
            have UM : Hid (mxI (lonB2 Z) K1 (p0 + 2) = if decide ((Z.getD (K1.getD (mxI (lonB2 Z) K1 (p0 + 1)) 0) zA).f < (Z.getD (K1.getD (p0 + 1) 0) zA).f) then p0 + 1 else mxI (lonB2 Z) K1 (p0 + 1)) := Lib.hid rfl
            have HW := Lib.hid (drewO hwi)
            clear hwi
            generalize (Z.getD (K1.getD (mxI (lonB2 Z) K1 (p0 + 1)) 0) zA).f = fm at u2 UM
            generalize (Z.getD (K1.getD (p0 + 1) 0) zA).f = fp at u1 UM
            generalize K1.getD (mxI (lonB2 Z) K1 (p0 + 1)) 0 = jm at y2 u2 h2
            generalize K1.getD (p0 + 1) 0 = jp at y1 u1 h1
            generalize mxI (lonB2 Z) K1 (p0 + 1) = M at hm y2 UM
            generalize hp9 : p0 + 1 = p9 at *
            have i1 : (p9 : Int) < (K1.length : Int) := by omega
            have i2 : (M : Int) < (K1.length : Int) := by omega
            have i3 : (jp : Int) < (Z.length : Int) := by omega
            have i4 : (jm : Int) < (Z.length : Int) := by omega
            by_cases hc : fm < fp
            · rw [decide_eq_true hc] at UM
              go_wp2_with fail
              go_quiet (fail)
              go_wp2_with fail
              go_roundg (gk - 1)
              case measure => omega
              case rel => exact ⟨p9 + 1, by omega, by omega, by omega, by go_num, by rw [show p9 + 1 = p0 + 2 by omega, UM.out]; rfl, HW.out _⟩
            · rw [decide_eq_false hc] at UM
              go_wp2_with fail
              go_quiet (fail)
              go_wp2_with fail
              go_roundg (gk - 1)
              case measure => omega
              case rel => exact ⟨p9 + 1, by omega, by omega, by omega, by go_num, by rw [show p9 + 1 = p0 + 2 by omega, UM.out]; rfl, HW.out _⟩
          · have hpl : p0 + 1 = K1.length := by omega
            obtain ⟨q, rfl⟩ := hwi
            have hfz := mxI_fst (lonB2 Z) K1 p0
            rw [hpl] at hm hfz ⊢
            have y1 := HCE.out _ hm
            have hzn := HIN.out _ hm
            have u1 := FX'.out _ hzn
            have HERM := Lib.hid (HER.out _ hm)
            rw [← hfz] at U2
            have hzz := J.out.ok _ hzn
            have g1 := hzz.f1
            have g3 := hzz.f2
            clear hzz hpl hfz
            generalize mxI (lonB2 Z) K1 K1.length = M at *
            generalize hz9 : K1.getD M 0 = z at *
            generalize (Z.getD z zA).f = fz at *
            have i1 : (M : Int) < (K1.length : Int) := by omega
            have i2 : (z : Int) < (Z.length : Int) := by omega
            clear hz9
            have TQ := Lib.hid (T2.out.drew q)
            go_wp2_with (at_builtin; refine wpList_append_own_at _ rfl _ _ 24 rfl w2.heap.size 2 i0 (.int .i64 0) 1 8 Try.underlying24 hi hz0 hz1 hz2 rfl (by decide) _ _ _ rfl (Grows.alloc TQ.out.two _) ⟨(w'.drewN q).heap.size, 0, none⟩ 1 1 [.int .i64 (z : Int)] rfl rfl one_new (by intro u hu; simp at hu; subst hu; rfl) (by rw [intsN_len]; unfold maxLen; omega) (by rw [intsN_len]; omega) (by have := TQ.out.below.size; simp at this ⊢; omega) ?_)
            intro v5 w5 hown hgrow _ hat
            have T5 : Hid (TwoAt w2 (.slice (some ⟨g, 0, none⟩) K1.length gc) v5 (intsN K1) (intsN (A ++ [z])) w5) := Lib.hid (by rw [intsN_snoc]; exact (TQ.out.swap.more hown hgrow (by simpa using hat)).swap)
            have N77 : Hid (∃ g, v5.ownBlock = some g) := Lib.hid (by
              obtain ⟨g7, e7⟩ := N7.out
              rcases hat with e | e
              · exact ⟨g7, e.trans e7⟩
              · exact ⟨_, e⟩)
            clear hown hgrow hat
            have A5 : Hid (Arr (Value.int .i64) 0 w5 g 0 (intsN K1)) := Lib.hid (by
              obtain ⟨g', _, _, e, _, _, _, _, _, _, ha⟩ := T5.out.one.at (by omega)
              injection e with e1 _ _
              injection e1 with e1
              injection e1 with e1 _ _
              subst e1
              exact ha)
            have GF : Hid (w5.drew.ownsRow w2.heap.size 2 1 (.slice (some ⟨g, 0, none⟩) M gc) M (((intsN K1).take M).map (Value.int .i64))) := Lib.hid (by
              have h := (T5.out.drew 1).one.front (M := M) (by rw [intsN_len]; omega)
              unfold Grows at h
              rw [List.length_take, intsN_len, Nat.min_eq_left (by omega)] at h
              exact h)
            have HFM : Hid ((intsN K1).take M |>.map (Value.int .i64) |>.append ((intsN (K1.drop (M + 1))).map (Value.int .i64)) |> (· = (intsN (K1.filter fun u => !(u == z))).map (Value.int .i64))) := Lib.hid (by
              show ((intsN K1).take M).map (Value.int .i64) ++ (intsN (K1.drop (M + 1))).map (Value.int .i64) = _
              rw [← HERM.out, ← List.map_append]
              congr 1
              unfold intsN
              rw [List.map_append, List.map_take])
            have HFL : Hid (M + (K1.length - (M + 1)) = (intsN (K1.filter fun u => !(u == z))).length) := Lib.hid (by rw [intsN_len, ← HERM.out, List.length_append, List.length_take, List.length_drop]; omega)
            have w7 : IntKind.i64.wrap ((M : Int) + 1) = (M : Int) + 1 := by rw [IntKind.wrap_i64]; omega
            have b1 : (0 : Int) ≤ (M : Int) := by omega
            have b2 : (M : Int) ≤ (gc : Int) := by omega
            have b3' : (0 : Int) ≤ (M : Int) + 1 := by omega
            have b4 : (M : Int) + 1 ≤ (K1.length : Int) := by omega
            have b5 : (K1.length : Int) ≤ (gc : Int) := by omega
            by_cases hcap : gc = M + 1
            · have HL0 : Hid (K1.length = M + 1) := Lib.hid (by omega)
              have hdr : K1.drop (M + 1) = [] := List.drop_eq_nil_of_le (by rw [HL0.out]; exact Nat.le_refl _)
              have HFM2 : Hid (((intsN K1).take M).map (Value.int .i64) = (intsN (K1.filter fun u => !(u == z))).map (Value.int .i64)) := Lib.hid (by
                have h0 := HFM.out
                rw [hdr] at h0
                have h1 : ((intsN K1).take M).map (Value.int .i64) ++ (intsN []).map (Value.int .i64) = (intsN (K1.filter fun u => !(u == z))).map (Value.int .i64) := h0
                rw [← h1]
                simp [intsN])
              have HFL2 : Hid (M = (intsN (K1.filter fun u => !(u == z))).length) := Lib.hid (by rw [← HFL.out, HL0.out]; omega)
              clear a0 a1 y3 y1 u1 hdr
              obtain ⟨N, hN⟩ : ∃ N, N = M + 1 := ⟨_, rfl⟩
              have HLN : Hid (K1.length = N) := Lib.hid (by rw [hN]; exact HL0.out)
              have w8 : IntKind.i64.wrap ((M : Int) + 1) = (N : Int) := by rw [w7]; omega
              have d1 : (M : Int) ≤ (N : Int) := by omega
              have d2 : (0 : Int) ≤ (N : Int) := by omega
              have d3 : (M : Int) + 1 = (N : Int) := by omega
              have HM13 : Hid (M ≤ 13) := Lib.hid (by omega)
              rw [← hN] at hcap
              subst hcap
              rw [HLN.out]
              clear w7 hN b3' b4 b5 b2 hgc l1 l2 hm i1 d3
              go_wp2_with fail
              all_goals
                refine wp_region_still_tail 7 (by kernel_rfl) (by kernel_rfl) ?_
                simp only [List.take_succ_cons, List.take_zero, List.drop_succ_cons, List.drop_zero]
                repeat still_step
                refine wpStill_nil ?_
                change wpList _ _ _ _ _ w5.drew
                refine wpList_append_own_at _ rfl _ _ 24 rfl w2.heap.size 2 i0 (.int .i64 0) 1 8 Try.underlying24 hi hz0 hz1 hz2 rfl (by decide) _ M _ rfl (GF.out) ⟨g, 0, none⟩ _ _ [] rfl (by simp) (by intro j u hu; simp at hu) (by simp) (by have := HM13.out; simp; unfold maxLen; omega) (by have := HM13.out; simp; omega) (by have := T5.out.below.size; simpa using this) ?_
                intro v6 w6 hown6 hgrow6 _ hat6
                have T6 : Hid (TwoAt w2 v6 v5 (intsN (K1.filter fun u => !(u == z))) (intsN (A ++ [z])) w6) := Lib.hid ((T5.out.drew 1).moreL (n := M) HFL2.out (by rw [← HFM2.out]; simpa using hown6) hgrow6 (by rcases hat6 with e | e; exact Or.inl e; exact Or.inr e))
                have N66 : Hid (∃ g, v6.ownBlock = some g) := Lib.hid (by rcases hat6 with e | e <;> exact ⟨_, e⟩)
                clear hown6 hgrow6 hat6
                go_wp2_with fail
                go_roundg (g2 - 1)
                case measure => omega
                case rel => exact ⟨k + 1, by omega, by omega, by go_num, by rw [U2.out], by rw [U2.out]; exact T6.out, N66.out, N77.out⟩
            · clear a0 a1 y3 y1 u1
              go_wp2_with fail
              all_goals
                refine wp_region_still_tail 7 (by kernel_rfl) (by kernel_rfl) ?_
                simp only [List.take_succ_cons, List.take_zero, List.drop_succ_cons, List.drop_zero]
                repeat still_step
                refine wpStill_nil ?_
                change wpList _ _ _ _ _ w5.drew
                refine wpList_append_own_at _ rfl _ _ 24 rfl w2.heap.size 2 i0 (.int .i64 0) 1 8 Try.underlying24 hi hz0 hz1 hz2 rfl (by decide) _ M _ rfl (GF.out) ⟨g, M + 1, none⟩ (K1.length - (M + 1)) (gc - (M + 1)) ((intsN (K1.drop (M + 1))).map (Value.int .i64)) rfl (by simp [intsN_len]) ?c2 (map_oneI _) (by unfold maxLen; omega) (by omega) (by have := T5.out.below.size; simpa using this) ?_
                case c2 => intro j u hu; rw [Go.WideShapes.add_plain]; exact lies_drop A5.out hu
                intro v6 w6 hown6 hgrow6 _ hat6
                have T6 : Hid (TwoAt w2 v6 v5 (intsN (K1.filter fun u => !(u == z))) (intsN (A ++ [z])) w6) := Lib.hid ((T5.out.drew 1).moreL (n := M + (K1.length - (M + 1))) HFL.out (by rw [← HFM.out]; exact hown6) hgrow6 (by rcases hat6 with e | e; exact Or.inl e; exact Or.inr e))
                have N66 : Hid (∃ g, v6.ownBlock = some g) := Lib.hid (by rcases hat6 with e | e <;> exact ⟨_, e⟩)
                clear hown6 hgrow6 hat6
                go_wp2_with fail
                go_roundg (g2 - 1)
                case measure => omega
                case rel => exact ⟨k + 1, by omega, by omega, by go_num, by rw [U2.out], by rw [U2.out]; exact T6.out, N66.out, N77.out⟩
    · obtain rfl : k = Z.length := by omega
      have hT' : TwoAt w2 u6 u7 (intsN (otK Z)) (intsN (otA Z)) wr := hT
      have lK : (otK Z).length ≤ Z.length := ok.lK
      have lA : (otA Z).length ≤ Z.length := ok.lA
      have zK := intsN_len (otK Z)
      have zA' := intsN_len (otA Z)
      have BL := Lib.hid (BW.out.trans (hT'.below.mono BW.out.size))
      have q1 := own_cases hT'.one
      have q2 := own_cases hT'.two
      clear hT hT' ok
      rcases q1 with ⟨rfl, _⟩ | ⟨ad1, cp1, rfl, l1⟩
      · obtain ⟨_, hg7⟩ := hn6; cases hg7
      rcases q2 with ⟨rfl, _⟩ | ⟨ad2, cp2, rfl, l2⟩
      · obtain ⟨_, hg7⟩ := hn7; cases hg7
      have L1 := Lib.hid l1
      have L2 := Lib.hid l2
      have HZK := Lib.hid zK
      clear l1 l2 hn6 hn7
      have b1 : (intsN (otK Z)).length ≤ 12 := by omega
      have b2 : (intsN (otA Z)).length ≤ 12 := by omega
      clear zK zA'
      generalize intsN (otK Z) = Y1 at *
      generalize intsN (otA Z) = Y2 at *
      have G0 := Lib.hid (Grows.empty (Value.int .i64) 2 wr.heap.size wr (Nat.le_refl _))
      have B0 := Lib.hid (below_alloc wr (.cells #[] 2))
      go_wp2_with (at_builtin; refine wpList_append_own _ rfl _ _ 24 rfl wr.heap.size 2 i0 (.int .i64 0) 1 8 Try.underlying24 hi hz0 hz1 hz2 rfl (by decide) _ _ _ rfl G0.out ad1 Y1.length cp1 (Y1.map (Value.int .i64)) rfl (by simp) (L1.out _ B0.out) (map_oneI Y1) (by simp; unfold maxLen; omega) (by simp; omega) B0.out.size ?_)
      intro v1 w3 hown1 hgrow1 _
      have G1 : Hid (Grows (Value.int .i64) 2 wr.heap.size v1 Y1 w3) := Lib.hid hown1
      have B1 := Lib.hid (B0.out.grown hgrow1 B0.out.size (fun q hq => G0.out.block q hq))
      clear hown1 hgrow1
      go_wp2_with (at_builtin; refine wpList_append_own _ rfl _ _ 24 rfl wr.heap.size 2 i0 (.int .i64 0) 1 8 Try.underlying24 hi hz0 hz1 hz2 rfl (by decide) _ _ _ rfl G1.out ad2 Y2.length cp2 (Y2.map (Value.int .i64)) rfl (by simp) (L2.out _ B1.out) (map_oneI Y2) (by unfold maxLen; omega) (by omega) B1.out.size ?_)
      intro v2 w4 hown2 hgrow2 _
      have G2 := Lib.hid (Grows.more (Z := Y1) (news := Y2) (m := Y2.length) rfl hown2)
      have B2 := Lib.hid (B1.out.grown hgrow2 B1.out.size (fun q hq => G1.out.block q hq))
      have IZ := Lib.hid (SI.wide (G2.out.si (d := (0 : Int))) (lo' := w.heap.size) BL.out.size (Nat.le_refl _) (Nat.le_refl _))
      have BZ := Lib.hid (BL.out.trans (B2.out.mono BL.out.size))
      obtain ⟨az, cz, rfl⟩ := (G2.out.si (d := (0 : Int))).len
      clear hown2 hgrow2
      go_wp2_with fail
      refine bodyPost_ret (v := .tuple #[.slice az (Y1 ++ Y2).length cz, .int .i64 (Y1.length : Int), .bool true]) (by simp [results, Try.results39, go_sem]) rfl ?_
      exact ⟨_, by rw [HE.out.2, HZK.out], by rw [HE.out.1]; exact IZ.out, BZ.out⟩
theorem specOnTimeOrder_any (v : Value) (Z : List Ac) (w : World) (hv : AV w v Z) (o : OKA Z) :
    Calls Try.prog 39 #[v] w (SaysJIB (otL Z) (otI Z) (jobsB Z) w) := by
  cases h : jobsB Z with
  | true => exact specOt_yes v Z w hv o.size h
  | false =>
    have HE := Lib.hid (ot_no h)
    have H := Lib.hid h
    have HV := Lib.hid hv
    obtain ⟨ao, cap, rfl⟩ := hv.long
    clear hv h
    go_enter Try.func39, Try.ntmps39
    go_wp2_with fail
    go_at_call 49; refine (l06Are_is false _ Z _ HV.out o.size H.out).mono ?_; rintro e w1 ⟨rfl, m0, rfl⟩
    go_wp2_with fail
    refine bodyPost_ret (v := .tuple #[.slice none 0 0, .int .i64 0, .bool false]) (by simp [results, Try.results39, go_sem]) rfl ?_
    exact ⟨_, by rw [HE.out.2], by rw [HE.out.1]; exact SI.nil _ (Nat.le_refl _) _ _, below_drewN (Below.refl _ _) _⟩
end Go.Proofs.Ytcnfmphokobgiaa
