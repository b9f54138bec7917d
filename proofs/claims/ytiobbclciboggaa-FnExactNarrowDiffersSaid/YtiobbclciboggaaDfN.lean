/- Choices of different numbers: the model's recursion, a step. -/
import Derived.Test.YtiobbclciboggaaDfM
import Derived.Deep.DeepCutAuto
namespace Go.Proofs.Ytiobbclciboggaa
open Go.RowKit Go.ChangeShapes Go.WideShapes

theorem step_all {ops : Array Oper} {o : Oper} {a : Act} {w : World} {K : Act → World → Prop} {Q : Exit → Act → World → Prop} {E : Prop} (hw : Region.wanted o (yielded ops a.tmps) = true) (s x : Operand)
    (ho : o.op = .call { callee := .builtin .append, args := #[s, x], argTypes := #[24, 24] })
    (B g : Nat) (hs : a.eval s = .slice (some ⟨g, 0, none⟩) 0 0) (hG : Grows (Value.int .i64) 2 B (.slice (some ⟨g, 0, none⟩) 0 0) [] w) (P : List Int) (ad : Addr) (cap : Nat)
    (hx : a.eval x = .slice (some ad) P.length cap) (hc : ∀ j u, (P.map (Value.int .i64))[j]? = some u → w.cell? (ad.add j) = some u) (hl : P.length ≤ 1000) (hB : B ≤ w.heap.size)
    (h : ∀ v' w', Grows (Value.int .i64) 2 B v' P w' → w.grownBy w' (some g) → K (a.put o.dst v') w') :
    if Region.wanted o (yielded ops a.tmps) = true then Oper.wp Try.prog o a w K Q else E := by
  rw [if_pos hw]
  obtain ⟨i0, hi, hz0, hz1, hz2⟩ := info_parts Try.infoI
  have hml : 0 + P.length ≤ maxLen := by unfold maxLen; omega
  obtain ⟨v', w', hr, hown, hgr, _⟩ := run_append_own (P := Try.prog) w B 24 o.type 2 i0 (.int .i64 0) 1 8 Try.underlying24 hi hz0 hz1 hz2 rfl (by decide) _ 0 [] hG ad P.length cap (P.map (Value.int .i64)) (by simp) hc (map_oneI P) hml (by omega) hB
  have hG' : Grows (Value.int .i64) 2 B v' P w' := by
    show World.ownsRow _ _ _ _ _ _ _
    simpa using hown
  unfold Oper.wp execOp
  simp only [ho, resolve, invoke, builtin, Sem.run_bind, Sem.run_pure, Result.andThen_ok, List.map_toArray, List.map_cons, List.map_nil, hs, hx, hr]
  exact h v' w' hG' hgr
/-- The next beginning of a choice. -/
def NextAt (wr : World) (Q : List Int) (s : Value) (wx : World) : Prop := Below wr.heap.size wr wx ∧ Grows (Value.int .i64) 2 wr.heap.size s Q wx
theorem lies_w {lo hi : Nat} {w : World} {ad : Addr} {cap : Nat} {P : List Int} (h : II lo hi w (.slice (some ad) P.length cap) P) (W : World) (hb : Below w.heap.size w W) : ∀ j u, (P.map (Value.int .i64))[j]? = some u → W.cell? (ad.add j) = some u := by
  intro j u hu
  have hj : j < P.length := by
    have := (List.getElem?_eq_some_iff.1 hu).1
    simpa using this
  rcases (SI.vl h).below hb (Nat.le_refl _) with ⟨hz, -⟩ | ⟨b, off, c, e, -, -, hc⟩
  · rw [hz] at hj; simp at hj
  · injection e with e _ _
    injection e with e
    subst e
    rw [Go.WideShapes.add_plain, hc j hj, ← hu]
    simp [List.getD, hj]
set_option maxRecDepth 100000 in
set_option maxHeartbeats 8000000 in
theorem differM_step (w0 : World) (lo p B sc f : Nat) (G : Nat → Nat) (Ds : List (List Int)) (dv : Value) (M : Nat → Nat → Bool) (P : List Int) (ad : Addr) (cap : Nat) (F : List Int) (fv : Value) (w : World)
    (ok : DomsOk Ds) (hdv : LV w0 dv Ds) (hlo : w0.heap.size ≤ lo) (hb0 : Below lo w0 w) (hlw : lo ≤ w.heap.size) (hP : P.length + (f + 1) = Ds.length)
    (hv : II (p + 1) w.heap.size w (.slice (some ad) P.length cap) P) (hF : Fst p fv F w) (hS : Seen lo p B G Ds M w)
    (ih : ∀ (M : Nat → Nat → Bool) (Q : List Int) (bd : Addr) (cp : Nat) (H : List Int) (gv : Value) (W : World), Below lo w0 W → lo ≤ W.heap.size → Q.length + f = Ds.length →
      II (p + 1) W.heap.size W (.slice (some bd) Q.length cp) Q → Fst p gv H W → Seen lo p B G Ds M W →
      Calls Try.prog 105 #[dv, .slice (some bd) Q.length cp, .pointer (some ⟨p, 0, none⟩), .slice (some ⟨B, 0, none⟩) Ds.length sc] W (DDone lo p B G Ds M (exts nwB Ds f Q) H W)) :
    Calls Try.prog 105 #[dv, .slice (some ad) P.length cap, .pointer (some ⟨p, 0, none⟩), .slice (some ⟨B, 0, none⟩) Ds.length sc] w (DDone lo p B G Ds M (exts nwB Ds (f + 1) P) F w) := by
  obtain ⟨X, hX⟩ : ∃ X, X = exts nwB Ds (f + 1) P := ⟨_, rfl⟩
  have HXL : Hid (∀ C ∈ X, C.length = Ds.length) := Lib.hid (by rw [hX]; exact exts_len (f + 1) P (by omega))
  have hpn : P.length < Ds.length := by omega
  have hn6 := ok.l2
  obtain ⟨E, hE⟩ : ∃ E, E = Ds.getD P.length [] := ⟨_, rfl⟩
  have hEl : E.length ≤ 8 := by rw [hE]; exact (ok.d _ hpn).l2
  have hEp : 1 ≤ E.length := by rw [hE]; exact (ok.d _ hpn).l1
  have HX0 : Hid ([] ++ extsL (exts nwB Ds f) nwB P (E.drop 0) = X) := Lib.hid (by rw [hX, exts_up, ← hE]; rfl)
  rw [← hX]
  have IH := Lib.hid ih
  have HPF := Lib.hid hP
  have HOK := Lib.hid ok
  have HLO := Lib.hid hlw
  have HB0 := Lib.hid hb0
  have HLW := Lib.hid hlo
  rcases hdv with ⟨hz, -⟩ | ⟨b, off, dcap, U, rfl, hpos, hbl, hcell⟩
  · rw [hz] at hpn; simp at hpn
  have HDW : Hid (∀ W, Below lo w0 W → W.cell? ⟨b, off + P.length, none⟩ = some (U P.length) ∧ IL W (U P.length) E) := Lib.hid fun W hb =>
    ⟨by rw [hb.cell (p := ⟨b, off + P.length, none⟩) (by show b < lo; omega)]; exact (hcell _ hpn).1, hE ▸ (hcell _ hpn).2.below hb hlo⟩
  have HV := Lib.hid hv
  have HFF := Lib.hid hF
  have HSN := Lib.hid hS
  have hne : ((P.length : Int) == (Ds.length : Int)) = false := by simp; omega
  have hne2 : ¬ (P.length : Int) = (Ds.length : Int) := by omega
  obtain ⟨cu, iu⟩ := HDW.out w hb0
  rcases iu with ⟨hz, -⟩ | ⟨ub, uo, uc, hue, hep, hub, hucell⟩
  · rw [hz] at hEp; simp at hEp
  rw [hue] at cu HDW
  have hpi : (P.length : Int) < (Ds.length : Int) := by omega
  clear hX hE ih hv hF hS hP ok hlo hb0 hbl hcell hue hucell hep hub
  go_enter Try.func105, Try.ntmps105
  go_wp2_with fail
  clear cu
  go_loopg [12, 69] E.length (fun gk z i wr => ∃ (k : Nat) (mk : List (List Int)) (gv : Value), k ≤ E.length ∧ gk + k = E.length ∧ i = .int .i64 k ∧ z = .int .i64 (cntW mk) ∧ mk ++ extsL (exts nwB Ds f) nwB P (E.drop k) = X ∧ Turned lo (p + 1) w wr ∧ Fst p gv (hdo mk F) wr ∧ Seen lo p B G Ds (seenX Ds M mk) wr)
  case atStart => exact ⟨0, [], _, Nat.zero_le _, by omega, by simp, by unfold cntW wrap64; simp, HX0.out, Turned.refl _ _ _, by rw [hdo_nil]; exact HFF.out, by rw [seenX_nil]; exact HSN.out⟩
  case round =>
    obtain ⟨k, mk, gv, hk, hgk, rfl, rfl, hmx, hbt, hft, hst⟩ := hrel
    have HMX := Lib.hid hmx
    have HBT := Lib.hid hbt
    have HFT := Lib.hid hft
    have HST := Lib.hid hst
    obtain ⟨zz, hzz⟩ : ∃ zz, zz = cntW mk := ⟨_, rfl⟩
    have HZZ := Lib.hid hzz
    rw [← hzz]
    clear hmx hbt hft hst hzz
    by_cases hkn : k < E.length
    · have HVr : Hid (II (p + 1) wr.heap.size wr (.slice (some ad) P.length cap) P) := Lib.hid (SI.wide (SI.kept HV.out HBT.out (Or.inr (Nat.le_refl _))) (Nat.le_refl _) HBT.out.size (Nat.le_refl _))
      have HB0r : Hid (Below lo w0 wr) := Lib.hid (HB0.out.trans (HBT.out.below HLO.out))
      obtain ⟨cu, iu⟩ := HDW.out wr HB0r.out
      have c2 := il_at iu hkn
      obtain ⟨x, hx⟩ : ∃ x, x = E.getD k 0 := ⟨_, rfl⟩
      rw [← hx] at c2
      have HX := Lib.hid hx
      have hpl8 : P.length ≤ 1000 := by omega
      clear iu hx
      cases q : inS P x with
      | true =>
        have HQ := Lib.hid q
        have HN : Hid (mk ++ extsL (exts nwB Ds f) nwB P (E.drop (k + 1)) = X) := Lib.hid (by rw [← HMX.out, extsL_no (k := k) hkn (by rw [← HX.out]; unfold nwB; rw [HQ.out]; rfl)])
        clear q
        go_wp2_with fail
        go_at_call 152; refine (l00Has_any _ P x _ (SI.vl HVr.out) (by omega)).mono ?_; rintro e w1 ⟨rfl, rfl⟩
        rw [HQ.out]
        go_wp2_with fail
        go_roundg (gk - 1)
        case measure => omega
        case rel => exact ⟨k + 1, mk, gv, by omega, by omega, by go_num, by rw [HZZ.out], HN.out, HBT.out, HFT.out, HST.out⟩
      | false =>
        have HQ := Lib.hid q
        obtain ⟨Q, hQ⟩ : ∃ Q, Q = P ++ [x] := ⟨_, rfl⟩
        have HQE := Lib.hid hQ
        have HQL : Hid (Q.length = P.length + 1) := Lib.hid (by rw [hQ]; simp)
        have HN : Hid ((mk ++ exts nwB Ds f Q) ++ extsL (exts nwB Ds f) nwB P (E.drop (k + 1)) = X) := Lib.hid (by rw [List.append_assoc, ← HMX.out, extsL_yes (k := k) hkn (by rw [← HX.out]; unfold nwB; rw [HQ.out]; rfl), ← HX.out, HQE.out])
        have HL : Hid (∀ W : World, Below wr.heap.size wr W → ∀ j u, (P.map (Value.int .i64))[j]? = some u → W.cell? (ad.add j) = some u) := Lib.hid (lies_w HVr.out)
        have HKB : Hid (∀ W, Below wr.heap.size wr W → W.cell? ⟨b, off + P.length, none⟩ = some (.slice (some ⟨ub, uo, none⟩) E.length (E.length + uc)) ∧ W.cell? ⟨ub, uo + k, none⟩ = some (.int .i64 x)) := Lib.hid fun W hb => ⟨keep_cell cu hb (cell_block cu), keep_cell c2 hb (cell_block c2)⟩
        have HGB : Hid (Grows (Value.int .i64) 2 wr.heap.size (.slice (some ⟨wr.heap.size + 1, 0, none⟩) 0 0) [] ((wr.alloc (.cells #[.int .i64 x] 2)).alloc (.cells #[] 2))) := Lib.hid (by have h := Grows.empty (Value.int .i64) 2 wr.heap.size (wr.alloc (.cells #[.int .i64 x] 2)) (by simp); rw [World.size_alloc] at h; exact h)
        have HP0 : Hid (p + 1 ≤ wr.heap.size) := Lib.hid (cell_block HFT.out.cell)
        clear q hQ
        go_wp2_with fail
        go_at_call 152; refine (l00Has_any _ P x _ (SI.vl HVr.out) (by omega)).mono ?_; rintro e w1 ⟨rfl, rfl⟩
        rw [HQ.out]
        go_upto_region 21 with fail
        go_cut [14] (fun s wx => NextAt wr Q s wx)
        case first =>
          refine wp_region_held_drew (S := (fun w' => w'.cell? ⟨b, off + P.length, none⟩ = some (.slice (some ⟨ub, uo, none⟩) E.length (E.length + uc)) ∧ w'.cell? ⟨ub, uo + k, none⟩ = some (.int .i64 x))) (by kernel_rfl) (by first | exact ⟨cu, c2⟩ | (dsimp only; exact ⟨cu, c2⟩)) (fun hHeld => ?_)
          refine wpAnyH_take (i := 1) (v := ?_) rfl (by kernel_rfl) (by kernel_rfl) (by kernel_rfl) (fun _ _ _ h => h) (Or.inl ⟨by rfl, ?_⟩) hHeld ?_
          rotate_left
          · (intro w hSw; (try dsimp only at hSw); go_simp <;> first | done | with_reducible rfl)
          try simp only [Act.put, List.getElem_toArray, List.getElem_cons_succ, List.getElem_cons_zero, List.setIfInBounds_toArray, List.set_cons_zero, List.set_cons_succ]
          refine wpAnyH_take (i := 3) (v := ?_) rfl (by kernel_rfl) (by kernel_rfl) (by kernel_rfl) (fun _ _ _ h => h) (Or.inl ⟨by rfl, ?_⟩) hHeld ?_
          rotate_left
          · (intro w hSw; (try dsimp only at hSw); go_simp <;> first | done | with_reducible rfl)
          try simp only [Act.put, List.getElem_toArray, List.getElem_cons_succ, List.getElem_cons_zero, List.setIfInBounds_toArray, List.set_cons_zero, List.set_cons_succ]
          refine wpAnyH_take (i := 4) (v := ?_) rfl (by kernel_rfl) (by kernel_rfl) (by kernel_rfl) (fun _ _ _ h => h) (Or.inl ⟨by rfl, ?_⟩) hHeld ?_
          rotate_left
          · (intro w hSw; (try dsimp only at hSw); go_simp <;> first | done | with_reducible rfl)
          try simp only [Act.put, List.getElem_toArray, List.getElem_cons_succ, List.getElem_cons_zero, List.setIfInBounds_toArray, List.set_cons_zero, List.set_cons_succ]
          refine wpAnyH_take (i := 7) (v := ?_) rfl (by kernel_rfl) (by kernel_rfl) (by kernel_rfl) (fun _ _ _ h => h) (Or.inl ⟨by rfl, ?_⟩) hHeld ?_
          rotate_left
          · (intro w hSw; (try dsimp only at hSw); go_simp <;> first | done | with_reducible rfl)
          try simp only [Act.put, List.getElem_toArray, List.getElem_cons_succ, List.getElem_cons_zero, List.setIfInBounds_toArray, List.set_cons_zero, List.set_cons_succ]
          refine wpAnyH_take (i := 5) (v := ?_) rfl (by kernel_rfl) (by kernel_rfl) (by kernel_rfl) (fun _ _ _ h => h) (Or.inl ⟨by rfl, ?_⟩) hHeld ?_
          rotate_left
          · (intro w hSw; (try dsimp only at hSw); go_simp <;> first | done | with_reducible rfl)
          try simp only [Act.put, List.getElem_toArray, List.getElem_cons_succ, List.getElem_cons_zero, List.setIfInBounds_toArray, List.set_cons_zero, List.set_cons_succ]
          refine wpAnyH_take (i := 6) (v := ?_) rfl (by kernel_rfl) (by kernel_rfl) (by kernel_rfl) (fun _ _ _ h => h) (Or.inl ⟨by rfl, ?_⟩) hHeld ?_
          rotate_left
          · (intro w hSw; (try dsimp only at hSw); go_simp <;> first | done | with_reducible rfl)
          try simp only [Act.put, List.getElem_toArray, List.getElem_cons_succ, List.getElem_cons_zero, List.setIfInBounds_toArray, List.set_cons_zero, List.set_cons_succ]
          refine wpAnyH_take (i := 8) (v := ?_) rfl (by kernel_rfl) (by kernel_rfl) (by kernel_rfl) (fun _ _ _ h => h) (Or.inl ⟨by rfl, ?_⟩) hHeld ?_
          rotate_left
          · (intro w hSw; (try dsimp only at hSw); go_simp <;> first | done | with_reducible rfl)
          try simp only [Act.put, List.getElem_toArray, List.getElem_cons_succ, List.getElem_cons_zero, List.setIfInBounds_toArray, List.set_cons_zero, List.set_cons_succ]
          refine wpAnyH_take (i := 9) (v := ?_) rfl (by kernel_rfl) (by kernel_rfl) (by kernel_rfl) (fun _ _ _ h => h) (Or.inl ⟨by rfl, ?_⟩) hHeld ?_
          rotate_left
          · (intro w hSw; (try dsimp only at hSw); go_simp <;> first | done | with_reducible rfl)
          try simp only [Act.put, List.getElem_toArray, List.getElem_cons_succ, List.getElem_cons_zero, List.setIfInBounds_toArray, List.set_cons_zero, List.set_cons_succ]
          refine wpAnyH_ready (rs := [0, 10]) (by kernel_rfl) (by simp) (AllReadyH.cons rfl (fun K hK => ?_) (AllReadyH.cons rfl (fun K hK => ?_) AllReadyH.nil))
          · go_simp
            refine hK.out _ _ (by first | exact HKB.out _ ((below_drewN (Below.refl wr.heap.size wr) 1).alloc (Nat.le_refl _) _) | (dsimp only; exact HKB.out _ ((below_drewN (Below.refl wr.heap.size wr) 1).alloc (Nat.le_refl _) _))) (fun hHeld2 => ?_)
            clear hK K hHeld
            rename _ => hHeld
            try simp only [Act.put, List.getElem_toArray, List.getElem_cons_zero, List.setIfInBounds_toArray, List.set_cons_zero, List.set_cons_succ]
            refine wpAnyH_ready (rs := [2, 10]) (by kernel_rfl) (by simp) (AllReadyH.cons rfl (fun K hK => ?_) (AllReadyH.cons rfl (fun K hK => ?_) AllReadyH.nil))
            · refine step_all (by rfl) _ _ rfl wr.heap.size _ rfl (Grows.empty (Value.int .i64) _ _ (wr.drewN 1) (Nat.le_refl _)) P ad cap rfl (HL.out _ (((below_drewN (Below.refl wr.heap.size wr) 1).alloc (Nat.le_refl _) _))) hpl8 (((below_drewN (Below.refl wr.heap.size wr) 1).alloc (Nat.le_refl _) _)).size ?_
              intro v1 w1 hg1 hgr1
              have HB1 : Hid (Below wr.heap.size wr w1) := Lib.hid ((((below_drewN (Below.refl wr.heap.size wr) 1).alloc (Nat.le_refl _) _)).grown hgr1 (((below_drewN (Below.refl wr.heap.size wr) 1).alloc (Nat.le_refl _) _)).size (fun k hk => by injection hk with hk; subst hk; simp))
              have HN1 := Lib.hid hg1
              have HBK1 : Hid (∀ k, v1.ownBlock = some k → wr.heap.size ≤ k) := Lib.hid (fun k hk => hg1.block k hk)
              clear hg1 hgr1
              refine hK.out _ _ (by first | exact HKB.out _ HB1.out | (dsimp only; exact HKB.out _ HB1.out)) (fun hHeld2 => ?_)
              clear hK K hHeld
              rename _ => hHeld
              try simp only [Act.put, List.getElem_toArray, List.getElem_cons_succ, List.getElem_cons_zero, List.setIfInBounds_toArray, List.set_cons_zero, List.set_cons_succ]
              refine wpAnyH_ready (rs := [10]) (by kernel_rfl) (by simp) (AllReadyH.cons rfl (fun K hK => ?_) AllReadyH.nil)
              go_simp
              refine hK.out _ _ (by first | exact HKB.out _ (HB1.out.alloc HB1.out.size _) | (dsimp only; exact HKB.out _ (HB1.out.alloc HB1.out.size _))) (fun hHeld2 => ?_)
              clear hK K hHeld
              rename _ => hHeld
              try simp only [Act.put, List.getElem_toArray, List.getElem_cons_succ, List.getElem_cons_zero, List.setIfInBounds_toArray, List.set_cons_zero, List.set_cons_succ]
              refine wpAnyH_ready (rs := [11]) (by kernel_rfl) (by simp) (AllReadyH.cons rfl (fun K hK => ?_) AllReadyH.nil)
              refine step_push (by rfl) _ _ rfl wr.heap.size _ P rfl (Grows.below HN1.out (below_alloc w1 _) (Nat.le_refl _)) hpl8 ((HB1.out.alloc HB1.out.size _).size) _ _ x rfl (World.cell?_alloc_new _ _ _ _) ?_
              intro v2 w2 hpu
              have hb2 : Below wr.heap.size wr w2 := (HB1.out.alloc HB1.out.size _).trans (hpu.went.below (HB1.out.alloc HB1.out.size _).size (fun _ h => h.elim) HBK1.out)
              refine hK.out _ _ (by first | exact HKB.out _ hb2 | (dsimp only; exact HKB.out _ hb2)) (fun hHeld2 => ?_)
              clear hK K hHeld
              rename _ => hHeld
              try simp only [Act.put, List.getElem_toArray, List.getElem_cons_succ, List.getElem_cons_zero, List.setIfInBounds_toArray, List.set_cons_zero, List.set_cons_succ]
              refine wpAnyH_take (i := 12) (v := ?_) rfl (by kernel_rfl) (by kernel_rfl) (by kernel_rfl) (fun _ _ _ h => h) (Or.inl ⟨by rfl, ?_⟩) hHeld ?_
              rotate_left
              · (intro w hSw; (try dsimp only at hSw); go_simp <;> first | done | with_reducible rfl)
              try simp only [Act.put, List.getElem_toArray, List.getElem_cons_succ, List.getElem_cons_zero, List.setIfInBounds_toArray, List.set_cons_zero, List.set_cons_succ]
              refine wpAnyH_done (by kernel_rfl) ?_ _
              have HB2 : Hid (Below wr.heap.size wr w2) := Lib.hid hb2
              have HN2 : Hid (Grows (Value.int .i64) 2 wr.heap.size v2 Q w2) := Lib.hid (HQE.out.symm ▸ hpu.grows)
              clear hpu hHeld
              go_wp2_with fail
              go_meet
              exact ⟨HB2.out, HN2.out⟩
            · go_simp
              refine hK.out _ _ (by first | exact HKB.out _ (((below_drewN (Below.refl wr.heap.size wr) 1).alloc (Nat.le_refl _) _).alloc ((below_drewN (Below.refl wr.heap.size wr) 1).alloc (Nat.le_refl _) _).size _) | (dsimp only; exact HKB.out _ (((below_drewN (Below.refl wr.heap.size wr) 1).alloc (Nat.le_refl _) _).alloc ((below_drewN (Below.refl wr.heap.size wr) 1).alloc (Nat.le_refl _) _).size _))) (fun hHeld2 => ?_)
              clear hK K hHeld
              rename _ => hHeld
              try simp only [Act.put, List.getElem_toArray, List.getElem_cons_succ, List.getElem_cons_zero, List.setIfInBounds_toArray, List.set_cons_zero, List.set_cons_succ]
              refine wpAnyH_ready (rs := [2]) (by kernel_rfl) (by simp) (AllReadyH.cons rfl (fun K hK => ?_) AllReadyH.nil)
              refine step_all (by rfl) _ _ rfl wr.heap.size _ rfl (Grows.below (Grows.empty (Value.int .i64) _ _ (wr.drewN 1) (Nat.le_refl _)) (below_alloc _ _) (Nat.le_refl _)) P ad cap rfl (HL.out _ ((((below_drewN (Below.refl wr.heap.size wr) 1).alloc (Nat.le_refl _) _).alloc ((below_drewN (Below.refl wr.heap.size wr) 1).alloc (Nat.le_refl _) _).size _))) hpl8 ((((below_drewN (Below.refl wr.heap.size wr) 1).alloc (Nat.le_refl _) _).alloc ((below_drewN (Below.refl wr.heap.size wr) 1).alloc (Nat.le_refl _) _).size _)).size ?_
              intro v1 w1 hg1 hgr1
              have HB1 : Hid (Below wr.heap.size wr w1) := Lib.hid (((((below_drewN (Below.refl wr.heap.size wr) 1).alloc (Nat.le_refl _) _).alloc ((below_drewN (Below.refl wr.heap.size wr) 1).alloc (Nat.le_refl _) _).size _)).grown hgr1 ((((below_drewN (Below.refl wr.heap.size wr) 1).alloc (Nat.le_refl _) _).alloc ((below_drewN (Below.refl wr.heap.size wr) 1).alloc (Nat.le_refl _) _).size _)).size (fun k hk => by injection hk with hk; subst hk; simp))
              have HN1 := Lib.hid hg1
              have HBK1 : Hid (∀ k, v1.ownBlock = some k → wr.heap.size ≤ k) := Lib.hid (fun k hk => hg1.block k hk)
              have CX1 := Lib.hid (hgr1.cell (a := ⟨wr.heap.size + 1, 0, none⟩) (by have h := World.cell?_alloc_new ((wr.drewN 1).alloc (.cells #[] 2)) #[.int .i64 x] 2 0; rw [World.size_alloc] at h; exact h) (by intro e; injection e with e; revert e; simp))
              clear hg1 hgr1
              refine hK.out _ _ (by first | exact HKB.out _ HB1.out | (dsimp only; exact HKB.out _ HB1.out)) (fun hHeld2 => ?_)
              clear hK K hHeld
              rename _ => hHeld
              try simp only [Act.put, List.getElem_toArray, List.getElem_cons_succ, List.getElem_cons_zero, List.setIfInBounds_toArray, List.set_cons_zero, List.set_cons_succ]
              refine wpAnyH_ready (rs := [11]) (by kernel_rfl) (by simp) (AllReadyH.cons rfl (fun K hK => ?_) AllReadyH.nil)
              refine step_push (by rfl) _ _ rfl wr.heap.size _ P rfl (HN1.out) hpl8 (HB1.out.size) _ _ x rfl (CX1.out) ?_
              intro v2 w2 hpu
              have hb2 : Below wr.heap.size wr w2 := HB1.out.trans (hpu.went.below HB1.out.size (fun _ h => h.elim) HBK1.out)
              refine hK.out _ _ (by first | exact HKB.out _ hb2 | (dsimp only; exact HKB.out _ hb2)) (fun hHeld2 => ?_)
              clear hK K hHeld
              rename _ => hHeld
              try simp only [Act.put, List.getElem_toArray, List.getElem_cons_succ, List.getElem_cons_zero, List.setIfInBounds_toArray, List.set_cons_zero, List.set_cons_succ]
              refine wpAnyH_take (i := 12) (v := ?_) rfl (by kernel_rfl) (by kernel_rfl) (by kernel_rfl) (fun _ _ _ h => h) (Or.inl ⟨by rfl, ?_⟩) hHeld ?_
              rotate_left
              · (intro w hSw; (try dsimp only at hSw); go_simp <;> first | done | with_reducible rfl)
              try simp only [Act.put, List.getElem_toArray, List.getElem_cons_succ, List.getElem_cons_zero, List.setIfInBounds_toArray, List.set_cons_zero, List.set_cons_succ]
              refine wpAnyH_done (by kernel_rfl) ?_ _
              have HB2 : Hid (Below wr.heap.size wr w2) := Lib.hid hb2
              have HN2 : Hid (Grows (Value.int .i64) 2 wr.heap.size v2 Q w2) := Lib.hid (HQE.out.symm ▸ hpu.grows)
              clear hpu hHeld
              go_wp2_with fail
              go_meet
              exact ⟨HB2.out, HN2.out⟩
          · go_simp
            refine hK.out _ _ (by first | exact HKB.out _ ((below_drewN (Below.refl wr.heap.size wr) 1).alloc (Nat.le_refl _) _) | (dsimp only; exact HKB.out _ ((below_drewN (Below.refl wr.heap.size wr) 1).alloc (Nat.le_refl _) _))) (fun hHeld2 => ?_)
            clear hK K hHeld
            rename _ => hHeld
            try simp only [Act.put, List.getElem_toArray, List.getElem_cons_succ, List.getElem_cons_zero, List.setIfInBounds_toArray, List.set_cons_zero, List.set_cons_succ]
            refine wpAnyH_ready (rs := [0]) (by kernel_rfl) (by simp) (AllReadyH.cons rfl (fun K hK => ?_) AllReadyH.nil)
            go_simp
            refine hK.out _ _ (by first | exact HKB.out _ (((below_drewN (Below.refl wr.heap.size wr) 1).alloc (Nat.le_refl _) _).alloc ((below_drewN (Below.refl wr.heap.size wr) 1).alloc (Nat.le_refl _) _).size _) | (dsimp only; exact HKB.out _ (((below_drewN (Below.refl wr.heap.size wr) 1).alloc (Nat.le_refl _) _).alloc ((below_drewN (Below.refl wr.heap.size wr) 1).alloc (Nat.le_refl _) _).size _))) (fun hHeld2 => ?_)
            clear hK K hHeld
            rename _ => hHeld
            try simp only [Act.put, List.getElem_toArray, List.getElem_cons_zero, List.setIfInBounds_toArray, List.set_cons_zero, List.set_cons_succ]
            refine wpAnyH_ready (rs := [2]) (by kernel_rfl) (by simp) (AllReadyH.cons rfl (fun K hK => ?_) AllReadyH.nil)
            refine step_all (by rfl) _ _ rfl wr.heap.size _ rfl (HGB.out.drewN 1) P ad cap rfl (HL.out _ ((((below_drewN (Below.refl wr.heap.size wr) 1).alloc (Nat.le_refl _) _).alloc ((below_drewN (Below.refl wr.heap.size wr) 1).alloc (Nat.le_refl _) _).size _))) hpl8 ((((below_drewN (Below.refl wr.heap.size wr) 1).alloc (Nat.le_refl _) _).alloc ((below_drewN (Below.refl wr.heap.size wr) 1).alloc (Nat.le_refl _) _).size _)).size ?_
            intro v1 w1 hg1 hgr1
            have HB1 : Hid (Below wr.heap.size wr w1) := Lib.hid (((((below_drewN (Below.refl wr.heap.size wr) 1).alloc (Nat.le_refl _) _).alloc ((below_drewN (Below.refl wr.heap.size wr) 1).alloc (Nat.le_refl _) _).size _)).grown hgr1 ((((below_drewN (Below.refl wr.heap.size wr) 1).alloc (Nat.le_refl _) _).alloc ((below_drewN (Below.refl wr.heap.size wr) 1).alloc (Nat.le_refl _) _).size _)).size (fun k hk => by injection hk with hk; subst hk; simp))
            have HN1 := Lib.hid hg1
            have HBK1 : Hid (∀ k, v1.ownBlock = some k → wr.heap.size ≤ k) := Lib.hid (fun k hk => hg1.block k hk)
            have CX1 := Lib.hid (hgr1.cell (a := ⟨wr.heap.size, 0, none⟩) (keep_cell (World.cell?_alloc_new (wr.drewN 1) #[.int .i64 x] 2 0) (below_alloc _ _) (by simp)) (by intro e; injection e with e; revert e; simp))
            clear hg1 hgr1
            refine hK.out _ _ (by first | exact HKB.out _ HB1.out | (dsimp only; exact HKB.out _ HB1.out)) (fun hHeld2 => ?_)
            clear hK K hHeld
            rename _ => hHeld
            try simp only [Act.put, List.getElem_toArray, List.getElem_cons_succ, List.getElem_cons_zero, List.setIfInBounds_toArray, List.set_cons_zero, List.set_cons_succ]
            refine wpAnyH_ready (rs := [11]) (by kernel_rfl) (by simp) (AllReadyH.cons rfl (fun K hK => ?_) AllReadyH.nil)
            refine step_push (by rfl) _ _ rfl wr.heap.size _ P rfl (HN1.out) hpl8 (HB1.out.size) _ _ x rfl (CX1.out) ?_
            intro v2 w2 hpu
            have hb2 : Below wr.heap.size wr w2 := HB1.out.trans (hpu.went.below HB1.out.size (fun _ h => h.elim) HBK1.out)
            refine hK.out _ _ (by first | exact HKB.out _ hb2 | (dsimp only; exact HKB.out _ hb2)) (fun hHeld2 => ?_)
            clear hK K hHeld
            rename _ => hHeld
            try simp only [Act.put, List.getElem_toArray, List.getElem_cons_succ, List.getElem_cons_zero, List.setIfInBounds_toArray, List.set_cons_zero, List.set_cons_succ]
            refine wpAnyH_take (i := 12) (v := ?_) rfl (by kernel_rfl) (by kernel_rfl) (by kernel_rfl) (fun _ _ _ h => h) (Or.inl ⟨by rfl, ?_⟩) hHeld ?_
            rotate_left
            · (intro w hSw; (try dsimp only at hSw); go_simp <;> first | done | with_reducible rfl)
            try simp only [Act.put, List.getElem_toArray, List.getElem_cons_succ, List.getElem_cons_zero, List.setIfInBounds_toArray, List.set_cons_zero, List.set_cons_succ]
            refine wpAnyH_done (by kernel_rfl) ?_ _
            have HB2 : Hid (Below wr.heap.size wr w2) := Lib.hid hb2
            have HN2 : Hid (Grows (Value.int .i64) 2 wr.heap.size v2 Q w2) := Lib.hid (HQE.out.symm ▸ hpu.grows)
            clear hpu hHeld
            go_wp2_with fail
            go_meet
            exact ⟨HB2.out, HN2.out⟩
        case rest =>
          obtain ⟨hcb, hcg⟩ := hcut
          have HCB := Lib.hid hcb
          have hII : II (p + 1) wc.heap.size wc u14 Q := SI.wide hcg.si HP0.out (Nat.le_refl _) (Nat.le_refl _)
          have HII := Lib.hid hII
          obtain ⟨-, ⟨hz, -⟩ | ⟨qb, qo, qc, hse, -⟩⟩ := hII
          · exact absurd (by rw [hz]; rfl : Q.length = 0) (by have := HQL.out; omega)
          subst hse
          clear hcb hcg
          go_wp2_with fail
          go_at_call 105; refine (IH.out (seenX Ds M mk) Q _ _ (hdo mk F) gv wc (HB0r.out.trans (HCB.out.mono (Nat.le_trans HLO.out HBT.out.size))) (Nat.le_trans (Nat.le_trans HLO.out HBT.out.size) HCB.out.size) (by have := HQL.out; have := HPF.out; omega) HII.out (HFT.out.below HCB.out) (HST.out.below HCB.out)).mono ?_; rintro e w3 ⟨gv', rfl, ht3, hf3, hs3⟩
          have HT3 : Hid (Turned lo (p + 1) w w3) := Lib.hid ((HBT.out.trans (Turned.of_below HCB.out (Nat.le_refl _))).trans ht3)
          have HF3 : Hid (Fst p gv' (hdo (mk ++ exts nwB Ds f Q) F) w3) := Lib.hid (by
            rw [hdo_app (fun C hC e => by
              have := HXL.out C (by rw [← HMX.out]; exact List.mem_append.2 (Or.inl hC))
              rw [e] at this
              simp at this
              omega)]
            exact hf3)
          have HS3 : Hid (Seen lo p B G Ds (seenX Ds M (mk ++ exts nwB Ds f Q)) w3) := Lib.hid (by rw [seenX_app]; exact hs3)
          have HCA : Hid (cntW (mk ++ exts nwB Ds f Q) = wrap64 (zz + cntW (exts nwB Ds f Q))) := Lib.hid (by rw [cntW_app, HZZ.out])
          generalize hrr : cntW (exts nwB Ds f Q) = r at HCA
          clear ht3 hf3 hs3 hrr
          go_wp2_with fail
          go_roundg (gk - 1)
          case measure => omega
          case rel => exact ⟨k + 1, mk ++ exts nwB Ds f Q, gv', by omega, by omega, by go_num, by rw [HCA.out], HN.out, HT3.out, HF3.out, HS3.out⟩
    · obtain rfl : k = E.length := by omega
      have HE : Hid (mk = X) := Lib.hid (by rw [← HMX.out, extsL_end (Nat.le_refl _), List.append_nil])
      go_wp2_with fail
      go_ret
      exact ⟨gv, ret_int (by rw [HZZ.out, HE.out]), HBT.out, HE.out ▸ HFT.out, HE.out ▸ HST.out⟩
theorem differM_any (w0 : World) (lo p B sc : Nat) (G : Nat → Nat) (Ds : List (List Int)) (dv : Value) (ok : DomsOk Ds) (hdv : LV w0 dv Ds) (hlo : w0.heap.size ≤ lo) : ∀ (f : Nat) (M : Nat → Nat → Bool) (Q : List Int) (bd : Addr) (cp : Nat) (H : List Int) (gv : Value) (W : World), Below lo w0 W → lo ≤ W.heap.size → Q.length + f = Ds.length →
      II (p + 1) W.heap.size W (.slice (some bd) Q.length cp) Q → Fst p gv H W → Seen lo p B G Ds M W →
      Calls Try.prog 105 #[dv, .slice (some bd) Q.length cp, .pointer (some ⟨p, 0, none⟩), .slice (some ⟨B, 0, none⟩) Ds.length sc] W (DDone lo p B G Ds M (exts nwB Ds f Q) H W)
  | 0, M, Q, bd, cp, H, gv, W, h1, h2, h3, h4, h5, h6 => differM_end w0 lo p B sc G Ds dv M Q bd cp H gv W ok hdv hlo h1 h2 h3 h4 h5 h6
  | f + 1, M, Q, bd, cp, H, gv, W, h1, h2, h3, h4, h5, h6 => differM_step w0 lo p B sc f G Ds dv M Q bd cp H gv W ok hdv hlo h1 h2 h3 h4 h5 h6 (differM_any w0 lo p B sc G Ds dv ok hdv hlo f)
end Go.Proofs.Ytiobbclciboggaa
