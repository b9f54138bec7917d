/- What IsProof needs: IpS UnP UnJ UnQ IpI. -/
import Derived.Test.YtnakpfbeeekmiaaIsProofE
import Derived.Test.YtnakpfbeeekmiaaIsProofD
import Derived.Test.YtnakpfbeeekmiaaIsProofC
import Derived.Lib.Builder
import Derived.ScopeJumps
import Derived.Deep.RegionLawGrows
import Derived.Deep.RegionHeld3
import Derived.Deep.AppendLies
import Derived.Deep.QuietTactic
import Derived.BigQuiet
import Derived.StillTailTactics
import Derived.WalkMore
/- Proofs that are checked: the model, for all arguments. -/
namespace Go.Proofs.Ytnakpfbeeekmiaa
open Go.RowKit Go.ChangeShapes Go.WideShapes
set_option maxRecDepth 100000

theorem lv_cellS {w : World} {v : Value} {L : List (List Int)} {i : Nat} (h : LV w v L) (hi : i < L.length) : ∃ b off cap ad n c, v = .slice (some ⟨b, off, none⟩) L.length (L.length + cap) ∧ w.cell? ⟨b, off + i, none⟩ = some (.slice ad n c) ∧ n = (L.getD i []).length ∧ IL w (.slice ad n c) (L.getD i []) := by
  rcases h with ⟨rfl, ao, cap, rfl⟩ | ⟨b, off, cap, U, rfl, h2, h3, h4⟩
  · simp at hi
  · obtain ⟨h5, h6⟩ := h4 i hi
    obtain ⟨ad, c, e⟩ := h6.long
    rw [e] at h5 h6
    exact ⟨b, off, cap, ad, _, c, rfl, h5, rfl, h6⟩
theorem lv_cellsS {w : World} {v : Value} {L : List (List Int)} (h : LV w v L) (h0 : 0 < L.length) : ∃ b off cap, v = .slice (some ⟨b, off, none⟩) L.length (L.length + cap) ∧ ∀ i, i < L.length → ∃ ad n c, w.cell? ⟨b, off + i, none⟩ = some (.slice ad n c) ∧ n = (L.getD i []).length ∧ IL w (.slice ad n c) (L.getD i []) := by
  rcases h with ⟨rfl, ao, cap, rfl⟩ | ⟨b, off, cap, U, rfl, h2, h3, h4⟩
  · simp at h0
  · refine ⟨b, off, cap, rfl, fun i hi => ?_⟩
    obtain ⟨h5, h6⟩ := h4 i hi
    obtain ⟨ad, c, e⟩ := h6.long
    rw [e] at h5 h6
    exact ⟨ad, _, c, h5, rfl, h6⟩
theorem allCl_atS {n : Int} {C : List (List Int)} (h : allCl n C = true) {k : Nat} (hk : k < C.length) : clB n (C.getD k []) = true := rngAt h hk
def WrongS (ws : Int) (w : World) (e : Ending) (w' : World) : Prop := ∃ ka kn kc ba bn bc, e = .returned (.agg #[.slice ka kn kc, .slice ba bn bc, .int .i64 ws]) ∧ Below w.heap.size w w'
theorem l05Units_wrong (n : Int) (v : Value) (C : List (List Int)) (u : Value) (G : List Int) (w : World) (hv : LV w v C) (hu : IL w u G) (n1 : 1 ≤ n) (n2 : n ≤ 10) (hC : ∀ k, k < C.length → ClOk n (C.getD k [])) (few : C.length ≤ 1000) (hG : LitsOk n G) :
    Calls Try.prog 49 #[v, u] w (WrongS (uK C 11 G (List.replicate G.length (-1))).2.2 w) :=
  (l05Units_any n v C u G w hv hu n1 n2 hC few hG).mono fun e w' ⟨kv, bv, he, g6, g7, b6⟩ => by
    obtain ⟨ka, kc, rfl⟩ := SI.len (d := (0 : Int)) (Grows.si g6)
    obtain ⟨ba, bc, rfl⟩ := SI.len (d := (0 : Int)) (Grows.si g7)
    exact ⟨ka, _, kc, ba, _, bc, he, b6⟩
/-- The clauses, and the lines that have been checked: a list that grows. -/
def UpTo (C P : List (List Int)) (k : Nat) (s : Value) (w wr : World) : Prop :=
  ∃ L : List Value, Grows (id : Value → Value) 25 w.heap.size s L wr ∧ L.length = C.length + k ∧ (∀ j, j < L.length → IL w (L.getD j vnil) ((C ++ P.take k).getD j [])) ∧ Below w.heap.size w wr
theorem UpTo.lv {C P : List (List Int)} {k : Nat} {s : Value} {w wr : World} (h : UpTo C P k s w wr) (hk : k ≤ P.length) : LV wr s (C ++ P.take k) := by
  obtain ⟨L, h1, h2, h3, h4⟩ := h
  have hl : L.length = (C ++ P.take k).length := by rw [List.length_append, List.length_take]; omega
  exact lv_of_si (Grows.si (d := vnil) h1) hl fun i hi => (h3 i (by omega)).below h4 (Nat.le_refl _)
theorem UpTo.keep {C P : List (List Int)} {k : Nat} {s : Value} {w wr w2 : World} (h : UpTo C P k s w wr) (b : Below wr.heap.size wr w2) : UpTo C P k s w w2 := by
  obtain ⟨L, h1, h2, h3, h4⟩ := h
  exact ⟨L, h1.below b (Nat.le_refl _), h2, h3, h4.trans (b.mono h4.size)⟩
theorem UpTo.long {C P : List (List Int)} {k : Nat} {s : Value} {w wr : World} (h : UpTo C P k s w wr) : ∃ ao cap, s = .slice ao (C.length + k) cap := by
  obtain ⟨L, h1, h2, h3, h4⟩ := h
  obtain ⟨ao, cap, e⟩ := SI.len (d := vnil) (Grows.si h1)
  exact ⟨ao, cap, by rw [e, h2]⟩
theorem UpTo.next {C P : List (List Int)} {k : Nat} {s v' : Value} {u : Value} {w wr w0 w1 : World} {L : List Value} (h1 : Grows (id : Value → Value) 25 w.heap.size s L w0) (h2 : L.length = C.length + k) (h3 : ∀ j, j < L.length → IL w (L.getD j vnil) ((C ++ P.take k).getD j [])) (h4 : Below w.heap.size w wr) (b : Below wr.heap.size wr w0) (hk : k < P.length) (hu : IL w u (P.getD k []))
    (hown : w1.ownsRow w.heap.size 25 1 v' (L.length + 1) (L.map (id : Value → Value) ++ [u])) (hgr : w0.grownBy w1 s.ownBlock) : UpTo C P (k + 1) v' w w1 := by
  refine ⟨L ++ [u], Grows.more (news := [u]) rfl (by rw [List.map_id]; rw [List.map_id] at hown ⊢; exact hown), by simp; omega, fun j hj => ?_, ?_⟩
  · rw [List.length_append, List.length_singleton] at hj
    have ht : P.take (k + 1) = P.take k ++ [P.getD k []] := by rw [List.take_succ_eq_append_getElem hk]; simp [List.getD, hk]
    rw [ht, ← List.append_assoc]
    have hl : (C ++ P.take k).length = L.length := by rw [List.length_append, List.length_take]; omega
    by_cases q : j < L.length
    · have e1 : (L ++ [u]).getD j vnil = L.getD j vnil := by simp [List.getD, List.getElem?_append_left q]
      have e2 : (C ++ P.take k ++ [P.getD k []]).getD j [] = (C ++ P.take k).getD j [] := by rw [← hl] at q; simp only [List.getD, List.getElem?_append_left q]
      rw [e1, e2]; exact h3 j q
    · have ej : j = L.length := by omega
      subst ej
      have e1 : (L ++ [u]).getD L.length vnil = u := by simp [List.getD]
      have e2 : (C ++ P.take k ++ [P.getD k []]).getD L.length [] = P.getD k [] := by rw [← hl]; simp only [List.getD, List.getElem?_concat_length, Option.getD_some]
      rw [e1, e2]; exact hu
  · exact (h4.trans (b.mono h4.size)).grown hgr (Nat.le_trans h4.size b.size) (fun q hq => (World.ownsRow.lt h1 q hq).1)
theorem UpTo.start0 {C P : List (List Int)} {w w4 : World} (hC : C = []) (hb : Below w.heap.size w w4) : UpTo C P 0 (.slice (some ⟨w4.heap.size, 0, none⟩) 0 0) w (w4.alloc (.cells #[] 25)) :=
  ⟨[], Grows.empty _ _ _ _ hb.size, by rw [hC]; rfl, fun j hj => absurd hj (by simp), hb.trans ((below_alloc w4 _).mono hb.size)⟩
theorem UpTo.start1 {C P : List (List Int)} {U : Nat → Value} {v' : Value} {w w4 w1 : World} (hU : ∀ i, i < C.length → IL w (U i) (C.getD i [])) (hb : Below w.heap.size w w4)
    (hown : w1.ownsRow w.heap.size 25 1 v' (0 + (valsOf U C.length).length) (([] : List Value).map (id : Value → Value) ++ (valsOf U C.length).map (id : Value → Value))) (hgr : (w4.alloc (.cells #[] 25)).grownBy w1 (Value.slice (some ⟨w4.heap.size, 0, none⟩) 0 0).ownBlock) : UpTo C P 0 v' w w1 := by
  refine ⟨valsOf U C.length, Grows.more (Z := []) (news := valsOf U C.length) rfl hown, by rw [valsOf_len]; rfl, fun j hj => ?_, ?_⟩
  · rw [valsOf_len] at hj
    rw [valsOf_at hj, app_at hj]; exact hU j hj
  · refine (hb.trans ((below_alloc w4 _).mono hb.size)).grown hgr (by have := hb.size; simp; omega) (fun q hq => ?_)
    have : w4.heap.size = q := Option.some.inj hq
    rw [← this]; exact hb.size
set_option maxHeartbeats 8000000 in
theorem specIsProof_any (v : Value) (F : Fm) (u : Value) (P : List (List Int)) (w : World) (hv : FmV w v F) (hu : LV w u P) (o : OKFm F) (oP : OKL P) :
    Calls Try.prog 24 #[v, u] w (Says (ipB F P) w) := by
  obtain ⟨j0, hj, hy0, hy1, hy2⟩ := info_parts Try.infoL
  obtain ⟨s1, rfl, hl⟩ := hv
  have HL : Hid (∀ W, Below w.heap.size w W → LV W s1 F.cs) := Lib.hid fun W b => hl.below b (Nat.le_refl _)
  have HU : Hid (∀ W, Below w.heap.size w W → LV W u P) := Lib.hid fun W b => hu.below b (Nat.le_refl _)
  have HB1 : Hid (∀ A, Below w.heap.size w (w.alloc A)) := Lib.hid fun A => below_alloc w A
  have HX0 := Lib.hid (Box2.mk' w (.int .i64 F.letters) s1 29)
  have HAT : Hid (FmAt (w.alloc (.cells #[.int .i64 F.letters, s1] 29)) w.heap.size F) := Lib.hid ⟨s1, HX0.out, HL.out _ (HB1.out _)⟩
  have hPs : P.length ≤ 1048576 := by have := oP.size; unfold szL at this; omega
  have HSP := Lib.hid hl.split
  obtain ⟨ga, gc, rfl⟩ := hu.long
  obtain ⟨fa, fc, rfl⟩ := hl.long
  clear hl hu
  cases h1 : formB F with
  | false =>
    have HE := Lib.hid (ip_1 (P := P) h1)
    rw [HE.out]
    have H1 := Lib.hid h1
    clear h1
    go_enter Try.func24, Try.ntmps24
    go_wp2_with fail
    go_at_call 47; refine (l05Is_any w.heap.size F _ HAT.out o).mono ?_; rintro e w4 ⟨rfl, b4⟩
    rw [H1.out]
    have B4 := Lib.hid ((HB1.out _).trans (b4.mono (by simp)))
    clear b4
    go_wp2_with fail
    go_ret
    exact says rfl B4.out
  | true =>
    have H1 := Lib.hid h1
    have hF := formB_ok h1
    have n1 := hF.n1
    have n2 := hF.n2
    have HF := Lib.hid hF
    by_cases hp : 1 ≤ P.length ∧ P.length ≤ 128
    · have HP := Lib.hid hp
      obtain ⟨p1, p2⟩ := hp
      have g1 : ¬ P.length < 1 := by omega
      have g2 : ¬ 128 < P.length := by omega
      have g3 : ¬ (128 : Int) < (P.length : Int) := by omega
      have f1 : IntKind.i64.wrap ((P.length : Int) - 1) = (P.length : Int) - 1 := IntWalk.i64_in _ (by omega)
      have f2 : (1 : Int) ≤ (P.length : Int) := by omega
      have f3 : ((P.length : Int) - 1).toNat = P.length - 1 := by omega
      have f4 : (P.length : Int) - 1 < (P.length : Int) := by omega
      by_cases hla : (P.getD (P.length - 1) []).length = 0
      · have HE5 : Hid (∀ i, i < P.length → stepB F.cs P i = false → ipB F P = false) := Lib.hid fun i hi h => ip_5 hi h
        have HE6 : Hid (∀ i, i < P.length → clB F.letters (P.getD i []) = false → ipB F P = false) := Lib.hid fun i hi h => ip_6 hi h
        have HEY : Hid ((∀ j, j < P.length → clB F.letters (P.getD j []) = true ∧ stepB F.cs P j = true) → ipB F P = true) := Lib.hid fun h => ip_yes H1.out HP.out (allCl_yes fun j hj => (h j hj).1) (decide_eq_true hla) fun j hj => (h j hj).2
        have HLA : Hid (∀ cn, cn = (P.getD (P.length - 1) []).length → cn = 0) := Lib.hid fun cn h => h.trans hla
        have HPS : Hid (∀ k, (P.getD k []).length ≤ 1048576) := Lib.hid fun k => oP.short k
        obtain ⟨U0, hU0, hsp⟩ := HSP.out
        have HU0 := Lib.hid hU0
        have HPL : Hid (P.length = P.length) := Lib.hid rfl
        have hfew := HF.out.few
        clear h1 hF hU0 HSP hla
        obtain ⟨b, off, cap, e, hcs⟩ := lv_cellsS (HU.out w (Below.refl _ _)) (by omega)
        injection e with e1 _ e3
        subst e1
        have HCS : Hid (∀ W i, Below w.heap.size w W → i < P.length → ∃ ad n c, W.cell? ⟨b, off + i, none⟩ = some (.slice ad n c) ∧ n = (P.getD i []).length ∧ IL W (.slice ad n c) (P.getD i [])) := Lib.hid fun W i hb hi => by
          obtain ⟨ad, n, c, h1, h2, h3⟩ := hcs i hi
          exact ⟨ad, n, c, keep_cell h1 hb (cell_block h1), h2, h3.below hb (Nat.le_refl _)⟩
        clear e3 hcs
        have b1 : decide ((P.length : Int) < 1) = false := by simp; omega
        have b2 : decide ((128 : Int) < (P.length : Int)) = false := by simp; omega
        rcases hsp with ⟨he, cap0, hfv⟩ | ⟨ad0, cap0, hfv, hls, has⟩
        all_goals
          rw [hfv] at HX0 HAT HL ⊢
          have HFV := Lib.hid hfv
          try (have HCE := Lib.hid he)
          try (have HLS : Hid (∀ W, Below w.heap.size w W → ∀ j u, ((valsOf U0 F.cs.length).map (id : Value → Value))[j]? = some u → W.cell? (ad0.add j) = some u) := Lib.hid hls)
          try (have HAS := Lib.hid has)
          try (have hvl : (valsOf U0 F.cs.length).length ≤ 48 := by rw [valsOf_len]; exact hfew)
          clear hfv
          try clear he
          try clear hls has
          generalize hW1 : w.alloc _ = W1 at HX0 HAT
          have HBW : Hid (Below w.heap.size w W1 ∧ W1.heap.size = w.heap.size + 1) := Lib.hid (by rw [← hW1]; exact ⟨below_alloc _ _, by simp⟩)
          have HW1 := Lib.hid hW1
          have hw1 : W1.heap.size = w.heap.size + 1 := HBW.out.2
          have HBB : Hid (∀ W, Below W1.heap.size W1 W → Below w.heap.size w W) := Lib.hid fun W b => HBW.out.1.trans (b.mono HBW.out.1.size)
          have HU1 : Hid (∀ i, i < F.cs.length → IL W1 (U0 i) (F.cs.getD i [])) := Lib.hid fun i hi => (HU0.out i hi).below HBW.out.1 (Nat.le_refl _)
          clear hW1
          go_enter Try.func24, Try.ntmps24
          go_wp2_with fail
          rw [HW1.out]
          go_at_call 47; refine (l05Is_any w.heap.size F _ HAT.out o).mono ?_; rintro e w4 ⟨rfl, b4⟩
          rw [H1.out]
          have B4 := Lib.hid b4
          have X4 := Lib.hid (HX0.out.keep b4 (by omega))
          have hx4 := X4.out.lt
          have hw4 : W1.heap.size ≤ w4.heap.size := b4.size
          clear b4
          obtain ⟨x0, x1⟩ := X4.out
          have x1a : ∀ o, (w4.alloc o).cell? ⟨w.heap.size, 1, none⟩ = _ := fun o => keep_cell x1 (below_alloc w4 o) hx4
          obtain ⟨ad, cn, cc, cD, hcn, ID⟩ := HCS.out w4 (P.length - 1) (HBB.out _ B4.out) (by omega)
          obtain rfl : cn = 0 := HLA.out cn hcn
          generalize P.length - 1 = q at cD f3
          clear ID hcn
          go_wp2_with (first
            | (at_builtin; refine wpList_append_nilc rfl _ _ 22 rfl W1.heap.size 25 j0 1 cap0 Try.underlying22 hj _ _ _ rfl (Grows.empty (id : Value → Value) _ _ w4 hw4) rfl ?_; have U4 := Lib.hid (UpTo.start0 (P := P) HCE.out B4.out))
            | (at_builtin; refine wpList_append_own _ rfl _ _ 22 rfl W1.heap.size 25 j0 (.slice none 0 0) 1 24 Try.underlying22 hj hy0 hy1 hy2 rfl (by decide) _ _ _ rfl (Grows.empty (id : Value → Value) _ _ w4 hw4) ad0 (valsOf U0 F.cs.length).length cap0 ((valsOf U0 F.cs.length).map (id : Value → Value)) rfl (by simp) (HLS.out _ (HBB.out _ (B4.out.trans ((below_alloc w4 _).mono hw4)))) HAS.out (by simp; unfold maxLen; omega) (by simp; omega) (by simp; omega) ?_; intro v' w5 hown hgrow _; have U4 := Lib.hid (UpTo.start1 (P := P) HU1.out B4.out hown hgrow); clear hown hgrow))
          clear f3 f4 f1 f2 x0 x1 x1a cD b1 b2
          go_loopg [5, 36] P.length (fun gk s i wr => ∃ k : Nat, k ≤ P.length ∧ gk + k = P.length ∧ i = .int .i64 k ∧ (∀ j, j < k → clB F.letters (P.getD j []) = true ∧ stepB F.cs P j = true) ∧ UpTo F.cs P k s W1 wr)
          case atStart => exact ⟨0, Nat.zero_le _, by omega, rfl, fun j hj => by omega, U4.out⟩
          case round =>
            clear U4
            obtain ⟨k, hk, hgk, rfl, hb, hU⟩ := hrel
            have HBR := Lib.hid hb
            have HUT := Lib.hid hU
            obtain ⟨L, g1, l2, l3, l4⟩ := hU
            have HB := Lib.hid l4
            have HG := Lib.hid g1
            have HL3 := Lib.hid l3
            obtain ⟨sa, sc, rfl⟩ := SI.len (d := vnil) (Grows.si g1)
            have HL2 := Lib.hid l2
            have hszr : W1.heap.size ≤ wr.heap.size := l4.size
            have hxr : w.heap.size < wr.heap.size := by omega
            have hLl : L.length ≤ 176 := by omega
            clear hb g1 l2 l3 l4
            by_cases hlt : k < P.length
            · obtain ⟨ad, cn, cc, cD, hcn, ID⟩ := HCS.out wr k (HBB.out _ HB.out) hlt
              have ID1 : Hid (IL W1 (.slice ad cn cc) (P.getD k [])) := Lib.hid (by
                obtain ⟨ad', cn', cc', cD', hcn', ID'⟩ := HCS.out W1 k HBW.out.1 hlt
                have := keep_cell cD' HB.out (cell_block cD')
                rw [cD] at this
                injection this with this
                rw [this]; exact ID')
              have hbw := cell_block cD
              have hcs : cn ≤ 1048576 := by have := HPS.out k; omega
              obtain ⟨x0, x1⟩ := HX0.out.keep HB.out (by omega)
              have HX := Lib.hid (And.intro x0 cD)
              have CC := Lib.hid fun W (hb : Below wr.heap.size wr W) => l05Clause_any F.letters (.slice ad cn cc) (P.getD k []) W (ID.below hb (Nat.le_refl _)) (by rw [← hcn]; exact hcs)
              have HE6k := Lib.hid (HE6.out k hlt)
              have HE5k := Lib.hid (HE5.out k hlt)
              cases t : clB F.letters (P.getD k []) with
              | false =>
                have HE := Lib.hid (HE6k.out t)
                rw [t] at CC
                clear t ID x1 hcn
                go_wp2_with fail
                go_region_held3 (fun w' => w'.cell? ⟨w.heap.size, 0, none⟩ = some (.int .i64 F.letters) ∧ w'.cell? ⟨b, off + k, none⟩ = some (.slice ad cn cc)) (first | exact ⟨x0, cD⟩ | exact S9.out) (first
                  | (go_at_call 54; refine (CC.out _ (by first | exact Below.refl _ _ | exact below_drewN (Below.refl _ _) _ | exact (Below.refl _ _).drew)).mono ?_; rintro e w9 ⟨rfl, b9⟩; have B9 : Hid (Below wr.heap.size wr w9) := Lib.hid ((below_drewN (Below.refl wr.heap.size wr) 1).trans b9); have S9 : Hid (_ ∧ _) := Lib.hid ⟨keep_cell HX.out.1 B9.out hxr, keep_cell HX.out.2 B9.out hbw⟩; clear b9))
                all_goals
                  go_wp2_with fail
                  go_ret
                  exact says HE.out.symm (HBB.out _ (HB.out.trans (B9.out.mono hszr)))
              | true =>
                have HCK := Lib.hid t
                have hcl := clB_ok t
                have hcl10 : (P.getD k []).length ≤ 10 := by have := hcl.len; omega
                have RO := Lib.hid fun W (hb : Below wr.heap.size wr W) => l05Opposites_any (.slice ad cn cc) (P.getD k []) W (ID.below hb (Nat.le_refl _)) (by omega) (cl_rng' hcl)
                have RU := Lib.hid fun W v9 (hb : Below wr.heap.size wr W) (h9 : IL W v9 (opp (P.getD k []))) => l05Units_wrong F.letters (.slice sa L.length sc) (F.cs ++ P.take k) v9 (opp (P.getD k [])) W ((HUT.out.lv hk).below hb (Nat.le_refl _)) h9 n1 n2 (app_cl hk HF.out.cl fun j hj => clB_ok (HBR.out j hj).1) (by rw [List.length_append, List.length_take]; omega) (opp_lits hcl)
                have HST : Hid (decide (0 ≤ (uK (F.cs ++ P.take k) 11 (opp (P.getD k [])) (List.replicate (opp (P.getD k [])).length (-1))).2.2) = stepB F.cs P k) := Lib.hid rfl
                obtain ⟨ws, hws⟩ : ∃ ws, (uK (F.cs ++ P.take k) 11 (opp (P.getD k [])) (List.replicate (opp (P.getD k [])).length (-1))).2.2 = ws := ⟨_, rfl⟩
                rw [hws] at RU HST
                generalize opp (P.getD k []) = G at RO RU
                rw [t] at CC
                clear t ID x1 hcn hcl hcl10 hws
                go_wp2_with fail
                go_region_held3 (fun w' => w'.cell? ⟨w.heap.size, 0, none⟩ = some (.int .i64 F.letters) ∧ w'.cell? ⟨b, off + k, none⟩ = some (.slice ad cn cc)) (first | exact ⟨x0, cD⟩ | exact S9.out) (first
                  | (go_at_call 54; refine (CC.out _ (by first | exact Below.refl _ _ | exact below_drewN (Below.refl _ _) _ | exact (Below.refl _ _).drew)).mono ?_; rintro e w9 ⟨rfl, b9⟩; have B9 : Hid (Below wr.heap.size wr w9) := Lib.hid ((below_drewN (Below.refl wr.heap.size wr) 1).trans b9); have S9 : Hid (_ ∧ _) := Lib.hid ⟨keep_cell HX.out.1 B9.out hxr, keep_cell HX.out.2 B9.out hbw⟩; clear b9))
                clear x0 cD
                all_goals
                  have cD := S9.out.2
                  go_wp2_with fail
                  go_at_call 55; refine (RO.out _ B9.out).mono ?_; rintro e w10 ⟨v10, rfl, g10, b10⟩
                  have B10 : Hid (Below wr.heap.size wr w10) := Lib.hid (B9.out.trans (b10.mono B9.out.size))
                  have I10 := Lib.hid (SI.vl (d := (0 : Int)) (Grows.si g10))
                  clear b10 g10 cD
                  go_wp2_with fail
                  go_at_call 49; refine (RU.out _ _ B10.out I10.out).mono ?_; rintro e w11 ⟨ka, kn, kc, ba, bn, bc, rfl, b11⟩
                  have B11 : Hid (Below wr.heap.size wr w11) := Lib.hid (B10.out.trans (b11.mono B10.out.size))
                  have HN12 := Box3.mk' w11 (.slice ka kn kc) (.slice ba bn bc) (.int .i64 ws) 63
                  have HB12 := below_alloc w11 (.cells #[.slice ka kn kc, .slice ba bn bc, .int .i64 ws] 63)
                  clear b11
                  go_upto_region 10 with (fail)
                  generalize hw12 : w11.alloc _ = w12 at HN12 HB12
                  have B12 : Hid (Below wr.heap.size wr w12) := Lib.hid (B11.out.trans (HB12.mono B11.out.size))
                  have cD := keep_cell HX.out.2 B12.out hbw
                  obtain ⟨y0, y1, y2⟩ := HN12
                  have hs12 := B12.out.size
                  clear hw12 HB12 y0 y1
                  by_cases hw : 0 ≤ ws
                  · have hn : ¬ ws < 0 := by omega
                    have HSK : Hid (stepB F.cs P k = true) := Lib.hid (by rw [← HST.out]; exact decide_eq_true hw)
                    have HG12 : Hid (∀ o, (w12.alloc o).ownsRow W1.heap.size 25 1 (.slice sa L.length sc) L.length (L.map (id : Value → Value))) := Lib.hid fun o => Grows.alloc (HG.out.below B12.out (Nat.le_refl _)) o
                    clear hw
                    go_wp2_with (at_builtin; (refine wpList_append_own _ rfl _ _ 22 rfl W1.heap.size 25 j0 (.slice none 0 0) 1 24 Try.underlying22 hj hy0 hy1 hy2 rfl (by decide) _ _ _ rfl (HG12.out _) ⟨w12.heap.size, 0, none⟩ 1 1 [.slice ad cn cc] rfl rfl one_new (by intro u hu; simp at hu; subst hu; rfl) (by unfold maxLen; omega) (by omega) (by simp; omega) ?_); intro v' w8 hown hgrow _; (have U8 := Lib.hid (UpTo.next (HG12.out _) HL2.out HL3.out HB.out (B12.out.trans ((below_alloc w12 _).mono hs12)) hlt ID1.out hown hgrow)); clear hown hgrow)
                    go_roundg (gk - 1)
                    case measure => omega
                    case rel => exact ⟨k + 1, by omega, by omega, by go_num, fun j hj => by
                      by_cases e : j = k
                      · subst e; exact ⟨HCK.out, HSK.out⟩
                      · exact HBR.out j (by omega), U8.out⟩
                  · have hn : ws < 0 := by omega
                    have HE := Lib.hid (HE5k.out (by rw [← HST.out]; exact decide_eq_false hw))
                    clear hw
                    go_wp2_with fail
                    go_ret
                    exact says HE.out.symm (HBB.out _ (HB.out.trans (B12.out.mono hszr)))
            · obtain rfl : k = P.length := by omega
              have HE := Lib.hid (HEY.out HBR.out)
              go_wp2_with fail
              go_ret
              exact says HE.out.symm (HBB.out _ HB.out)
      · have HE := Lib.hid (ip_4 (F := F) (decide_eq_false hla : lastB P = false))
        rw [HE.out]
        clear h1 hF
        go_enter Try.func24, Try.ntmps24
        go_wp2_with fail
        go_at_call 47; refine (l05Is_any w.heap.size F _ HAT.out o).mono ?_; rintro e w4 ⟨rfl, b4⟩
        rw [H1.out]
        have B4 := Lib.hid ((HB1.out _).trans (b4.mono (by simp)))
        clear b4
        obtain ⟨b, off, cap, ad, cn, cc, e, cD, hcn, ID⟩ := lv_cellS (i := P.length - 1) (HU.out w4 B4.out) (by omega)
        injection e with e1 _ e3
        subst e1
        have hcs : cn ≤ 1048576 := by have := oP.short (P.length - 1); omega
        have z : ¬ cn = 0 := by omega
        have z' : ((cn : Int) != 0) = true := by rw [bne_iff_ne]; omega
        generalize P.length - 1 = q at cD f3
        clear e3 ID hcn hla
        go_wp2_with fail
        go_ret
        exact says rfl B4.out
    · have HE := Lib.hid (ip_2 (F := F) hp)
      rw [HE.out]
      clear h1 hF
      by_cases h0 : P.length < 1
      · have h0' : P.length = 0 := by omega
        have h0i : (P.length : Int) < 1 := by omega
        go_enter Try.func24, Try.ntmps24
        go_wp2_with fail
        go_at_call 47; refine (l05Is_any w.heap.size F _ HAT.out o).mono ?_; rintro e w4 ⟨rfl, b4⟩
        rw [H1.out]
        have B4 := Lib.hid ((HB1.out _).trans (b4.mono (by simp)))
        clear b4
        go_wp2_with fail
        go_ret
        exact says rfl B4.out
      · have h1i : ¬ (P.length : Int) < 1 := by omega
        have h2 : 128 < P.length := by omega
        have h2i : (128 : Int) < (P.length : Int) := by omega
        clear hp
        go_enter Try.func24, Try.ntmps24
        go_wp2_with fail
        go_at_call 47; refine (l05Is_any w.heap.size F _ HAT.out o).mono ?_; rintro e w4 ⟨rfl, b4⟩
        rw [H1.out]
        have B4 := Lib.hid ((HB1.out _).trans (b4.mono (by simp)))
        clear b4
        go_wp2_with fail
        go_ret
        exact says rfl B4.out
end Go.Proofs.Ytnakpfbeeekmiaa
/- What must hold then: the program's state, a list that grows and a map beside a box. -/
namespace Go.Proofs.Ytnakpfbeeekmiaa
open Go.RowKit Go.ChangeShapes Go.WideShapes Go.Maps
set_option maxRecDepth 100000

set_option maxHeartbeats 1000000 in
theorem cloneG_any (v : Value) (Z : List Int) (w : World) (hv : IL w v Z) (hn : Z.length ≤ 1048576) :
    Calls Try.prog 76 #[v] w (GrownI Z w) := by
  obtain ⟨i0, hi, hz0, hz1, hz2⟩ := info_parts Try.infoI
  rcases hv.lies with ⟨rfl, cap, rfl⟩ | ⟨ad, cap, rfl, hl⟩
  · have hnil := fun (W : World) => Lib.run_eql_slice_nil (P := Try.prog) W 25 2 none 0 cap 0 0 Try.underlying25
    clear hv
    go_enter Try.func76, Try.ntmps76
    go_wp2_with fail
    refine bodyPost_ret (results_tmp rfl _ _ _) rfl ?_
    exact ⟨_, rfl, Grows.nil _ _ _ _, Below.refl _ _⟩
  · have HL := Lib.hid hl
    clear hv hl
    have hnil := fun (W : World) => Lib.run_eql_slice_nil (P := Try.prog) W 25 2 (some ad) Z.length cap 0 0 Try.underlying25
    go_enter Try.func76, Try.ntmps76
    go_wp2_with (at_builtin; refine wpList_append_own _ rfl _ _ 25 rfl w.heap.size 2 i0 (.int .i64 0) 1 8 Try.underlying25 hi hz0 hz1 hz2 rfl (by decide) _ _ _ rfl (Grows.empty (Value.int .i64) _ _ w (Nat.le_refl _)) ad Z.length cap (Z.map (Value.int .i64)) rfl (by simp) ?c1 ?c2 ?c3 ?c4 ?c5 ?_)
    case c1 => exact HL.out _
    case c2 => exact map_oneI Z
    case c3 => simp; unfold maxLen; omega
    case c4 => simp; omega
    case c5 => simp
    intro v' w' hown hgrow _
    have HN : Hid (Grows (Value.int .i64) 2 w.heap.size v' Z w') := Lib.hid (by have h := hown; show World.ownsRow _ _ _ _ _ _ _; simpa using h)
    have HB := Lib.hid ((below_alloc w _).grown hgrow (by simp) (fun k hk => by simp [Value.ownBlock] at hk; omega))
    clear hown hgrow
    go_wp2_with fail
    refine bodyPost_ret (results_tmp rfl _ _ _) rfl ?_
    exact ⟨_, rfl, HN.out, HB.out⟩
/-- How an element of the map reads here: by a number of its own. -/
def elemF (Φ : Value → Int) (v : Value) : Option (DataW Unit × List MemPlace) := some (.lit (.int .i64 (Φ v)), [])
/-- The numbers tell the clauses' values apart. -/
def TellV (V : Nat → Value) (n : Nat) (Φ : Value → Int) : Prop := ∀ v k, k < n → Φ v = Φ (V k) → v = V k
theorem tellV_some (V : Nat → Value) (n : Nat) : ∃ Φ, TellV V n Φ := by
  classical
  refine ⟨fun v => if h : ∃ k, k < n ∧ V k = v then (h.choose : Int) else -1, fun v k hk e => ?_⟩
  have hx : ∃ j, j < n ∧ V j = V k := ⟨k, hk, rfl⟩
  simp only [dif_pos hx] at e
  by_cases hv : ∃ j, j < n ∧ V j = v
  · simp only [dif_pos hv] at e
    have h1 := hx.choose_spec.2
    have h2 := hv.choose_spec.2
    have e2 : hv.choose = hx.choose := by omega
    rw [← h2, ← h1, e2]
  · simp only [dif_neg hv] at e
    omega
/-- What the map tells of the known literals: the clauses that made them known. -/
def Told (Φ : Value → Int) (V : Nat → Value) (K Y : List Int) (D : DataW Unit) : Prop :=
  ∀ j, j < K.length → 0 ≤ Y.getD j (-1) → D.atKey (.int .i64 (K.getD j 0)) (.lit (.int .i64 (-2))) = .lit (.int .i64 (Φ (V (Y.getD j (-1)).toNat)))
theorem told_none {Φ : Value → Int} {V : Nat → Value} {K : List Int} {n : Nat} (D : DataW Unit) : Told Φ V K (List.replicate n (-1)) D := fun j hj h => by
  exfalso
  by_cases e : j < n
  · simp [List.getD, e] at h
  · simp [List.getD, e] at h
theorem told_more {Φ : Value → Int} {V : Nat → Value} {K Y : List Int} {D : DataW Unit} (h : Told Φ V K Y D) (hl : Y.length = K.length) (x : Int) : Told Φ V (K ++ [x]) Y D := fun j hj h0 => by
  rw [List.length_append, List.length_singleton] at hj
  by_cases e : j < K.length
  · have e2 : (K ++ [x]).getD j 0 = K.getD j 0 := by simp [List.getD, List.getElem?_append_left e]
    rw [e2]; exact h j e h0
  · exfalso
    have e3 : Y.getD j (-1) = -1 := by simp [List.getD, List.getElem?_eq_none (show Y.length ≤ j by omega)]
    omega
theorem told_put {Φ : Value → Int} {V : Nat → Value} {K Y : List Int} {D : DataW Unit} (hD : IsMap D) (h : Told Φ V K Y D) (hl : Y.length = K.length) {x : Int} (hx : inS K x = false) (i : Nat) :
    Told Φ V (K ++ [x]) (Y ++ [(i : Int)]) (D.put (.int .i64 x) (.lit (.int .i64 (Φ (V i))))) := fun j hj h0 => by
  have hk : WideAt.IsKeyLit (Lit.int .i64 x) := by trivial
  rw [List.length_append, List.length_singleton] at hj
  by_cases e : j < K.length
  · have e2 : (K ++ [x]).getD j 0 = K.getD j 0 := by simp [List.getD, List.getElem?_append_left e]
    have e3 : (Y ++ [(i : Int)]).getD j (-1) = Y.getD j (-1) := by simp [List.getD, List.getElem?_append_left (show j < Y.length by omega)]
    rw [e3] at h0 ⊢
    rw [e2]
    have hne : K.getD j 0 ≠ x := fun q => by
      have : inS K x = true := inS_mem.2 (by rw [← q, show K.getD j 0 = K[j] by simp [List.getD, e]]; exact List.getElem_mem e)
      rw [hx] at this; cases this
    rw [atKey_put_other (by intro h; injection h with _ h2; exact hne h2)]
    exact h j e h0
  · have ej : j = K.length := by omega
    subst ej
    have e2 : (K ++ [x]).getD K.length 0 = x := by simp [List.getD]
    have e3 : (Y ++ [(i : Int)]).getD K.length (-1) = (i : Int) := by rw [← hl]; simp [List.getD]
    rw [e2, e3, atKey_put_same hD hk, Int.toNat_natCast]
/-- The state in block g: what is known, the map of makers in block mb, the clause that is broken. -/
structure StP (Φ : Value → Int) (V : Nat → Value) (g : Nat) (kv : Value) (mb m : Nat) (bk : Value) (br : Bool) (K Y : List Int) (w wr : World) : Prop where
  box : wr.heap[g]? = some (.cells #[kv, .map (some mb), bk, .bool br] 68 (0, 0))
  known : Grows (Value.int .i64) 2 w.heap.size kv K wr
  makers : ∃ D, wr.ownsMap Try.prog 2 (elemF Φ) mb m D ∧ Told Φ V K Y D
  mge : w.heap.size ≤ mb
  below : Below w.heap.size w wr
  ge : w.heap.size ≤ g
section
variable {Φ : Value → Int} {V : Nat → Value} {g mb m : Nat} {kv bk : Value} {br : Bool} {K Y : List Int} {w wr : World}
theorem StP.lt (h : StP Φ V g kv mb m bk br K Y w wr) : g < wr.heap.size := (Array.getElem?_eq_some_iff.1 h.box).1
theorem StP.cells (h : StP Φ V g kv mb m bk br K Y w wr) :
    wr.cell? ⟨g, 0, none⟩ = some kv ∧ wr.cell? ⟨g, 1, none⟩ = some (.map (some mb)) ∧ wr.cell? ⟨g, 2, none⟩ = some bk ∧ wr.cell? ⟨g, 3, none⟩ = some (.bool br) ∧ ∀ i, wr.frozen? ⟨g, i, none⟩ = false :=
  ⟨by rw [Lib.cell_of_heap h.box]; rfl, by rw [Lib.cell_of_heap h.box]; rfl, by rw [Lib.cell_of_heap h.box]; rfl, by rw [Lib.cell_of_heap h.box]; rfl, fun i => Lib.frozen_of_heap h.box i⟩
theorem StP.keep {w2 : World} (h : StP Φ V g kv mb m bk br K Y w wr) (b : Below wr.heap.size wr w2) : StP Φ V g kv mb m bk br K Y w w2 := by
  obtain ⟨D, hD, hT⟩ := h.makers
  exact ⟨by rw [b.block g h.lt]; exact h.box, h.known.below b (Nat.le_refl _), ⟨D, hD.kept (row := none) ⟨b.os, b.tape, b.output, b.size, fun i hi _ => b.block i hi⟩ (by simp), hT⟩, h.mge, h.below.trans (b.mono h.below.size), h.ge⟩
theorem StP.apart (h : StP Φ V g kv mb m bk br K Y w wr) : kv.ownBlock ≠ some g ∧ kv.ownBlock ≠ some mb ∧ g ≠ mb := by
  obtain ⟨D, ⟨es, clock, hm, -⟩, -⟩ := h.makers
  refine ⟨Lib.ownBlock_ne h.known h.box (by decide), fun e => ?_, fun e => ?_⟩
  · rcases h.known.2 with ⟨e2, _⟩ | ⟨q, cap, cur, e2, _, hq, _⟩
    · rw [e2] at e; cases e
    · rw [e2] at e
      have e : q = mb := by injection e
      subst e
      rw [hm] at hq; cases hq
  · have hb := h.box
    rw [e, hm] at hb; cases hb
/-- The known literals take one more. -/
theorem StP.keptK {w0 w1 : World} (h : StP Φ V g kv mb m bk br K Y w wr) (h0 : Below wr.heap.size wr w0) (hgr : w0.grownBy w1 kv.ownBlock) :
    w1.cell? ⟨g, 0, none⟩ = some kv ∧ w1.frozen? ⟨g, 0, none⟩ = false := by
  have hk := h.keep h0
  have hb : w1.heap[g]? = some (.cells #[kv, .map (some mb), bk, .bool br] 68 (0, 0)) := by rw [hgr.block g hk.lt (fun e => h.apart.1 e.symm)]; exact hk.box
  exact ⟨by rw [Lib.cell_of_heap hb]; rfl, Lib.frozen_of_heap hb 0⟩
end
theorem boxP_set {g i : Nat} {u : Value} {cs : Array Value} {e : TypeId} {w : World} (h : w.heap[g]? = some (.cells cs e (0, 0))) : (w.setCell ⟨g, i, none⟩ u).heap[g]? = some (.cells (cs.setIfInBounds i u) e (0, 0)) := by
  rw [World.setCell]
  simp only [Array.getElem?_modify, if_true, h]
  rfl
theorem StP.nextK {Φ : Value → Int} {V : Nat → Value} {g mb m gg cap : Nat} {x : Int} {kv bk : Value} {br : Bool} {K Y : List Int} {w wr w0 w1 : World} (h : StP Φ V g kv mb m bk br K Y w wr) (hl : Y.length = K.length) (h0 : Below wr.heap.size wr w0)
    (hown : w1.ownsRow w.heap.size 2 1 (.slice (some ⟨gg, 0, none⟩) (K.length + 1) cap) (K.length + 1) (K.map (Value.int .i64) ++ [.int .i64 x])) (hgr : w0.grownBy w1 kv.ownBlock) (q : Nat) :
    StP Φ V g (.slice (some ⟨gg, 0, none⟩) (K.length + 1) cap) mb m bk br (K ++ [x]) Y w ((w1.drewN q).setCell ⟨g, 0, none⟩ (.slice (some ⟨gg, 0, none⟩) (K.length + 1) cap)) := by
  have hk := h.keep h0
  obtain ⟨n1, n2, n3⟩ := hk.apart
  obtain ⟨D, hD, hT⟩ := hk.makers
  have hb1 : w1.heap[g]? = some (.cells #[kv, .map (some mb), bk, .bool br] 68 (0, 0)) := by rw [hgr.block g hk.lt (fun e => n1 e.symm)]; exact hk.box
  have hnew : Grows (Value.int .i64) 2 w.heap.size (.slice (some ⟨gg, 0, none⟩) (K.length + 1) cap) (K ++ [x]) w1 := Grows.more (news := [x]) rfl hown
  have m1 : (Value.slice (some ⟨gg, 0, none⟩) (K.length + 1) cap).ownBlock ≠ some g := Lib.ownBlock_ne hown hb1 (by decide)
  have hD1 : w1.ownsMap Try.prog 2 (elemF Φ) mb m D := hD.kept hgr (fun e => n2 e.symm)
  have hgw : (w1.drewN q).grownBy ((w1.drewN q).setCell ⟨g, 0, none⟩ (.slice (some ⟨gg, 0, none⟩) (K.length + 1) cap)) (some g) := grown_set _ _ _ _
  refine ⟨boxP_set (w := w1.drewN q) hb1, World.ownsRow.kept (w := w1.drewN q) hnew hgw (Or.inr m1), ⟨D, World.ownsMap.kept (w := w1.drewN q) hD1 hgw (by intro e; injection e with e; exact n3 e.symm), told_more hT hl x⟩, h.mge, ?_, h.ge⟩
  have hb9 : Below w.heap.size w w1 := hk.below.grown hgr hk.below.size (fun b hb => (World.ownsRow.lt hk.known b hb).1)
  exact (below_drewN hb9 q).setCell h.ge _
/-- The map has turned. -/
theorem StP.nextM {Φ : Value → Int} {V : Nat → Value} {g mb m i : Nat} {x : Int} {kv bk : Value} {br : Bool} {K Y : List Int} {D : DataW Unit} {w wr w1 : World} (h : StP Φ V g kv mb m bk br (K ++ [x]) Y w wr) (hl : Y.length = K.length) (hi : IsMap D) (hT : Told Φ V K Y D) (hx : inS K x = false)
    (hD : w1.ownsMap Try.prog 2 (elemF Φ) mb (m + 1) (D.put (.int .i64 x) (.lit (.int .i64 (Φ (V i)))))) (hgr : wr.grownBy w1 (some mb)) :
    StP Φ V g kv mb (m + 1) bk br (K ++ [x]) (Y ++ [(i : Int)]) w w1 := by
  obtain ⟨n1, n2, n3⟩ := h.apart
  refine ⟨by rw [hgr.block g h.lt (by intro e; injection e with e; exact n3 e)]; exact h.box, World.ownsRow.kept h.known hgr (Or.inr n2), ⟨_, hD, told_put hi hT hl hx i⟩, h.mge, ?_, h.ge⟩
  exact h.below.grown hgr h.below.size (fun b hb => by injection hb with hb; rw [← hb]; exact h.mge)
/-- The clause that is broken is written down. -/
theorem StP.broken {Φ : Value → Int} {V : Nat → Value} {g mb m : Nat} {kv bk : Value} {br : Bool} {K Y : List Int} {w wr : World} (h : StP Φ V g kv mb m bk br K Y w wr) (u : Value) (b : Bool) :
    StP Φ V g kv mb m u b K Y w ((wr.setCell ⟨g, 2, none⟩ u).setCell ⟨g, 3, none⟩ (.bool b)) := by
  obtain ⟨n1, n2, n3⟩ := h.apart
  obtain ⟨D, hD, hT⟩ := h.makers
  have hg1 : wr.grownBy (wr.setCell ⟨g, 2, none⟩ u) (some g) := grown_set _ _ _ _
  have hg2 : (wr.setCell ⟨g, 2, none⟩ u).grownBy ((wr.setCell ⟨g, 2, none⟩ u).setCell ⟨g, 3, none⟩ (.bool b)) (some g) := grown_set _ _ _ _
  have hgw := hg1.trans hg2
  exact ⟨boxP_set (boxP_set h.box), World.ownsRow.kept h.known hgw (Or.inr n1), ⟨D, hD.kept hgw (by intro e; injection e with e; exact n3 e.symm), hT⟩, h.mge, (h.below.setCell h.ge _).setCell h.ge _, h.ge⟩
/-- What made the known literals known, in block mb. -/
structure MkM (C : List (List Int)) (Φ : Value → Int) (V : Nat → Value) (mb m : Nat) (K Y : List Int) (w w' : World) : Prop where
  tell : TellV V C.length Φ
  lists : ∀ k, k < C.length → IL w (V k) (C.getD k [])
  map : ∃ D, w'.ownsMap Try.prog 2 (elemF Φ) mb m D ∧ Told Φ V K Y D
  ge : w.heap.size ≤ mb
/-- What units answer. -/
def UnitsP (C : List (List Int)) (R : List Int × List Int × Int) (w : World) (e : Ending) (w' : World) : Prop :=
  ∃ kv mb m ba bn bc Φ V, e = .returned (.agg #[kv, .map (some mb), .slice ba bn bc, .bool (decide (0 ≤ R.2.2))]) ∧ Grows (Value.int .i64) 2 w.heap.size kv R.1 w' ∧ MkM C Φ V mb m R.1 R.2.1 w w' ∧ (0 ≤ R.2.2 → IL w (.slice ba bn bc) (C.getD R.2.2.toNat [])) ∧ Below w.heap.size w w'
end Go.Proofs.Ytnakpfbeeekmiaa
/- What must hold then: what holds at each jump (plain), a box of four cells. -/
namespace Go.Proofs.Ytnakpfbeeekmiaa
open Go.RowKit Go.ChangeShapes Go.WideShapes Go.Maps
set_option maxRecDepth 100000

/-- A box of four cells that may be written. -/
structure Res4 (w : World) (g : Nat) : Prop where
  c0 : ∃ u, w.cell? ⟨g, 0, none⟩ = some u
  c1 : ∃ u, w.cell? ⟨g, 1, none⟩ = some u
  c2 : ∃ u, w.cell? ⟨g, 2, none⟩ = some u
  c3 : ∃ u, w.cell? ⟨g, 3, none⟩ = some u
  free : ∀ i, w.frozen? ⟨g, i, none⟩ = false
theorem Res4.keep {B : Nat} {w w' : World} {g : Nat} (h : Res4 w g) (hb : Below B w w') (hg : g < B) : Res4 w' g := by
  obtain ⟨⟨u, h0⟩, ⟨v, h1⟩, ⟨t, h2⟩, ⟨s, h3⟩, hf⟩ := h
  exact ⟨⟨u, by rw [hb.cell (p := ⟨g, 0, none⟩) hg]; exact h0⟩, ⟨v, by rw [hb.cell (p := ⟨g, 1, none⟩) hg]; exact h1⟩, ⟨t, by rw [hb.cell (p := ⟨g, 2, none⟩) hg]; exact h2⟩, ⟨s, by rw [hb.cell (p := ⟨g, 3, none⟩) hg]; exact h3⟩, fun i => by rw [hb.frozen (p := ⟨g, i, none⟩) hg]; exact hf i⟩
/-- The clauses' values. -/
theorem LV.vals {w : World} {v : Value} {C : List (List Int)} (h : LV w v C) : ∃ V : Nat → Value, (∀ k, k < C.length → ∃ b off cap, v = .slice (some ⟨b, off, none⟩) C.length (C.length + cap) ∧ b < w.heap.size ∧ w.cell? ⟨b, off + k, none⟩ = some (V k)) ∧ ∀ k, k < C.length → IL w (V k) (C.getD k []) := by
  rcases h with ⟨rfl, ao, cap, rfl⟩ | ⟨b, off, cap, U, rfl, hp, hb, hc⟩
  · exact ⟨fun _ => .bool false, fun k hk => absurd hk (by simp), fun k hk => absurd hk (by simp)⟩
  · exact ⟨U, fun k hk => ⟨b, off, cap, rfl, hb, (hc k hk).1⟩, fun k hk => (hc k hk).2⟩
/-- How many are known: read off the state's box. -/
def lenAt (v : Value) (w : World) : Nat := match v with
  | .pointer (some p) => match w.cell? p with
    | some (.slice _ n _) => 11 - n
    | _ => 0
  | _ => 0
theorem lenAt_of {g n c : Nat} {a : Option Addr} {w : World} (h : w.cell? ⟨g, 0, none⟩ = some (.slice a n c)) : lenAt (.pointer (some ⟨g, 0, none⟩)) w = 11 - n := by unfold lenAt; simp only [h]
/-- What holds at each jump. -/
def UnJ (C : List (List Int)) (R : List Int × List Int × Int) (Φ : Value → Int) (V : Nat → Value) (n : Int) (g gl : Nat) (W1 wr : World) : Prop :=
  ∃ K Y kv mb m, StP Φ V g kv mb m (.slice none 0 0) false K Y W1 wr ∧ m ≤ K.length ∧ LitsOk n K ∧ Y.length = K.length ∧ gl ≤ K.length ∧ uK C (11 - K.length + gl) K Y = R
theorem wp_scope_back {P : Program} {a : Act} {w : World} {Q : Exit → Act → World → Prop} {c rest : Code} (l : Nat) (J : Act → World → Prop) (μ : Act → World → Nat) (hf : findLabel c l = some (.seq .skip rest))
    (first : (∀ a w, J a w → rest.wp P (Exit.jump l J Q) a w) → c.wp P (Exit.jump l J Q) a w)
    (pass : ∀ a w, J a w → rest.wp P (Exit.jump l (fun a' w' => J a' w' ∧ μ a' w' < μ a w) Q) a w) : (Code.scope c).wp P Q a w := by
  refine wp_scope_jumps l J μ hf (first fun a w h => Code.wp_mono ?_ (pass a w h)) fun a w h => ?_
  · intro e a' w' he
    cases e with
    | goto l' => exact ⟨he.1, he.2.1⟩
    | _ => exact he
  · refine wp_seq ?_
    go_wp2
    exact pass a w h
theorem StP.start {Φ : Value → Int} {V : Nat → Value} {kv : Value} {G : List Int} {w w2 : World} (hb : Below w.heap.size w w2) (hG : Grows (Value.int .i64) 2 w.heap.size kv G w2) :
    StP Φ V (w2.heap.size + 1) kv w2.heap.size 0 (.slice none 0 0) false G (List.replicate G.length (-1)) w
      ((w2.alloc (.map #[] 0)).alloc (.cells #[kv, .map (some w2.heap.size), .slice none 0 0, .bool false] 68)) := by
  have hz : (w2.alloc (.map #[] 0)).heap.size = w2.heap.size + 1 := by simp
  have hbox := heap_alloc_new (w2.alloc (.map #[] 0)) (.cells #[kv, .map (some w2.heap.size), .slice none 0 0, .bool false] 68)
  rw [hz] at hbox
  have hm := (World.ownsMap_made w2 Try.prog 2 (elemF Φ)).alloc (.cells #[kv, .map (some w2.heap.size), .slice none 0 0, .bool false] 68)
  have B2 : Below w2.heap.size w2 ((w2.alloc (.map #[] 0)).alloc (.cells #[kv, .map (some w2.heap.size), .slice none 0 0, .bool false] 68)) := (below_alloc w2 _).alloc (by simp) _
  exact ⟨hbox, hG.below B2 (Nat.le_refl _), ⟨.map [], hm, told_none _⟩, hb.size, hb.trans (B2.mono hb.size), by have := hb.size; omega⟩
theorem told_less {Φ : Value → Int} {V : Nat → Value} {K Y : List Int} {x : Int} {D : DataW Unit} (h : Told Φ V (K ++ [x]) Y D) : Told Φ V K Y D := fun j hj h0 => by
  have h1 := h j (by rw [List.length_append]; omega) h0
  rwa [show (K ++ [x]).getD j 0 = K.getD j 0 by simp [List.getD, List.getElem?_append_left hj]] at h1
theorem StP.drew {Φ : Value → Int} {V : Nat → Value} {g mb m : Nat} {kv bk : Value} {br : Bool} {K Y : List Int} {w wr : World} (h : StP Φ V g kv mb m bk br K Y w wr) : StP Φ V g kv mb m bk br K Y w wr.drew := h.keep (Below.refl wr.heap.size wr).drew
theorem kept_at {w7 w0 w9 : World} {row : Option Nat} {rb ro : Nat} {v : Value} (h : w7.cell? ⟨rb, ro, none⟩ = some v) (hb : Below w7.heap.size w7 w0) (hg : w0.grownBy w9 row) (hne : row ≠ some rb) : w9.cell? ⟨rb, ro, none⟩ = some v := by
  have hl := cell_block h
  rw [World.cell?_of_block (w := w0) (a := ⟨rb, ro, none⟩) (hg.block rb (Nat.lt_of_lt_of_le hl hb.size) (fun e => hne e.symm))]
  exact keep_cell h hb hl
theorem set_at {w : World} {rb ro g i : Nat} {u v : Value} (h : w.cell? ⟨rb, ro, none⟩ = some v) (hne : rb ≠ g) : (w.setCell ⟨g, i, none⟩ u).cell? ⟨rb, ro, none⟩ = some v := by
  rw [World.cell?_of_block (w := w) (a := ⟨rb, ro, none⟩) (Below.heap_setCell _ _ _ _ hne)]; exact h
theorem unitsP_end {C : List (List Int)} {R : List Int × List Int × Int} {Φ : Value → Int} {V : Nat → Value} {g mb m : Nat} {kv : Value} {ba : Option Addr} {bn bc : Nat} {br : Bool} {K Y : List Int} {ws : Int} {w W1 wr X : World} (h1 : Below w.heap.size w W1 ∧ W1.heap.size = w.heap.size + 1)
    (hT : TellV V C.length Φ) (hV : ∀ k, k < C.length → IL w (V k) (C.getD k [])) (h : StP Φ V g kv mb m (.slice ba bn bc) br K Y W1 wr) (ht : Turned w.heap.size (w.heap.size + 1) wr X) (hR : (K, Y, ws) = R) (hb : br = decide (0 ≤ ws)) (hbk : 0 ≤ ws → IL w (.slice ba bn bc) (C.getD ws.toNat [])) :
    UnitsP C R w (.returned (.agg #[kv, .map (some mb), .slice ba bn bc, .bool br])) X := by
  subst hR
  have hg : wr.grownBy X (some w.heap.size) := ⟨ht.os, ht.tape, ht.output, ht.size, fun k hk hne => ht.block k hk (by
    by_cases e : k = w.heap.size
    · subst e; exact absurd rfl hne
    · omega)⟩
  have hk := h.known
  rw [h1.2] at hk
  obtain ⟨D, hD, hTd⟩ := h.makers
  have hmge := h.mge
  rw [h1.2] at hmge
  refine ⟨kv, mb, m, ba, bn, bc, Φ, V, by rw [hb], Grows.lower (World.ownsRow.kept hk hg ?_) (by omega), ⟨hT, hV, ⟨D, hD.kept hg (by intro e; injection e with e; omega), hTd⟩, by omega⟩, hbk, (h1.1.trans (h.below.mono h1.1.size)).trans ((ht.below (by have := h.below.size; omega)).mono (by omega))⟩
  cases q : kv.ownBlock with
  | none => exact Or.inl rfl
  | some b => exact Or.inr (fun e => by have h2 := (World.ownsRow.lt hk b q).1; injection e with e; omega)
end Go.Proofs.Ytnakpfbeeekmiaa
/- What must hold then: the program. -/
namespace Go.Proofs.Ytnakpfbeeekmiaa
open Go.RowKit Go.ChangeShapes Go.WideShapes Go.Maps
set_option maxRecDepth 100000

set_option maxHeartbeats 16000000 in
theorem unitsOf_any (n : Int) (v : Value) (C : List (List Int)) (u : Value) (G : List Int) (w : World) (hv : LV w v C) (hu : IL w u G) (n1 : 1 ≤ n) (n2 : n ≤ 10) (hC : ∀ k, k < C.length → ClOk n (C.getD k [])) (few : C.length ≤ 1000) (hG : LitsOk n G) :
    Calls Try.prog 52 #[v, u] w (UnitsP C (uK C 11 G (List.replicate G.length (-1))) w) := by
  obtain ⟨i0, hi, hz0, hz1, hz2⟩ := info_parts Try.infoI
  have HC := Lib.hid hC
  have HGO := Lib.hid hG
  have HL : Hid (∀ W, Below w.heap.size w W → LV W v C) := Lib.hid fun W b => hv.below b (Nat.le_refl _)
  have HU : Hid (∀ W, Below w.heap.size w W → IL W u G) := Lib.hid fun W b => hu.below b (Nat.le_refl _)
  have hgl := litsOk_len n1 n2 hG
  obtain ⟨R, hR⟩ : ∃ R, uK C 11 G (List.replicate G.length (-1)) = R := ⟨_, rfl⟩
  have HR0 := Lib.hid hR
  rw [hR]
  obtain ⟨V, hV⟩ := LV.vals hv
  have HV : Hid (∀ W, Below w.heap.size w W → ∀ k, k < C.length → ∃ b off cap, v = .slice (some ⟨b, off, none⟩) C.length (C.length + cap) ∧ W.cell? ⟨b, off + k, none⟩ = some (V k)) := Lib.hid fun W hb k hk => by
    obtain ⟨b, off, cap, e, hbl, hc⟩ := hV.1 k hk
    exact ⟨b, off, cap, e, keep_cell hc hb hbl⟩
  have HVI : Hid (∀ k, k < C.length → IL w (V k) (C.getD k [])) := Lib.hid hV.2
  obtain ⟨Φ, hΦ⟩ := tellV_some V C.length
  have HΦ := Lib.hid hΦ
  obtain ⟨va, vc, rfl⟩ := hv.long
  obtain ⟨ua, uc, rfl⟩ := hu.long
  obtain ⟨W1, hW1⟩ : ∃ W1, W1 = w.alloc (.cells #[.slice none 0 0, .map none, .slice none 0 0, .bool false] 68) := ⟨_, rfl⟩
  have HW0 : Hid (Below w.heap.size w W1 ∧ W1.heap.size = w.heap.size + 1) := Lib.hid (by rw [hW1]; exact ⟨below_alloc _ _, by simp⟩)
  have HR4 : Hid (Res4 W1 w.heap.size) := Lib.hid (by rw [hW1]; exact ⟨⟨.slice none 0 0, by go_simp⟩, ⟨.map none, by go_simp⟩, ⟨.slice none 0 0, by go_simp⟩, ⟨.bool false, by go_simp⟩, fun i => by go_simp⟩)
  have hw1 : W1.heap.size = w.heap.size + 1 := HW0.out.2
  have HBW : Hid (∀ W, Below W1.heap.size W1 W → Below w.heap.size w W) := Lib.hid fun W b => HW0.out.1.trans (b.mono HW0.out.1.size)
  have HW1 := Lib.hid hW1
  have CL := Lib.hid (cloneG_any (.slice ua G.length uc) G W1 (HU.out W1 HW0.out.1) (by omega))
  have hmm := @run_makeMap Try.prog
  clear hv hu hC hG hR hW1 hV hΦ
  go_enter Try.func52, Try.ntmps52
  go_wp2_with fail
  rw [← HW1.out]
  refine wp_scope_back 0 (fun a' w' => ∃ (u2 u3 u6 u7 u8 u9 u10 u11 u12 u13 u14 u15 u16 u17 u18 u19 u20 u21 u22 u23 u24 u25 u26 u27 u28 u29 u30 u31 u32 u33 u34 u35 u36 u37 u38 u39 u40 u41 u42 u43 u44 u45 u46 u47 u48 u49 u50 u51 u52 u53 u54 u55 u56 u57 u58 u59 u60 u61 u62 u63 u64 u65 u66 u67 u68 u69 : Value) (g : Nat), a' = { tmps := #[.slice va C.length vc, .slice ua G.length uc, u2, u3, .pointer (some ⟨w.heap.size, 0, none⟩), .pointer (some ⟨g, 0, none⟩), u6, u7, u8, u9, u10, u11, u12, u13, u14, u15, u16, u17, u18, u19, u20, u21, u22, u23, u24, u25, u26, u27, u28, u29, u30, u31, u32, u33, u34, u35, u36, u37, u38, u39, u40, u41, u42, u43, u44, u45, u46, u47, u48, u49, u50, u51, u52, u53, u54, u55, u56, u57, u58, u59, u60, u61, u62, u63, u64, u65, u66, u67, u68, u69], defers := [] } ∧ UnJ C R Φ V n g G.length W1 w') (fun a' w' => lenAt (a'.tmps.getD 5 undef) w') (by rfl) ?_ ?_
  · intro H
    go_wp2_with fail
    go_at_call 76; refine CL.out.mono ?_; rintro e w2 ⟨kv, rfl, g2, b2⟩
    have hs2 := b2.size
    have hst := Lib.hid (StP.start (Φ := Φ) (V := V) b2 g2)
    obtain ⟨ka, kc, rfl⟩ := SI.len (d := (0 : Int)) (Grows.si g2)
    clear g2 b2
    go_wp2_with fail
    refine wp_label ?_
    rename_i hK
    refine hK _ _ (H _ _ ?_)
    refine ⟨_, _, _, _, _, _, _, _, _, _, _, _, _, _, _, _, _, _, _, _, _, _, _, _, _, _, _, _, _, _, _, _, _, _, _, _, _, _, _, _, _, _, _, _, _, _, _, _, _, _, _, _, _, _, _, _, _, _, _, _, _, _, _, _, _, _, _, rfl, G, List.replicate G.length (-1), _, _, 0, hst.out, Nat.zero_le _, HGO.out, List.length_replicate, Nat.le_refl _, ?_⟩
    rw [show 11 - G.length + G.length = 11 by omega]
    exact HR0.out
  · rintro a' w' ⟨u2, u3, u6, u7, u8, u9, u10, u11, u12, u13, u14, u15, u16, u17, u18, u19, u20, u21, u22, u23, u24, u25, u26, u27, u28, u29, u30, u31, u32, u33, u34, u35, u36, u37, u38, u39, u40, u41, u42, u43, u44, u45, u46, u47, u48, u49, u50, u51, u52, u53, u54, u55, u56, u57, u58, u59, u60, u61, u62, u63, u64, u65, u66, u67, u68, u69, g, rfl, K, Y, kv, mb, m, hS, hm, hK, hYK, hgK, hR⟩
    have HYK := Lib.hid hYK
    have HKO := Lib.hid hK
    have HS := Lib.hid hS
    have hKl := litsOk_len n1 n2 hK
    have hgw := hS.lt
    have hww : W1.heap.size ≤ w'.heap.size := hS.below.size
    have HIK : Hid (∀ W, Below w'.heap.size w' W → IL W kv K) := Lib.hid fun W b => VL.below (d := (0 : Int)) (SI.vl (Grows.si hS.known)) b (Nat.le_refl _)
    obtain ⟨f, hf⟩ : ∃ f, 11 - K.length + G.length = f + 1 := ⟨11 - K.length + G.length - 1, by omega⟩
    have HR2 : Hid (uK C (f + 1) K Y = R) := Lib.hid (by rw [← hf]; exact hR)
    have HF : Hid (11 - (K.length + 1) + G.length = f) := Lib.hid (by omega)
    have HBw : Hid (∀ W, Below w'.heap.size w' W → Below w.heap.size w W) := Lib.hid fun W b => HBW.out W (HS.out.below.trans (b.mono HS.out.below.size))
    clear hK hS hR hf hYK
    obtain ⟨ka, kc, rfl⟩ := VL.len (d := (0 : Int)) (HIK.out _ (Below.refl _ _))
    have hmu : lenAt (.pointer (some ⟨g, 0, none⟩)) w' = 11 - K.length := lenAt_of HS.out.cells.1
    have HMU := Lib.hid hmu
    clear hmu
    go_wp2_with fail
    go_loopg [17] C.length (fun gk i wr => ∃ k : Nat, k ≤ C.length ∧ gk + k = C.length ∧ i = .int .i64 k ∧ (∀ j, j < k → ¬ (rst K (C.getD j [])).length = 0) ∧ Below w'.heap.size w' wr)
    case atStart => exact ⟨0, Nat.zero_le _, by omega, rfl, fun j hj => by omega, Below.refl _ _⟩
    case round =>
      obtain ⟨k, hk, hgk, rfl, hb, hB⟩ := hrel
      have HBR := Lib.hid hb
      have HB := Lib.hid hB
      have hszr := hB.size
      clear hb hB
      by_cases hlt : k < C.length
      · obtain ⟨b, off, cap, e, cD⟩ := HV.out wr (HBw.out _ HB.out) k hlt
        injection e with e1 _ e3
        subst e1
        obtain ⟨c0, c1, c2, c3, cf⟩ := (HS.out.keep HB.out).cells
        have hcl := HC.out k hlt
        have RS := Lib.hid fun W (hb : Below wr.heap.size wr W) => restOf_any (V k) (.slice ka K.length kc) (C.getD k []) K W ((HVI.out k hlt).below (HBw.out W (HB.out.trans (hb.mono HB.out.size))) (Nat.le_refl _)) (HIK.out W (HB.out.trans (hb.mono HB.out.size))) (by have := hcl.len; omega) (by omega) (fun i hi2 => by have := hcl.a i hi2; have := hcl.n2; unfold ltr at *; split at * <;> omega)
        have HIV := Lib.hid (HVI.out k hlt)
        obtain ⟨da, dn, dc, hdv⟩ : ∃ da dn dc, V k = .slice da dn dc := by obtain ⟨a, c, e⟩ := (HVI.out k hlt).long; exact ⟨a, _, c, e⟩
        rw [hdv] at cD RS HIV
        obtain ⟨Z, hZ⟩ : ∃ Z, rst K (C.getD k []) = Z := ⟨_, rfl⟩
        rw [hZ] at RS
        have HDV := Lib.hid hdv
        have HZ := Lib.hid hZ
        have hZl : Z.length ≤ 10 := by have h1 := rst_len K (C.getD k []); rw [hZ] at h1; have := hcl.len; omega
        clear e3 hcl hdv hZ
        go_wp2_with fail
        go_at_call 73; refine (RS.out _ (Below.refl _ _)).mono ?_; rintro e w6 ⟨v6, rfl, g6, b6⟩
        have B6 := Lib.hid b6
        have hs6 := b6.size
        obtain ⟨ra, rc, rfl⟩ := SI.len (d := (0 : Int)) (Grows.si g6)
        have S6 := Lib.hid ((HS.out.keep HB.out).keep b6)
        have hg6 := S6.out.lt
        have hmz : w.heap.size < w6.heap.size := by omega
        clear b6 c0 c1 c2 c3 cf g6
        by_cases z : Z.length = 0
        · have HFB : Hid (fb K C = some k) := Lib.hid (fstP_some hlt (decide_eq_true (by rw [HZ.out]; exact z)) fun j hj => decide_eq_false (HBR.out j hj))
          have HR : Hid ((K, Y, (k : Int)) = R) := Lib.hid (by rw [← HR2.out, uK_bad HFB.out])
          have HH := Lib.hid (S6.out.broken (.slice da dn dc) true)
          have hge := S6.out.ge
          have hge2 : w.heap.size < g := by omega
          obtain ⟨⟨v0, r0⟩, ⟨v1, r1⟩, ⟨v2, r2⟩, ⟨v3, r3⟩, rf⟩ := HR4.out.keep S6.out.below (by omega)
          have rf0 := rf 0
          have rf1 := rf 1
          have rf2 := rf 2
          have rf3 := rf 3
          obtain ⟨d0, d1, d2, d3, df⟩ := S6.out.cells
          have df2 := df 2
          have df3 := df 3
          have hne : ¬ w.heap.size = g := by omega
          have hne2 : ¬ g = w.heap.size := by omega
          clear rf df
          rw [z]
          go_wp2_with fail
          simp only [Exit.jump]
          refine bodyPost_ret (v := .agg #[.slice ka K.length kc, .map (some mb), .slice da dn dc, .bool true]) (by simp [results, Try.results52, r0, r1, r2, r3, go_sem]) rfl ?_
          generalize hX : World.setCell _ _ _ = X
          have hT : Turned w.heap.size (w.heap.size + 1) ((w6.setCell ⟨g, 2, none⟩ (.slice da dn dc)).setCell ⟨g, 3, none⟩ (.bool true)) X := by
            rw [← hX]
            iterate 4 (refine Turned.setCell ?_ (by simp) (by simp) _)
            exact Turned.refl _ _ _
          clear hX
          exact unitsP_end HW0.out HΦ.out HVI.out HH.out hT HR.out (by simp) (fun _ => by rw [Int.toNat_natCast]; exact HIV.out)
        · have HBR2 : Hid (∀ j, j < k + 1 → ¬ (rst K (C.getD j [])).length = 0) := Lib.hid fun j hj => by
            by_cases e : j = k
            · subst e; rw [HZ.out]; exact z
            · exact HBR.out j (by omega)
          have z' : ((Z.length : Int) == 0) = false := by rw [beq_eq_false_iff_ne]; omega
          have HB6 := Lib.hid (HB.out.trans (B6.out.mono HB.out.size))
          go_wp2_with fail
          go_roundg (gk - 1)
          case measure => omega
          case rel => exact ⟨k + 1, by omega, by omega, by go_num, HBR2.out, HB6.out⟩
      · obtain rfl : k = C.length := by omega
        have HFB : Hid (fb K C = none) := Lib.hid (fstP_none fun j hj => decide_eq_false (HBR.out j hj))
        obtain ⟨wA, rfl⟩ : ∃ x : World, x = wr := ⟨_, rfl⟩
        clear HBR
        go_wp2_with fail
        go_loopg [34] C.length (fun gk i wr => ∃ k : Nat, k ≤ C.length ∧ gk + k = C.length ∧ i = .int .i64 k ∧ (∀ j, j < k → un K (C.getD j []) = false) ∧ Below w'.heap.size w' wr)
        case atStart => exact ⟨0, Nat.zero_le _, by omega, rfl, fun j hj => by omega, HB.out⟩
        case round =>
          clear HB
          obtain ⟨k, hk, hgk2, rfl, hb, hB⟩ := hrel
          have HBR := Lib.hid hb
          have HB := Lib.hid hB
          have hszr := hB.size
          clear hb hB
          by_cases hlt : k < C.length
          · obtain ⟨b, off, cap, e, cD⟩ := HV.out wr (HBw.out _ HB.out) k hlt
            injection e with e1 _ e3
            subst e1
            obtain ⟨c0, c1, c2, c3, cf⟩ := (HS.out.keep HB.out).cells
            have hcl := HC.out k hlt
            have RS := Lib.hid fun W (hb : Below wr.heap.size wr W) => restOf_any (V k) (.slice ka K.length kc) (C.getD k []) K W ((HVI.out k hlt).below (HBw.out W (HB.out.trans (hb.mono HB.out.size))) (Nat.le_refl _)) (HIK.out W (HB.out.trans (hb.mono HB.out.size))) (by have := hcl.len; omega) (by omega) (fun i hi2 => by have := hcl.a i hi2; have := hcl.n2; unfold ltr at *; split at * <;> omega)
            obtain ⟨da, dn, dc, hdv⟩ : ∃ da dn dc, V k = .slice da dn dc := by obtain ⟨a, c, e⟩ := (HVI.out k hlt).long; exact ⟨a, _, c, e⟩
            rw [hdv] at cD RS
            obtain ⟨Z, hZ⟩ : ∃ Z, rst K (C.getD k []) = Z := ⟨_, rfl⟩
            rw [hZ] at RS
            have HDV := Lib.hid hdv
            have HZ := Lib.hid hZ
            have hZl : Z.length ≤ 10 := by have h1 := rst_len K (C.getD k []); rw [hZ] at h1; have := hcl.len; omega
            clear e3 hcl hdv hZ
            go_wp2_with fail
            go_at_call 73; refine (RS.out _ (Below.refl _ _)).mono ?_; rintro e w6 ⟨v6, rfl, g6, b6⟩
            have B6 := Lib.hid b6
            have hs6 := b6.size
            have HB6 := Lib.hid (HB.out.trans (b6.mono HB.out.size))
            have S6 := Lib.hid ((HS.out.keep HB.out).keep b6)
            have HSR := Lib.hid (HS.out.keep HB.out)
            have hg6 := S6.out.lt
            have hgr : g < wr.heap.size := HSR.out.lt
            have hW6 : W1.heap.size ≤ w6.heap.size := S6.out.below.size
            clear b6 c0 c1 c2 c3 cf
            by_cases z : Z.length = 1
            · obtain ⟨x, hx⟩ := List.length_eq_one_iff.1 z
              subst hx
              rcases (Grows.si (d := (0 : Int)) g6).2 with ⟨hz, -⟩ | ⟨rb, roff, rcap, e, hpos, hrb1, hrb2, hfr, hcell⟩
              · cases hz
              have cx : w6.cell? ⟨rb, roff, none⟩ = some (.int .i64 x) := hcell 0 (by simp)
              rw [show ([x] : List Int).length = 1 from rfl] at e
              subst e
              have HUL : Hid (unL K C k = x) := Lib.hid (by unfold unL; rw [HZ.out]; rfl)
              have HUN : Hid (un K (C.getD k []) = !inS K x) := Lib.hid (by unfold un; rw [HZ.out]; simp)
              have CI := Lib.hid fun (n9 : Nat) => contains_any (.slice ka K.length kc) K x (w6.drewN n9) ((HIK.out _ HB6.out).drewN n9) (by omega)
              clear g6 hcell hfr hpos z hZl
              obtain ⟨d0, d1, d2, d3, df⟩ := S6.out.cells
              cases t : inS K x with
              | true =>
                have HBR2 : Hid (∀ j, j < k + 1 → un K (C.getD j []) = false) := Lib.hid fun j hj => by
                  by_cases e : j = k
                  · subst e; rw [HUN.out, t]; rfl
                  · exact HBR.out j (by omega)
                rw [t] at CI
                clear t
                go_wp2_with fail
                go_quiet ((go_at_call 71; with_reducible exact Calls.quiet_of_same ((CI.out _).mono fun _ _ ⟨q1, q2⟩ => ⟨q1, q2.symm⟩)))
                go_wp2_with fail
                go_roundg (gk - 1)
                case measure => omega
                case rel => exact ⟨k + 1, by omega, by omega, by go_num, HBR2.out, below_drewN HB6.out _⟩
              | false =>
                have HTX := Lib.hid t
                have HFU : Hid (fu K C = some k) := Lib.hid (fstP_some hlt (by rw [HUN.out, t]; rfl) HBR.out)
                have HR3 : Hid (uK C f (K ++ [x]) (Y ++ [(k : Int)]) = R) := Lib.hid (by rw [← HR2.out, uK_go HFB.out HFU.out, HUL.out])
                have hnw := un_new HKO.out HC.out hlt (by rw [HUN.out, t]; rfl)
                rw [HUL.out] at hnw
                have HK2 := Lib.hid hnw.1
                have hK10 : (K ++ [x]).length ≤ 10 := litsOk_len n1 n2 hnw.1
                rw [List.length_append, List.length_singleton] at hK10
                have hxr : InR x := by
                  have h1 := hnw.1.rng x (by simp)
                  unfold ltr at h1
                  unfold InR
                  split at h1 <;> omega
                have HXR := Lib.hid hxr
                rw [t] at CI
                clear t hnw hxr
                go_upto_region 14 with (fail)
                go_wp2_with fail
                go_quiet ((go_at_call 71; with_reducible exact Calls.quiet_of_same ((CI.out _).mono fun _ _ ⟨q1, q2⟩ => ⟨q1, q2.symm⟩)))
                go_wp2_with fail
                obtain ⟨w7, hw7⟩ : ∃ w7, w7 = w6.drewN nq := ⟨_, rfl⟩
                have S7 : Hid (StP Φ V g (.slice ka K.length kc) mb m (.slice none 0 0) false K Y W1 w7) := Lib.hid (by rw [hw7]; exact S6.out.keep (below_drewN (Below.refl _ _) nq))
                have cx7 : w7.cell? ⟨rb, roff, none⟩ = some (.int .i64 x) := by rw [hw7]; exact cx
                have hz7 : w7.heap.size = w6.heap.size := by rw [hw7]; rfl
                have HB7 : Hid (Below w'.heap.size w' w7) := Lib.hid (by rw [hw7]; exact below_drewN HB6.out _)
                rw [← hw7]
                clear hw7 cx d0 d1 d2 d3 df
                have hg7 := S7.out.lt
                have hrb7 : rb < w7.heap.size := cell_block cx7
                obtain ⟨d0, d1, d2, d3, df⟩ := S7.out.cells
                have df0 := df 0
                have HOWN : Hid (∀ W, Below w7.heap.size w7 W → W.ownsRow W1.heap.size 2 1 (.slice ka K.length kc) K.length (K.map (Value.int .i64))) := Lib.hid fun W b => (S7.out.keep b).known
                have HKB : Hid ((Value.slice ka K.length kc).ownBlock ≠ some rb) := Lib.hid fun e => by have := (World.ownsRow.lt HSR.out.known rb e).2; omega
                have hneg : rb ≠ g := by omega
                have HCX := Lib.hid cx7
                have HM0 : Hid (∀ w0 w9, Below w7.heap.size w7 w0 → w0.grownBy w9 (Value.slice ka K.length kc).ownBlock → w9.cell? ⟨rb, roff, none⟩ = some (.int .i64 x)) := Lib.hid fun w0 w9 b hg => kept_at HCX.out b hg HKB.out
                have d0a : ∀ o, (w7.alloc o).cell? ⟨g, 0, none⟩ = some (.slice ka K.length kc) := fun o => keep_cell d0 (below_alloc w7 o) hg7
                have hW7 : W1.heap.size ≤ w7.heap.size := by omega
                clear df d1 d2 d3 hz7
                go_region_law (first
                  | (refine step_append_lies _ (by rfl) _ _ _ (by rfl) W1.heap.size 2 i0 _ 1 8 Try.underlying25 hi hz0 hz1 hz2 rfl (by omega) (.slice ka K.length kc) K.length (K.map (Value.int .i64)) (by rfl) (HOWN.out _ (by first | exact below_alloc w7 _ | exact (below_drewN (Below.refl w7.heap.size w7) _).alloc (Nat.le_refl _) _ | exact below_drewN (below_alloc w7 _) _ | exact (Below.refl w7.heap.size w7).drew.alloc (Nat.le_refl _) _ | exact (below_alloc w7 _).drew)) ⟨w7.heap.size, 0, none⟩ 1 1 [.int .i64 x] (by rfl) (by rfl) (World.news_of_block (cs := #[_]) (t := 2) (fr := (0, 0)) (heap_alloc_new _ _)) (by simp [Value.oneCell']) (by omega) (by unfold maxLen; omega) (by omega) (by simp; omega) (w7.heap.size + 1) (by simp) ?_; intro gg gcap w9 hown hgrow hat hlt9; obtain ⟨hk9, hf9⟩ := S7.out.keptK (by first | exact below_alloc w7 _ | exact (below_drewN (Below.refl w7.heap.size w7) _).alloc (Nat.le_refl _) _ | exact below_drewN (below_alloc w7 _) _ | exact (Below.refl w7.heap.size w7).drew.alloc (Nat.le_refl _) _ | exact (below_alloc w7 _).drew) hgrow; have HNX := Lib.hid (fun q => StP.nextK S7.out HYK.out (by first | exact below_alloc w7 _ | exact (below_drewN (Below.refl w7.heap.size w7) _).alloc (Nat.le_refl _) _ | exact below_drewN (below_alloc w7 _) _ | exact (Below.refl w7.heap.size w7).drew.alloc (Nat.le_refl _) _ | exact (below_alloc w7 _).drew) hown hgrow q); have HX9 := Lib.hid (HM0.out _ _ (by first | exact below_alloc w7 _ | exact (below_drewN (Below.refl w7.heap.size w7) _).alloc (Nat.le_refl _) _ | exact below_drewN (below_alloc w7 _) _ | exact (Below.refl w7.heap.size w7).drew.alloc (Nat.le_refl _) _ | exact (below_alloc w7 _).drew) hgrow); clear hown hgrow hat hlt9))
                all_goals
                  generalize hwB : World.setCell _ _ _ = wB
                  have H5 : Hid (StP Φ V g (.slice (some ⟨gg, 0, none⟩) (K.length + 1) gcap) mb m (.slice none 0 0) false (K ++ [x]) Y W1 wB) := Lib.hid (by rw [← hwB]; exact HNX.out 0)
                  have cxB : wB.cell? ⟨rb, roff, none⟩ = some (.int .i64 x) := by rw [← hwB]; exact set_at HX9.out hneg
                  clear hwB d0 d0a hk9 hf9 df0 cx7 HNX
                  obtain ⟨d0, d1, d2, d3, df⟩ := H5.out.cells
                  obtain ⟨D, hD, hTd⟩ := H5.out.makers
                  have HD := Lib.hid hD
                  have HTD := Lib.hid (told_less hTd)
                  clear df d0 d2 d3 hD hTd
                  go_wp2_with fail
                  refine wp_region_still_tail 6 (by kernel_rfl) (by kernel_rfl) ?_
                  simp only [List.take_succ_cons, List.take_zero, List.drop_succ_cons, List.drop_zero]
                  repeat still_step
                  refine wpStill_nil ?_
                  change wpList _ _ _ _ _ wB.drew
                  refine wpList_mapUpdate_own _ rfl _ _ _ 66 rfl 2 25 keyI Try.underlying66 (elemF Φ) mb m D rfl HD.out.drew (by unfold maxLen; omega) _ _ (.int .i64 x) rfl rfl (keyOf_int_mk Try.underlying2 (wfR HXR.out)) (.lit (.int .i64 (Φ (V k)))) [] (by rw [HDV.out]; rfl) ?_
                  intro w4 hown4 hgrow4
                  have HST := Lib.hid (StP.nextM H5.out.drew HYK.out HD.out.isMap HTD.out HTX.out hown4 hgrow4)
                  clear hown4 hgrow4
                  go_wp2_with fail
                  refine wp_goto ?_
                  refine ⟨rfl, ⟨_, _, _, _, _, _, _, _, _, _, _, _, _, _, _, _, _, _, _, _, _, _, _, _, _, _, _, _, _, _, _, _, _, _, _, _, _, _, _, _, _, _, _, _, _, _, _, _, _, _, _, _, _, _, _, _, _, _, _, _, _, _, _, _, _, _, g, rfl, K ++ [x], Y ++ [(k : Int)], _, mb, m + 1, HST.out, by rw [List.length_append, List.length_singleton]; omega, HK2.out, by rw [List.length_append, List.length_append, HYK.out]; rfl, by rw [List.length_append]; omega, ?_⟩, ?_⟩
                  · rw [List.length_append, List.length_singleton, HF.out]; exact HR3.out
                  · show lenAt (.pointer (some ⟨g, 0, none⟩)) _ < lenAt (.pointer (some ⟨g, 0, none⟩)) _
                    rw [HMU.out, lenAt_of HST.out.cells.1]; omega
            · have HBR2 : Hid (∀ j, j < k + 1 → un K (C.getD j []) = false) := Lib.hid fun j hj => by
                by_cases e : j = k
                · subst e; unfold un; rw [HZ.out, decide_eq_false z]; rfl
                · exact HBR.out j (by omega)
              obtain ⟨ra, rc, rfl⟩ := SI.len (d := (0 : Int)) (Grows.si g6)
              have z' : ((Z.length : Int) == 1) = false := by rw [beq_eq_false_iff_ne]; omega
              clear g6
              go_wp2_with fail
              go_quiet (fail)
              go_wp2_with fail
              go_roundg (gk - 1)
              case measure => omega
              case rel => exact ⟨k + 1, by omega, by omega, by go_num, HBR2.out, below_drewN HB6.out _⟩
          · obtain rfl : k = C.length := by omega
            have HFU : Hid (fu K C = none) := Lib.hid (fstP_none HBR.out)
            have HR : Hid ((K, Y, -1) = R) := Lib.hid (by rw [← HR2.out, uK_end HFB.out HFU.out])
            have SA := Lib.hid (HS.out.keep HB.out)
            have hgA := SA.out.lt
            have hge := SA.out.ge
            have hge2 : w.heap.size < g := by omega
            obtain ⟨⟨v0, r0⟩, ⟨v1, r1⟩, ⟨v2, r2⟩, ⟨v3, r3⟩, rf⟩ := HR4.out.keep SA.out.below (by omega)
            have rf0 := rf 0
            have rf1 := rf 1
            have rf2 := rf 2
            have rf3 := rf 3
            obtain ⟨d0, d1, d2, d3, df⟩ := SA.out.cells
            have hne : ¬ w.heap.size = g := by omega
            have hne2 : ¬ g = w.heap.size := by omega
            clear rf df
            go_wp2_with fail
            simp only [Exit.jump]
            refine bodyPost_ret (v := .agg #[.slice ka K.length kc, .map (some mb), .slice none 0 0, .bool false]) (by simp [results, Try.results52, r0, r1, r2, r3, go_sem]) rfl ?_
            generalize hX : World.setCell _ _ _ = X
            have hT : Turned w.heap.size (w.heap.size + 1) wr X := by
              rw [← hX]
              iterate 4 (refine Turned.setCell ?_ (by simp) (by simp) _)
              exact Turned.refl _ _ _
            clear hX
            exact unitsP_end HW0.out HΦ.out HVI.out SA.out hT HR.out (by decide) (fun h => by omega)
end Go.Proofs.Ytnakpfbeeekmiaa
/- Proofs that are checked: the program, for all arguments. -/
namespace Go.Proofs.Ytnakpfbeeekmiaa
open Go.RowKit Go.ChangeShapes Go.WideShapes Go.Maps
set_option maxRecDepth 100000

/-- The first lists of a list of lists. -/
theorem lv_take {w : World} {v : Value} {L : List (List Int)} (h : LV w v L) (h0 : 0 < L.length) : ∃ ad cap, v = .slice (some ad) L.length cap ∧ L.length ≤ cap ∧ ∀ n, n ≤ L.length → LV w (.slice (some ad) n cap) (L.take n) := by
  rcases h with ⟨rfl, ao, cap, rfl⟩ | ⟨b, off, cap, U, rfl, h2, h3, h4⟩
  · simp at h0
  · refine ⟨_, _, rfl, by omega, fun n hn => ?_⟩
    have hl : (L.take n).length = n := by rw [List.length_take]; omega
    by_cases z : n = 0
    · subst z
      exact Or.inl ⟨rfl, _, _, rfl⟩
    · obtain ⟨d, hd⟩ := Nat.le.dest hn
      refine Or.inr ⟨b, off, d + cap, U, by rw [hl, ← hd, Nat.add_assoc], by omega, h3, fun i hi => ?_⟩
      rw [hl] at hi
      have e : (L.take n).getD i [] = L.getD i [] := by simp [List.getD, hi]
      rw [e]; exact h4 i (by omega)
theorem lv_cell {w : World} {v : Value} {L : List (List Int)} {i : Nat} (h : LV w v L) (hi : i < L.length) : ∃ b off cap ad n c, v = .slice (some ⟨b, off, none⟩) L.length (L.length + cap) ∧ w.cell? ⟨b, off + i, none⟩ = some (.slice ad n c) ∧ n = (L.getD i []).length ∧ IL w (.slice ad n c) (L.getD i []) := by
  rcases h with ⟨rfl, ao, cap, rfl⟩ | ⟨b, off, cap, U, rfl, h2, h3, h4⟩
  · simp at hi
  · obtain ⟨h5, h6⟩ := h4 i hi
    obtain ⟨ad, c, e⟩ := h6.long
    rw [e] at h5 h6
    exact ⟨b, off, cap, ad, _, c, rfl, h5, rfl, h6⟩
theorem take_app (C P : List (List Int)) (k : Nat) : (C ++ P).take (C.length + k) = C ++ P.take k := by
  rw [List.take_append, List.take_of_length_le (show C.length ≤ C.length + k by omega), show C.length + k - C.length = k by omega]
theorem allCl_at {n : Int} {C : List (List Int)} (h : allCl n C = true) {k : Nat} (hk : k < C.length) : clB n (C.getD k []) = true := rngAt h hk
theorem notFrom {n : Nat} (h : ¬ (1 ≤ n ∧ n ≤ 128)) : (decide ((1 : Int) ≤ (n : Int)) && decide ((n : Int) ≤ 128)) = false := by
  rw [Bool.and_eq_false_iff, decide_eq_false_iff_not, decide_eq_false_iff_not]
  omega
def BreaksP (t : Bool) (w : World) (e : Ending) (w' : World) : Prop := ∃ ka kn kc mb ba bn bc, e = .returned (.agg #[.slice ka kn kc, .map (some mb), .slice ba bn bc, .bool t]) ∧ Below w.heap.size w w'
theorem unitsOf_breaks (t : Bool) (n : Int) (v : Value) (C : List (List Int)) (u : Value) (G : List Int) (w : World) (hv : LV w v C) (hu : IL w u G) (n1 : 1 ≤ n) (n2 : n ≤ 10) (hC : ∀ k, k < C.length → ClOk n (C.getD k [])) (few : C.length ≤ 1000) (hG : LitsOk n G) (ht : decide (0 ≤ (uK C 11 G (List.replicate G.length (-1))).2.2) = t) :
    Calls Try.prog 52 #[v, u] w (BreaksP t w) :=
  (unitsOf_any n v C u G w hv hu n1 n2 hC few hG).mono fun e w' ⟨kv, mb, m, ba, bn, bc, Φ, V, he, g6, _, _, b6⟩ => by
    obtain ⟨ka, kc, rfl⟩ := SI.len (d := (0 : Int)) (Grows.si g6)
    exact ⟨ka, _, kc, mb, ba, bn, bc, by rw [he, ht], b6⟩
set_option maxHeartbeats 8000000 in
theorem implIsProof_any (v : Value) (F : Fm) (u : Value) (P : List (List Int)) (w : World) (hv : FmV w v F) (hu : LV w u P) (o : OKFm F) (oP : OKL P) :
    Calls Try.prog 26 #[v, u] w (Says (ipB F P) w) := by
  obtain ⟨s1, rfl, hl⟩ := hv
  have HL : Hid (∀ W, Below w.heap.size w W → LV W s1 F.cs) := Lib.hid fun W b => hl.below b (Nat.le_refl _)
  have HU : Hid (∀ W, Below w.heap.size w W → LV W u P) := Lib.hid fun W b => hu.below b (Nat.le_refl _)
  have HB1 : Hid (∀ A, Below w.heap.size w (w.alloc A)) := Lib.hid fun A => below_alloc w A
  have HX0 := Lib.hid (Box2.mk' w (.int .i64 F.letters) s1 29)
  have hPs : P.length ≤ 1048576 := by have := oP.size; unfold szL at this; omega
  obtain ⟨ga, gc, rfl⟩ := hu.long
  obtain ⟨fa, fc, rfl⟩ := hl.long
  clear hl hu
  cases h1 : formB F with
  | false =>
    have HE := Lib.hid (ip_1 (P := P) h1)
    rw [HE.out]
    have H1 := Lib.hid h1
    clear h1
    go_enter Try.func26, Try.ntmps26
    go_wp2_with fail
    go_at_call 50; refine (implForm_any _ F _ ⟨_, rfl, HL.out _ (HB1.out _)⟩ o).mono ?_; rintro e w4 ⟨rfl, b4⟩
    rw [H1.out]
    have B4 := Lib.hid ((HB1.out _).trans (b4.mono (by simp)))
    clear b4
    go_wp2_with fail
    go_ret
    exact says rfl B4.out
  | true =>
    have H1 := Lib.hid h1
    have hF := formB_ok h1
    have n1 := hF.n1
    have n2 := hF.n2
    have HF := Lib.hid hF
    by_cases hp : 1 ≤ P.length ∧ P.length ≤ 128
    · have HP := Lib.hid hp
      obtain ⟨p1, p2⟩ := hp
      have HFR : Hid (∀ W, Calls Try.prog 56 #[.int .i64 1, .int .i64 (P.length : Int), .int .i64 128] W (Tells true W)) := Lib.hid fun W => isFrom_is true (P.length : Int) 1 128 W (by simp; omega)
      cases h2 : allCl F.letters P with
      | false =>
        have HE := Lib.hid (ip_3 (P := P) h2)
        rw [HE.out]
        have H2 := Lib.hid h2
        clear h1 h2 hF
        go_enter Try.func26, Try.ntmps26
        go_wp2_with fail
        go_at_call 50; refine (implForm_any _ F _ ⟨_, rfl, HL.out _ (HB1.out _)⟩ o).mono ?_; rintro e w4 ⟨rfl, b4⟩
        rw [H1.out]
        have B4 := Lib.hid ((HB1.out _).trans (b4.mono (by simp)))
        have X4 := Lib.hid (HX0.out.keep b4 (by simp))
        have hx4 := X4.out.lt
        clear b4
        go_wp2_with fail
        go_at_call 56; refine (HFR.out _).mono ?_; rintro e w5 ⟨rfl, n5, rfl⟩
        obtain ⟨w5, hw5⟩ : ∃ w5, w5 = w4.drewN n5 := ⟨_, rfl⟩
        rw [← hw5]
        have B5 := Lib.hid (show Below w.heap.size w w5 from by rw [hw5]; exact below_drewN B4.out _)
        obtain ⟨x0, x1⟩ : Box2 w5 w.heap.size _ _ := by rw [hw5]; exact X4.out.keep (below_drewN (Below.refl _ _) _) hx4
        clear hw5
        go_wp2_with fail
        go_at_call 57; refine (areClauses_any F.letters _ P _ (HU.out _ B5.out) oP).mono ?_; rintro e w6 ⟨rfl, b6⟩
        rw [H2.out]
        have B6 := Lib.hid (B5.out.trans (b6.mono B5.out.size))
        clear b6 x0 x1
        go_wp2_with fail
        go_ret
        exact says rfl B6.out
      | true =>
        have H2 := Lib.hid h2
        clear h1 h2 hF
        go_enter Try.func26, Try.ntmps26
        go_wp2_with fail
        go_at_call 50; refine (implForm_any _ F _ ⟨_, rfl, HL.out _ (HB1.out _)⟩ o).mono ?_; rintro e w4 ⟨rfl, b4⟩
        rw [H1.out]
        have B4 := Lib.hid ((HB1.out _).trans (b4.mono (by simp)))
        have X4 := Lib.hid (HX0.out.keep b4 (by simp))
        have hx4 := X4.out.lt
        clear b4
        go_wp2_with fail
        go_at_call 56; refine (HFR.out _).mono ?_; rintro e w5 ⟨rfl, n5, rfl⟩
        obtain ⟨w5, hw5⟩ : ∃ w5, w5 = w4.drewN n5 := ⟨_, rfl⟩
        rw [← hw5]
        have B5 := Lib.hid (show Below w.heap.size w w5 from by rw [hw5]; exact below_drewN B4.out _)
        have X5 : Hid (Box2 w5 w.heap.size (.int .i64 F.letters) (.slice fa F.cs.length fc)) := Lib.hid (by rw [hw5]; exact X4.out.keep (below_drewN (Below.refl _ _) _) hx4)
        clear hw5
        obtain ⟨x0, x1⟩ := X5.out
        have hx5 := X5.out.lt
        go_wp2_with fail
        go_at_call 57; refine (areClauses_any F.letters _ P _ (HU.out _ B5.out) oP).mono ?_; rintro e w6 ⟨rfl, b6⟩
        rw [H2.out]
        have B6 := Lib.hid (B5.out.trans (b6.mono B5.out.size))
        have X6 := Lib.hid (X5.out.keep b6 hx5)
        have hx6 := X6.out.lt
        clear b6 x0 x1
        obtain ⟨x0, x1⟩ := X6.out
        have hw6 : w.heap.size ≤ w6.heap.size := B6.out.size
        have CT := Lib.hid (concatLL_any w6.heap.size (.slice fa F.cs.length fc) (.slice ga P.length gc) F.cs P (w6.alloc (.cells #[.slice fa F.cs.length fc, .slice ga P.length gc] 22)) (Box2.mk' w6 _ _ _) (HL.out _ (B6.out.trans ((below_alloc w6 _).mono hw6))) (HU.out _ (B6.out.trans ((below_alloc w6 _).mono hw6))) (by have := HF.out.few; omega) (by omega) (by omega))
        go_wp2_with fail
        go_at_call 58; refine CT.out.mono ?_; rintro e w7 ⟨av, rfl, l7, b7⟩
        have B67 := Lib.hid ((below_alloc w6 (.cells #[.slice fa F.cs.length fc, .slice ga P.length gc] 22)).trans (b7.mono (by simp)))
        have B7 := Lib.hid (B6.out.trans (B67.out.mono hw6))
        have X7 := Lib.hid (X6.out.keep B67.out hx6)
        obtain ⟨aa, ac, rfl, hac, htk⟩ := lv_take l7 (by rw [List.length_append]; omega)
        have HTK : Hid (∀ W k, k ≤ P.length → Below w7.heap.size w7 W → LV W (.slice (some aa) (F.cs.length + k) ac) (F.cs ++ P.take k)) := Lib.hid fun W k hk b => by
          have h := htk (F.cs.length + k) (by rw [List.length_append]; omega)
          rw [take_app] at h
          exact h.below b (Nat.le_refl _)
        have hlen : (F.cs ++ P).length = F.cs.length + P.length := by simp
        rw [hlen] at hac ⊢
        have hw7 : w.heap.size < w7.heap.size := by have := X7.out.lt; omega
        have hfew := HF.out.few
        clear l7 b7 x0 x1 CT htk hlen
        go_wp2_with fail
        go_loopg [31] P.length (fun gk i wr => ∃ k : Nat, k ≤ P.length ∧ gk + k = P.length ∧ i = .int .i64 k ∧ (∀ j, j < k → stepB F.cs P j = true) ∧ Below w7.heap.size w7 wr)
        case atStart => exact ⟨0, Nat.zero_le _, by omega, rfl, fun j hj => by omega, Below.refl _ _⟩
        case round =>
          obtain ⟨k, hk, hgk, rfl, hb, hB⟩ := hrel
          have HBR := Lib.hid hb
          have HB := Lib.hid hB
          have hszr := hB.size
          have HBW := Lib.hid (B7.out.trans (hB.mono (Nat.le_of_lt hw7)))
          clear hb hB
          by_cases hlt : k < P.length
          · obtain ⟨b, off, cap, ad, cn, cc, e, cD, hcn, ID⟩ := lv_cell (HU.out wr HBW.out) hlt
            injection e with e1 _ e3
            subst e1
            have hcl : ClOk F.letters (P.getD k []) := clB_ok (allCl_at H2.out hlt)
            obtain ⟨x0, x1⟩ := X7.out.keep HB.out (by omega)
            have HX1 := Lib.hid x1
            have RO := Lib.hid fun W (hb : Below wr.heap.size wr W) => oppositesOf_any (.slice ad cn cc) (P.getD k []) W (ID.below hb (Nat.le_refl _)) (by have := hcl.len; omega) (cl_rng' hcl)
            have RU := Lib.hid fun W v9 (hb : Below wr.heap.size wr W) (h9 : IL W v9 (opp (P.getD k []))) => unitsOf_breaks (stepB F.cs P k) F.letters (.slice (some aa) (F.cs.length + k) ac) (F.cs ++ P.take k) v9 (opp (P.getD k [])) W (HTK.out W k hk (HB.out.trans (hb.mono hszr))) h9 n1 n2 (app_cl hk HF.out.cl fun j hj => clB_ok (allCl_at H2.out (by omega))) (by rw [List.length_append, List.length_take]; omega) (opp_lits hcl) rfl
            have f1 : IntKind.i64.wrap ((F.cs.length : Int) + (k : Int)) = (F.cs.length : Int) + (k : Int) := IntWalk.i64_in _ (by omega)
            have f2 : (0 : Int) ≤ (F.cs.length : Int) + (k : Int) := by omega
            have f3 : ((F.cs.length : Int) + (k : Int)).toNat = F.cs.length + k := by omega
            have f4 : (F.cs.length : Int) + (k : Int) ≤ (ac : Int) := by omega
            have f5 : F.cs.length + k ≤ ac := by omega
            have hxr : w.heap.size < wr.heap.size := by omega
            have hfd : ∀ (W : World) (x y z : Value) (t : Bool), (Instr.field 68 (.agg #[x, y, z, .bool t]) 3).run Try.prog W = .ok (.bool t) W := fun _ _ _ _ _ => by kernel_rfl
            generalize opp (P.getD k []) = G at RO RU
            cases t : stepB F.cs P k with
            | false =>
              have HE := Lib.hid (ip_5 (F := F) hlt t)
              rw [t] at RU
              clear t e3 hcn ID hcl x0
              go_wp2_with fail
              go_region_held3 (fun w' => w'.cell? ⟨w.heap.size, 1, none⟩ = some (.slice fa F.cs.length fc)) (first | exact x1 | exact S9.out | exact S10.out) (first
                | (go_at_call 59; refine (RO.out _ (by first | exact Below.refl _ _ | exact below_drewN (Below.refl _ _) _ | exact (Below.refl _ _).drew)).mono ?_; rintro e w9 ⟨v9, rfl, g9, b9⟩; have B9 : Hid (Below wr.heap.size wr w9) := Lib.hid ((below_drewN (Below.refl wr.heap.size wr) 1).trans b9); have I9 := Lib.hid (SI.vl (d := (0 : Int)) (Grows.si g9)); have S9 := Lib.hid (keep_cell HX1.out B9.out hxr); clear b9 g9)
                | (go_at_call 52; refine (RU.out _ _ (by first | exact B9.out | exact below_drewN B9.out _) (by first | exact I9.out | exact I9.out.drewN _)).mono ?_; rintro e w10 ⟨ka, kn, kc, mb, ba, bn, bc, rfl, b10⟩; have B10 : Hid (Below wr.heap.size wr w10) := Lib.hid (B9.out.trans (b10.mono B9.out.size)); have S10 := Lib.hid (keep_cell HX1.out B10.out hxr); clear b10))
              all_goals
                go_wp2_with fail
                go_ret
                exact says HE.out.symm (HBW.out.trans (B10.out.mono HBW.out.size))
            | true =>
              have HE := Lib.hid t
              rw [t] at RU
              clear t e3 hcn ID hcl x0
              go_wp2_with fail
              go_region_held3 (fun w' => w'.cell? ⟨w.heap.size, 1, none⟩ = some (.slice fa F.cs.length fc)) (first | exact x1 | exact S9.out | exact S10.out) (first
                | (go_at_call 59; refine (RO.out _ (by first | exact Below.refl _ _ | exact below_drewN (Below.refl _ _) _ | exact (Below.refl _ _).drew)).mono ?_; rintro e w9 ⟨v9, rfl, g9, b9⟩; have B9 : Hid (Below wr.heap.size wr w9) := Lib.hid ((below_drewN (Below.refl wr.heap.size wr) 1).trans b9); have I9 := Lib.hid (SI.vl (d := (0 : Int)) (Grows.si g9)); have S9 := Lib.hid (keep_cell HX1.out B9.out hxr); clear b9 g9)
                | (go_at_call 52; refine (RU.out _ _ (by first | exact B9.out | exact below_drewN B9.out _) (by first | exact I9.out | exact I9.out.drewN _)).mono ?_; rintro e w10 ⟨ka, kn, kc, mb, ba, bn, bc, rfl, b10⟩; have B10 : Hid (Below wr.heap.size wr w10) := Lib.hid (B9.out.trans (b10.mono B9.out.size)); have S10 := Lib.hid (keep_cell HX1.out B10.out hxr); clear b10))
              all_goals
                go_wp2_with fail
                go_roundg (gk - 1)
                case measure => omega
                case rel => exact ⟨k + 1, by omega, by omega, by go_num, fun j hj => by
                  by_cases e : j = k
                  · subst e; exact HE.out
                  · exact HBR.out j (by omega), HB.out.trans (B10.out.mono HB.out.size)⟩
          · obtain rfl : k = P.length := by omega
            obtain ⟨b, off, cap, ad, cn, cc, e, cD, hcn, ID⟩ := lv_cell (i := P.length - 1) (HU.out wr HBW.out) (by omega)
            injection e with e1 _ e3
            subst e1
            have HE : Hid (ipB F P = decide (cn = 0)) := Lib.hid (by rw [ip_last H1.out ⟨p1, p2⟩ H2.out HBR.out, hcn]; rfl)
            have f1 : IntKind.i64.wrap ((P.length : Int) - 1) = (P.length : Int) - 1 := IntWalk.i64_in _ (by omega)
            have f2 : (1 : Int) ≤ (P.length : Int) := by omega
            have f3 : ((P.length : Int) - 1).toNat = P.length - 1 := by omega
            have f4 : (P.length : Int) - 1 < (P.length : Int) := by omega
            have hcs : cn ≤ 1048576 := by have := oP.short (P.length - 1); omega
            generalize P.length - 1 = q at cD f3
            clear e3 ID hcn
            by_cases z : cn = 0
            · subst z
              go_wp2_with fail
              go_ret
              exact says HE.out.symm HBW.out
            · have z' : ((cn : Int) == 0) = false := by rw [beq_eq_false_iff_ne]; omega
              have HE2 : Hid (ipB F P = false) := Lib.hid (by rw [HE.out, decide_eq_false z])
              go_wp2_with fail
              go_ret
              exact says HE2.out.symm HBW.out
    · have HE := Lib.hid (ip_2 (F := F) hp)
      rw [HE.out]
      have HFR : Hid (∀ W, Calls Try.prog 56 #[.int .i64 1, .int .i64 (P.length : Int), .int .i64 128] W (Tells false W)) := Lib.hid fun W => isFrom_is false (P.length : Int) 1 128 W (notFrom hp)
      clear h1 hF hp
      go_enter Try.func26, Try.ntmps26
      go_wp2_with fail
      go_at_call 50; refine (implForm_any _ F _ ⟨_, rfl, HL.out _ (HB1.out _)⟩ o).mono ?_; rintro e w4 ⟨rfl, b4⟩
      rw [H1.out]
      have B4 := Lib.hid ((HB1.out _).trans (b4.mono (by simp)))
      clear b4
      go_wp2_with fail
      go_at_call 56; refine (HFR.out _).mono ?_; rintro e w5 ⟨rfl, n5, rfl⟩
      go_wp2_with fail
      go_ret
      exact says rfl (below_drewN B4.out _)
end Go.Proofs.Ytnakpfbeeekmiaa
