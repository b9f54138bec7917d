/- Over all choices that begin with a list: the recursive walk (fits: differsIn$1). -/
import Derived.Test.YtiobbclciboggaaEx1
import Derived.Test.YtiobbclciboggaaLs
import Derived.Test.YtiobbclciboggaaNw0
import Derived.RangeFuncBound
import Derived.RangeFuncSeq
import Derived.OwnWalkIn
import Derived.TacticsInMore
import Derived.Deep.RegionLaw
import Derived.Deep.RegionHeld3
import Derived.Laws.EntriesVeiled
namespace Go.Proofs.Ytiobbclciboggaa
open Go.RowKit Go.ChangeShapes Go.WideShapes

abbrev fitD : Value := .func (.func 109) #[] #[]
theorem Went.cell {S : Nat → Prop} {o : Option Nat} {p : Nat} {w w' : World} (h : Went S o p w w') {g j : Nat} {a : Value} (hc : w.cell? ⟨g, j, none⟩ = some a) (hs : ¬ S g) (ho : o ≠ some g) : w'.cell? ⟨g, j, none⟩ = some a := by
  rw [World.cell?_of_block (w := w) (a := ⟨g, j, none⟩) (h.block g (cell_block hc) hs ho)]; exact hc
theorem Went.box {S : Nat → Prop} {o : Option Nat} {p : Nat} {w w' : World} (h : Went S o p w w') {g : Nat} {a b : Value} (hc : Box2 w g a b) (hs : ¬ S g) (ho : o ≠ some g) : Box2 w' g a b := ⟨h.cell hc.c0 hs ho, h.cell hc.c1 hs ho⟩
/-- What one tells with each choice. -/
structure TellD (w0 : World) (n l : Nat) (S : Nat → Prop) (N : Nat) (J Jx : List (List Int) → World → Prop) : Prop where
  low : w0.heap.size ≤ n
  s1 : ∀ k, S k → w0.heap.size ≤ k
  s2 : ∀ k, S k → k < n
  keep : ∀ pre W W', J pre W → Below n W W' → J pre W'
  below : ∀ pre W, J pre W → Below w0.heap.size w0 W
  yield : ∀ m pre C v W, J pre W → C.length = N → IL W v C → YieldAt Fence.wide m Try.prog l #[v] W fun e W' =>
    But S W W' ∧ ((e = .returned (.bool true) ∧ J (pre ++ [C]) W') ∨ (e = .returned (.bool false) ∧ Jx (pre ++ [C]) W'))
/-- What a walk over some choices leaves. -/
def GoesOn (S : Nat → Prop) (J Jx : List (List Int) → World → Prop) (pre X : List (List Int)) (g : Option Nat) (p : Nat) (W : World) (e : Ending) (W' : World) : Prop :=
  ∃ b, e = .returned (.bool b) ∧ Went S g p W W' ∧ (b = true → J (pre ++ X) W') ∧ (b = false → ∃ q, q <+: X ∧ q ≠ [] ∧ Jx (pre ++ q) W')
theorem But.went {S : Nat → Prop} {w w' : World} (h : But S w w') {g : Option Nat} {p : Nat} (hg : ∀ k, g = some k → ¬ S k) : Went S g p w w' :=
  ⟨h.os, h.tape, h.output, h.size, fun k hk hs _ => h.block k hk hs, fun k e cur _ _ hc => ⟨cur, (h.block k (Array.getElem?_eq_some_iff.1 hc).1 (hg k e)).trans hc, rfl, rfl⟩⟩
theorem goes_yes {S : Nat → Prop} {J Jx : List (List Int) → World → Prop} {pre X : List (List Int)} {g : Option Nat} {p : Nat} {W W' : World} (h : J (pre ++ X) W') (k : Went S g p W W') : GoesOn S J Jx pre X g p W (.returned (.bool true)) W' :=
  ⟨true, rfl, k, fun _ => h, fun e => Bool.noConfusion e⟩
theorem goes_no {S : Nat → Prop} {J Jx : List (List Int) → World → Prop} {pre X : List (List Int)} {g : Option Nat} {p : Nat} {W W' : World} {q : List (List Int)} (h1 : q <+: X) (h2 : q ≠ []) (h : Jx (pre ++ q) W') (k : Went S g p W W') : GoesOn S J Jx pre X g p W (.returned (.bool false)) W' :=
  ⟨false, rfl, k, fun e => Bool.noConfusion e, fun _ => ⟨q, h1, h2, h⟩⟩
set_option maxRecDepth 100000 in
set_option maxHeartbeats 4000000 in
theorem extendD_end (w0 : World) (n l : Nat) (S : Nat → Prop) (J Jx : List (List Int) → World → Prop) (Ls : List (List Int)) (T : TellD w0 n l S Ls.length J Jx) (lv : Value) (hlv : LV w0 lv Ls)
    (P : List Int) (pre : List (List Int)) (v : Value) (W : World) (hP : P.length = Ls.length) (hn : n ≤ W.heap.size) (hG : Grows (Value.int .i64) 2 n v P W) (hJ : J pre W) :
    Calls Try.prog 156 #[.agg #[lv, fitD], v, .func (.yield l) #[] #[]] W (GoesOn S J Jx pre [P] v.ownBlock P.length W) := by
  obtain ⟨la, lc, rfl⟩ := hlv.long
  obtain ⟨va, vc, hve⟩ := VL.len (d := (0 : Int)) hG.si.vl
  rw [← hP]
  have hb := below_alloc W (.cells #[.slice la P.length lc, fitD] 75)
  have X0 := Box2.mk' W (.slice la P.length lc) fitD 75
  have hJ1 : J pre (W.alloc (.cells #[.slice la P.length lc, fitD] 75)) := T.keep _ _ _ hJ (hb.mono hn)
  have hIL : IL (W.alloc (.cells #[.slice la P.length lc, fitD] 75)) v P := (SI.vl hG.si).below hb (Nat.le_refl _)
  have hblk : ∀ k, v.ownBlock = some k → n ≤ k := fun k hk => (World.ownsRow.lt hG k hk).1
  have HB := Lib.hid hb
  have HBK := Lib.hid hblk
  have hs1 := T.s1
  have hs2 := T.s2
  refine (callsIn_wide (n := 5)).1 ?_
  obtain ⟨fn, tmps, assign, body, hy, hR⟩ := T.yield (5 - 1) pre P v _ hJ1 hP hIL
  have HS := Lib.hid (And.intro hs1 hs2)
  clear hG hJ hIL hJ1 hlv hb hblk hs1 hs2 T hP hn
  subst hve
  have HX := Lib.hid X0
  obtain ⟨c0, c1⟩ := X0
  refine callsIn_of_wp Try.func156 rfl trivial ?_ rfl
  simp only [Try.ntmps156, List.size_toArray, List.length_cons, List.length_nil, Nat.reduceAdd, Nat.reduceSub, Array.replicate_succ, Array.replicate_zero, List.push_toArray, List.append_toArray, List.nil_append, List.cons_append]
  gi_wp2_with (first | (refine hR.mono ?_; clear hR; rintro e W2 ⟨hb2, ⟨rfl, hJ2⟩ | ⟨rfl, hx2⟩⟩))
  · go_ret
    exact goes_yes hJ2 ((Went.of_below HB.out (Nat.le_refl _)).trans (hb2.went fun k hk hs => by have := HBK.out k hk; have := HS.out.2 k hs; omega))
  · go_ret
    exact goes_no (List.prefix_refl _) (by simp) hx2 ((Went.of_below HB.out (Nat.le_refl _)).trans (hb2.went fun k hk hs => by have := HBK.out k hk; have := HS.out.2 k hs; omega))
set_option maxRecDepth 100000 in
set_option maxHeartbeats 8000000 in
theorem extendD_step (w0 : World) (n l : Nat) (S : Nat → Prop) (J Jx : List (List Int) → World → Prop) (Ls : List (List Int)) (T : TellD w0 n l S Ls.length J Jx) (lv : Value) (hlv : LV w0 lv Ls)
    (hD : ∀ i, (Ls.getD i []).length ≤ 1000 ∧ ∀ x ∈ Ls.getD i [], 0 ≤ x ∧ x ≤ 1000) (hLs : Ls.length ≤ 1000) (f : Nat)
    (ih : ∀ (Q : List Int) (pr : List (List Int)) (u : Value) (W : World), Q.length + f = Ls.length → Beg Ls Q → n ≤ W.heap.size → Grows (Value.int .i64) 2 n u Q W → J pr W →
      Calls Try.prog 156 #[.agg #[lv, fitD], u, .func (.yield l) #[] #[]] W (GoesOn S J Jx pr (exts nwB Ls f Q) u.ownBlock Q.length W))
    (P : List Int) (pre : List (List Int)) (v : Value) (W : World) (hP : P.length + (f + 1) = Ls.length) (hBe : Beg Ls P) (hn : n ≤ W.heap.size) (hG : Grows (Value.int .i64) 2 n v P W) (hJ : J pre W) :
    Calls Try.prog 156 #[.agg #[lv, fitD], v, .func (.yield l) #[] #[]] W (GoesOn S J Jx pre (exts nwB Ls (f + 1) P) v.ownBlock P.length W) := by
  have IH := Lib.hid ih
  have HT := Lib.hid T
  have HBe := Lib.hid hBe
  have hpl : P.length < Ls.length := by omega
  have hbel := T.below _ _ hJ
  obtain ⟨hd1, hd2⟩ := hD P.length
  obtain ⟨D, hDD⟩ : ∃ D, D = Ls.getD P.length [] := ⟨_, rfl⟩
  rw [← hDD] at hd1 hd2
  obtain ⟨va, vc, hve⟩ := VL.len (d := (0 : Int)) hG.si.vl
  rcases hlv with ⟨hz, -⟩ | ⟨lb, lo, lcap, U, rfl, hpos, hlb, hcell⟩
  · rw [hz] at hpl; simp at hpl
  obtain ⟨cU, iU⟩ := hcell P.length hpl
  rw [← hDD] at iU
  have IU := Lib.hid iU
  obtain ⟨G, hGG⟩ : ∃ G, G = exts nwB Ls (f + 1) P := ⟨_, rfl⟩
  have HG0 : Hid ([] ++ extsL (exts nwB Ls f) nwB P (D.drop 0) = G) := Lib.hid (by rw [hGG, exts_up, ← hDD]; rfl)
  rw [← hGG]
  have HDD := Lib.hid hDD
  have cW := hbel.cell (p := ⟨lb, lo + P.length, none⟩) hlb
  rw [cU] at cW
  obtain ⟨u, hu⟩ : ∃ u, u = U P.length := ⟨_, rfl⟩
  rw [← hu] at cW iU IU
  have CW := Lib.hid cW
  have hb := below_alloc W (.cells #[.slice (some ⟨lb, lo, none⟩) Ls.length (Ls.length + lcap), fitD] 75)
  have hW1 : (W.alloc (.cells #[.slice (some ⟨lb, lo, none⟩) Ls.length (Ls.length + lcap), fitD] 75)).heap.size = W.heap.size + 1 := by simp
  have X0 := Box2.mk' W (.slice (some ⟨lb, lo, none⟩) Ls.length (Ls.length + lcap)) fitD 75
  have J0 := Lib.hid (T.keep (pre ++ []) _ _ (by rw [List.append_nil]; exact hJ) (hb.mono hn))
  have G0 := Lib.hid (Grows.below hG hb (Nat.le_refl _))
  have hblk : ∀ k, v.ownBlock = some k → n ≤ k ∧ k < W.heap.size := fun k hk => World.ownsRow.lt hG k hk
  have HBK := Lib.hid hblk
  have W0 := Lib.hid (Went.of_below (S := S) (g := v.ownBlock) (p := P.length) hb (Nat.le_refl _))
  have XC := Lib.hid X0
  have cW1 : (W.alloc (.cells #[.slice (some ⟨lb, lo, none⟩) Ls.length (Ls.length + lcap), fitD] 75)).cell? ⟨lb, lo + P.length, none⟩ = some u := (hb.cell (p := ⟨lb, lo + P.length, none⟩) (Nat.lt_of_lt_of_le hlb hbel.size)).trans cW
  have hsv := hve
  obtain ⟨c0, c1⟩ := X0
  have HVE := Lib.hid hve
  clear hGG hDD hcell cU hu cW ih T hBe hJ hG hb hblk hbel hve hW1
  subst hsv
  obtain ⟨ua, uc, hue⟩ := iU.len
  have HUE := Lib.hid hue
  rw [hue] at cW1
  obtain ⟨ow, how⟩ : ∃ ow, ow = (Value.slice va P.length vc).ownBlock := ⟨_, rfl⟩
  rw [← how] at HBK W0 ⊢
  have HOW := Lib.hid how
  obtain ⟨W1, hW1⟩ : ∃ W1, W1 = W.alloc (.cells #[.slice (some ⟨lb, lo, none⟩) Ls.length (Ls.length + lcap), fitD] 75) := ⟨_, rfl⟩
  have HWB : Hid (Below W.heap.size W W1) := Lib.hid (by rw [hW1]; exact below_alloc _ _)
  have HNS : Hid (¬ S W.heap.size) := Lib.hid (fun hs => by have := HT.out.s2 _ hs; omega)
  have HSZ : Hid (W1.heap.size = W.heap.size + 1) := Lib.hid (by rw [hW1]; simp)
  have HR0 : Hid (Went S ow P.length W1 W1) := Lib.hid (Went.refl _ _ _ _)
  have HW1 := Lib.hid hW1
  rw [← hW1] at J0 G0 W0 XC
  clear hW1 hue how iU
  go_enter Try.func156, Try.ntmps156
  go_wp2_with fail
  rw [← HW1.out]
  clear c0 c1 cW1
  go_loopg [25] D.length (fun gk i wr => ∃ (k : Nat) (mk : List (List Int)), k ≤ D.length ∧ gk + k = D.length ∧ i = .int .i64 k ∧ J (pre ++ mk) wr ∧ mk ++ extsL (exts nwB Ls f) nwB P (D.drop k) = G ∧ Went S ow P.length W1 wr)
  case atStart => exact ⟨0, [], Nat.zero_le _, by omega, rfl, J0.out, HG0.out, HR0.out⟩
  case round =>
    obtain ⟨k, mk, hk, hgk, rfl, hJk, hGk, hWk⟩ := hrel
    have HJ := Lib.hid hJk
    have HGk := Lib.hid hGk
    have HWk := Lib.hid hWk
    have hnw : n ≤ wr.heap.size := by have := hWk.size; have := HSZ.out; omega
    have hbw := HT.out.below _ _ hJk
    clear hJk hGk
    by_cases hkl : k < D.length
    · have hIU := IU.out
      rcases hIU with ⟨hz, -⟩ | ⟨ub, uo, ucap, hue2, hdp, hub, hucell⟩
      · rw [hz] at hkl; simp at hkl
      rw [HUE.out] at hue2
      injection hue2 with e1 e2 e3
      clear e2 e3
      subst e1
      have c9 : wr.cell? ⟨ub, uo + k, none⟩ = some (.int .i64 (D.getD k 0)) := (hbw.cell (p := ⟨ub, uo + k, none⟩) hub).trans (hucell k hkl)
      have hxm := getD_in hkl
      obtain ⟨x, hx⟩ : ∃ x, x = D.getD k 0 := ⟨_, rfl⟩
      rw [← hx] at c9 hxm
      have HX := Lib.hid hx
      obtain ⟨hx0, hx1⟩ := hd2 x hxm
      have XB := Lib.hid (hWk.box XC.out (fun hs => by have := HT.out.s2 _ hs; omega) (fun e => by have := (HBK.out _ e).2; omega))
      have GV := Lib.hid (Grows.went G0.out (HOW.out ▸ hWk))
      obtain ⟨c0, c1⟩ := XB.out
      clear hx hucell hub hWk hbw
      cases q : nwB P x with
      | false =>
        have HQ := Lib.hid q
        have HN : Hid (mk ++ extsL (exts nwB Ls f) nwB P (D.drop (k + 1)) = G) := Lib.hid (by rw [← HGk.out, extsL_no hkl (by rw [← HX.out]; exact HQ.out)])
        have hpl2 : P.length ≤ 1000 := by omega
        have HCL : Hid (∀ m, Calls Try.prog 109 #[.slice va P.length vc, .int .i64 x] (wr.drewN m) fun e w' => e = .returned (.bool false) ∧ ∃ j, w' = (wr.drewN m).drewN j) := Lib.hid fun m => HQ.out ▸ new_any _ P x _ (VL.drewN (SI.vl (Grows.si GV.out)) m) hpl2 hx0 hx1
        clear q
        go_wp2_with fail
        go_quiet ((go_at_call 109; with_reducible exact Calls.quiet_of (HCL.out _)))
        go_wp2_with fail
        go_roundg (gk - 1)
        case measure => omega
        case rel => exact ⟨k + 1, mk, by omega, by omega, by go_num, HT.out.keep _ _ _ HJ.out (below_drewN (Below.refl _ _) _), HN.out, HWk.out.trans (Went.of_below (below_drewN (Below.refl _ _) _) (Nat.le_refl _))⟩
      | true =>
        have HQ := Lib.hid q
        have hpl2 : P.length ≤ 1000 := by omega
        have hnw2 : ∀ m, n ≤ (wr.drewN m).heap.size := fun m => hnw
        have HNW := Lib.hid hnw2
        have HIL : Hid (∀ m, IL (wr.drewN m) (.slice va P.length vc) P) := Lib.hid fun m => VL.drewN (SI.vl (Grows.si GV.out)) m
        have HGE : Hid (mk ++ (exts nwB Ls f (P ++ [x]) ++ extsL (exts nwB Ls f) nwB P (D.drop (k + 1))) = G) := Lib.hid (by rw [← HGk.out, extsL_yes hkl (by rw [← HX.out]; exact HQ.out), ← HX.out])
        have HB2 : Hid (Beg Ls (P ++ [x])) := Lib.hid (HBe.out.snoc hpl (by have := getD_in hkl; rw [← HX.out] at this; exact HDD.out ▸ this))
        have HB9 : Hid (∀ m o, Below wr.heap.size wr ((wr.drewN m).alloc o)) := Lib.hid fun m o => (below_drewN (Below.refl wr.heap.size wr) m).alloc (Nat.le_refl _) o
        have HK9 : Hid (∀ m o, ((wr.drewN m).alloc o).cell? ⟨W.heap.size, 0, none⟩ = some (.slice (some ⟨lb, lo, none⟩) Ls.length (Ls.length + lcap)) ∧ ((wr.drewN m).alloc o).cell? ⟨W.heap.size, 1, none⟩ = some fitD) := Lib.hid fun m o => ⟨(XB.out.keep (HB9.out m o) XB.out.lt).c0, (XB.out.keep (HB9.out m o) XB.out.lt).c1⟩
        have HN9 : Hid (∀ m o, n ≤ ((wr.drewN m).alloc o).heap.size) := Lib.hid fun m o => Nat.le_trans hnw (HB9.out m o).size
        have HNB : Hid ((Value.slice va P.length vc).ownBlock ≠ some W.heap.size) := Lib.hid fun e => by have := (HBK.out _ (HOW.out ▸ e)).2; omega
        clear q
        go_wp2_with fail
        refine wp_region_held_drew (S := (fun w' => w'.cell? ⟨W.heap.size, 0, none⟩ = some (.slice (some ⟨lb, lo, none⟩) Ls.length (Ls.length + lcap)) ∧ w'.cell? ⟨W.heap.size, 1, none⟩ = some fitD)) (by kernel_rfl) (by first | exact ⟨c0, c1⟩ | (dsimp only; exact ⟨c0, c1⟩)) (fun hHeld => ?_)
        refine wpAnyH_take (i := 0) (v := ?_) rfl (by kernel_rfl) (by kernel_rfl) (by kernel_rfl) (fun _ _ _ h => h) (Or.inl ⟨by rfl, ?_⟩) hHeld ?_
        rotate_left
        · (intro w hSw; (try dsimp only at hSw); go_simp <;> first | done | with_reducible rfl)
        try simp only [Act.put, List.getElem_toArray, List.getElem_cons_zero, List.setIfInBounds_toArray, List.set_cons_zero, List.set_cons_succ]
        refine wpAnyH_take (i := 2) (v := ?_) rfl (by kernel_rfl) (by kernel_rfl) (by kernel_rfl) (fun _ _ _ h => h) (Or.inl ⟨by rfl, ?_⟩) hHeld ?_
        rotate_left
        · (intro w hSw; (try dsimp only at hSw); go_simp <;> first | done | with_reducible rfl)
        try simp only [Act.put, List.getElem_toArray, List.getElem_cons_succ, List.getElem_cons_zero, List.setIfInBounds_toArray, List.set_cons_zero, List.set_cons_succ]
        refine wpAnyH_take (i := 3) (v := ?_) rfl (by kernel_rfl) (by kernel_rfl) (by kernel_rfl) (fun _ _ _ h => h) (Or.inl ⟨by rfl, ?_⟩) hHeld ?_
        rotate_left
        · (intro w hSw; (try dsimp only at hSw); go_simp <;> first | done | with_reducible rfl)
        try simp only [Act.put, List.getElem_toArray, List.getElem_cons_succ, List.getElem_cons_zero, List.setIfInBounds_toArray, List.set_cons_zero, List.set_cons_succ]
        refine wpAnyH_take (i := 1) (v := ?_) rfl (by kernel_rfl) (by kernel_rfl) (by kernel_rfl) (fun _ _ _ h => h) (Or.inl ⟨by rfl, ?_⟩) hHeld ?_
        rotate_left
        · (intro w hSw; (try dsimp only at hSw); go_simp <;> first | done | with_reducible rfl)
        try simp only [Act.put, List.getElem_toArray, List.getElem_cons_succ, List.getElem_cons_zero, List.setIfInBounds_toArray, List.set_cons_zero, List.set_cons_succ]
        refine wpAnyH_ready (rs := [4]) (by kernel_rfl) (by simp) (AllReadyH.cons rfl (fun K hK => ?_) AllReadyH.nil)
        go_simp
        go_at_call 109; refine (new_any _ P x _ (HIL.out 1) hpl2 hx0 hx1).mono ?_; rintro e w' ⟨rfl, m, rfl⟩; rw [HQ.out]; go_wp2_with fail
        refine hK.out _ _ (by first | exact ⟨c0, c1⟩ | (dsimp only; exact ⟨c0, c1⟩)) (fun hHeld2 => ?_)
        clear hK K hHeld
        rename _ => hHeld
        try simp only [Act.put, List.getElem_toArray, List.getElem_cons_succ, List.getElem_cons_zero, List.setIfInBounds_toArray, List.set_cons_zero, List.set_cons_succ]
        refine wpAnyH_take (i := 5) (v := ?_) rfl (by kernel_rfl) (by kernel_rfl) (by kernel_rfl) (fun _ _ _ h => h) (Or.inl ⟨by rfl, ?_⟩) hHeld ?_
        rotate_left
        · (intro w hSw; (try dsimp only at hSw); go_simp <;> first | done | with_reducible rfl)
        try simp only [Act.put, List.getElem_toArray, List.getElem_cons_succ, List.getElem_cons_zero, List.setIfInBounds_toArray, List.set_cons_zero, List.set_cons_succ]
        refine wpAnyH_take (i := 6) (v := ?_) rfl (by kernel_rfl) (by kernel_rfl) (by kernel_rfl) (fun _ _ _ h => h) (Or.inl ⟨by rfl, ?_⟩) hHeld ?_
        rotate_left
        · (intro w hSw; (try dsimp only at hSw); go_simp <;> first | done | with_reducible rfl)
        try simp only [Act.put, List.getElem_toArray, List.getElem_cons_succ, List.getElem_cons_zero, List.setIfInBounds_toArray, List.set_cons_zero, List.set_cons_succ]
        refine wpAnyH_take (i := 7) (v := ?_) rfl (by kernel_rfl) (by kernel_rfl) (by kernel_rfl) (fun _ _ _ h => h) (Or.inl ⟨by rfl, ?_⟩) hHeld ?_
        rotate_left
        · (intro w hSw; (try dsimp only at hSw); go_simp <;> first | done | with_reducible rfl)
        try simp only [Act.put, List.getElem_toArray, List.getElem_cons_succ, List.getElem_cons_zero, List.setIfInBounds_toArray, List.set_cons_zero, List.set_cons_succ]
        refine wpAnyH_take (i := 8) (v := ?_) rfl (by kernel_rfl) (by kernel_rfl) (by kernel_rfl) (fun _ _ _ h => h) (Or.inl ⟨by rfl, ?_⟩) hHeld ?_
        rotate_left
        · (intro w hSw; (try dsimp only at hSw); go_simp <;> first | done | with_reducible rfl)
        try simp only [Act.put, List.getElem_toArray, List.getElem_cons_succ, List.getElem_cons_zero, List.setIfInBounds_toArray, List.set_cons_zero, List.set_cons_succ]
        refine wpAnyH_take (i := 11) (v := ?_) rfl (by kernel_rfl) (by kernel_rfl) (by kernel_rfl) (fun _ _ _ h => h) (Or.inl ⟨by rfl, ?_⟩) hHeld ?_
        rotate_left
        · (intro w hSw; (try dsimp only at hSw); go_simp <;> first | done | with_reducible rfl)
        try simp only [Act.put, List.getElem_toArray, List.getElem_cons_succ, List.getElem_cons_zero, List.setIfInBounds_toArray, List.set_cons_zero, List.set_cons_succ]
        refine wpAnyH_ready (rs := [9]) (by kernel_rfl) (by simp) (AllReadyH.cons rfl (fun K hK => ?_) AllReadyH.nil)
        go_simp
        refine hK.out _ _ (by first | exact HK9.out _ _ | (dsimp only; exact HK9.out _ _)) (fun hHeld2 => ?_)
        clear hK K hHeld
        rename _ => hHeld
        try simp only [Act.put, List.getElem_toArray, List.getElem_cons_succ, List.getElem_cons_zero, List.setIfInBounds_toArray, List.set_cons_zero, List.set_cons_succ]
        refine wpAnyH_ready (rs := [10]) (by kernel_rfl) (by simp) (AllReadyH.cons rfl (fun K hK => ?_) AllReadyH.nil)
        refine step_push (by rfl) _ _ rfl n _ P rfl (Grows.below GV.out (HB9.out _ _) (Nat.le_refl _)) hpl2 (HN9.out _ _) _ _ x rfl (World.cell?_alloc_new _ _ _ _) ?_; intro v2 w2 hpu
        refine hK.out _ _ (by first | exact ⟨hpu.went.cell (HK9.out _ _).1 (fun h => h) HNB.out, hpu.went.cell (HK9.out _ _).2 (fun h => h) HNB.out⟩ | (dsimp only; exact ⟨hpu.went.cell (HK9.out _ _).1 (fun h => h) HNB.out, hpu.went.cell (HK9.out _ _).2 (fun h => h) HNB.out⟩)) (fun hHeld2 => ?_)
        clear hK K hHeld
        rename _ => hHeld
        try simp only [Act.put, List.getElem_toArray, List.getElem_cons_succ, List.getElem_cons_zero, List.setIfInBounds_toArray, List.set_cons_zero, List.set_cons_succ]
        refine wpAnyH_ready (rs := [12]) (by kernel_rfl) (by simp) (AllReadyH.cons rfl (fun K hK => ?_) AllReadyH.nil)
        go_simp
        have hv2 : v2.ownBlock ≠ some W.heap.size := by
          rcases hpu.block with e | e
          · rw [e]; exact HNB.out
          · rw [e]; intro h; injection h with h; have := XB.out.lt; simp at h; omega
        go_at_call 156; refine (IH.out (P ++ [x]) (pre ++ mk) v2 w2 (by simp; omega) HB2.out (Nat.le_trans (HN9.out _ _) hpu.went.size) hpu.grows (HT.out.keep _ _ _ HJ.out (((HB9.out _ _).mono hnw).trans (hpu.went.below (HN9.out _ _) (fun _ h => h.elim) (fun k hk => (HBK.out k (HOW.out ▸ hk)).1))))).mono ?_; rintro e w3 ⟨bb, rfl, hwt, hh1, hh2⟩; go_wp2_with fail
        refine hK.out _ _ (by first | exact ⟨hwt.cell hHeld.1 HNS.out hv2, hwt.cell hHeld.2 HNS.out hv2⟩ | (dsimp only; exact ⟨hwt.cell hHeld.1 HNS.out hv2, hwt.cell hHeld.2 HNS.out hv2⟩)) (fun hHeld2 => ?_)
        clear hK K hHeld
        rename _ => hHeld
        try simp only [Act.put, List.getElem_toArray, List.getElem_cons_succ, List.getElem_cons_zero, List.setIfInBounds_toArray, List.set_cons_zero, List.set_cons_succ]
        refine wpAnyH_take (i := 13) (v := ?_) rfl (by kernel_rfl) (by kernel_rfl) (by kernel_rfl) (fun _ _ _ h => h) (Or.inl ⟨by rfl, ?_⟩) hHeld ?_
        rotate_left
        · (intro w hSw; (try dsimp only at hSw); go_simp <;> first | done | with_reducible rfl)
        try simp only [Act.put, List.getElem_toArray, List.getElem_cons_succ, List.getElem_cons_zero, List.setIfInBounds_toArray, List.set_cons_zero, List.set_cons_succ]
        refine wpAnyH_take (i := 14) (v := ?_) rfl (by kernel_rfl) (by kernel_rfl) (by kernel_rfl) (fun _ _ _ h => h) (Or.inl ⟨by rfl, ?_⟩) hHeld ?_
        rotate_left
        · (intro w hSw; (try dsimp only at hSw); go_simp <;> first | done | with_reducible rfl)
        try simp only [Act.put, List.getElem_toArray, List.getElem_cons_succ, List.getElem_cons_zero, List.setIfInBounds_toArray, List.set_cons_zero, List.set_cons_succ]
        refine wpAnyH_done (by kernel_rfl) ?_ _
        have hwt2 : Went S ow P.length wr w3 := Went.deep ((Went.of_below (HB9.out _ _) (Nat.le_refl _)).trans (HOW.out ▸ hpu.went.free)) (by simpa using hwt) (by
          rcases hpu.block with e | e
          · exact Or.inl (e.trans HOW.out.symm)
          · exact Or.inr ⟨_, e, (HB9.out _ _).size⟩) (fun i hi hs => by have := (HBK.out _ hi).1; have := HT.out.s2 _ hs; omega)
        have HWT := Lib.hid (HWk.out.trans hwt2)
        cases bb with
        | true =>
          have HJ3 := Lib.hid (hh1 rfl)
          clear hHeld hwt hwt2 hh1 hh2 hpu c0 c1 c9
          go_wp2_with fail
          go_roundg (gk - 1)
          case measure => omega
          case rel => exact ⟨k + 1, mk ++ exts nwB Ls f (P ++ [x]), by omega, by omega, by go_num, by rw [← List.append_assoc]; exact HJ3.out, by rw [List.append_assoc]; exact HGE.out, HWT.out⟩
        | false =>
          have HJ3 := Lib.hid (hh2 rfl)
          clear hHeld hwt hwt2 hh1 hh2 hpu c0 c1 c9
          go_wp2_with fail
          go_ret
          obtain ⟨q, q1, q2, q3⟩ := HJ3.out
          refine goes_no (q := mk ++ q) ?_ (fun e => q2 (List.append_eq_nil_iff.1 e).2) (by rw [← List.append_assoc]; exact q3) ((Went.of_below HWB.out (Nat.le_refl _)).trans HWT.out)
          rw [← HGE.out]
          exact (List.prefix_append_right_inj _).2 (q1.trans (List.prefix_append _ _))
    · obtain rfl : k = D.length := by omega
      have HE : Hid (mk = G) := Lib.hid (by rw [← HGk.out, extsL_end (Nat.le_refl _), List.append_nil])
      clear hWk hbw
      go_wp2_with fail
      go_ret
      rw [← HE.out]
      exact goes_yes HJ.out ((Went.of_below HWB.out (Nat.le_refl _)).trans HWk.out)
end Go.Proofs.Ytiobbclciboggaa
