/- Rows of the model's own: copies that grow. -/
import Derived.Test.YtajekehidofkiaaGive
import Derived.Deep.AppendLies
import Derived.Deep.RegionLawGrows
namespace Go.Proofs.Ytajekehidofkiaa
open Go.RowKit Go.ChangeShapes Go.WideShapes

/-- Where a list that is not empty lies, in all worlds from here on. -/
def LiesB (w : World) (ad : Addr) (Z : List Nat) : Prop := ∀ w', Below w.heap.size w w' → ∀ j u, (Z.map (Value.float .f32))[j]? = some u → w'.cell? (ad.add j) = some u
theorem SL.liesB {w : World} {v : Value} {Z : List Nat} (h : SL w v Z) (h0 : 0 < Z.length) : ∃ ad cap, v = .slice (some ad) Z.length cap ∧ LiesB w ad Z := by
  rcases h with ⟨rfl, ao, cap, rfl⟩ | ⟨b, off, cap, rfl, hpos, hbl, hcell⟩
  · exact absurd h0 (by simp)
  · refine ⟨_, _, rfl, fun w' hb j u hu => ?_⟩
    have hj : j < Z.length := by
      have := (List.getElem?_eq_some_iff.1 hu).1
      simpa using this
    rw [Go.WideShapes.add_plain, hb.cell (p := ⟨b, off + j, none⟩) hbl, hcell j hj]
    rw [← hu]
    simp [List.getD, hj]
/-- Rows in three rows of the call's own, one behind the other, that may be appended to. -/
def OwnedR (R : Rw) (lo : Nat) (w' : World) (v : Value) : Prop := ∃ v1 v2 v3 a b, v = .agg #[.int .i64 R.vars, v1, v2, v3] ∧ a ≤ b ∧ b ≤ w'.heap.size ∧ Grows (Value.float .f32) 47 lo v1 R.N w' ∧ (∀ k, v1.ownBlock = some k → k < a) ∧ Grows (Value.float .f32) 47 a v2 R.B w' ∧ (∀ k, v2.ownBlock = some k → k < b) ∧ Grows (Value.float .f32) 47 b v3 R.G w'
theorem Grows.empty1 {mk : Nat → Value} (E B : Nat) (w : World) (o : Obj) (h : B ≤ w.heap.size + 1) : Grows mk E B (.slice (some ⟨w.heap.size + 1, 0, none⟩) 0 0) [] ((w.alloc o).alloc (.cells #[] E)) := by
  have e : (w.alloc o).heap.size = w.heap.size + 1 := by simp
  have := Grows.empty mk E B (w.alloc o) (by rw [e]; exact h)
  rw [e] at this
  exact this
theorem Res4.grown {w w' : World} {g : Nat} {row : Option Nat} (h : Res4 w g) (hg : w.grownBy w' row) (hn : row ≠ some g) : Res4 w' g := by
  have hl : g < w.heap.size := by obtain ⟨u, hu⟩ := h.c0; exact cell_block hu
  have hb := hg.block g hl (fun e => hn e.symm)
  have hc : ∀ i, w'.cell? ⟨g, i, none⟩ = w.cell? ⟨g, i, none⟩ := fun i => World.cell?_of_block (w := w) (a := ⟨g, i, none⟩) hb
  exact ⟨by rw [hc]; exact h.c0, by rw [hc]; exact h.c1, by rw [hc]; exact h.c2, by rw [hc]; exact h.c3, fun i => by rw [World.frozen?_of_block (w := w) (a := ⟨g, i, none⟩) hb]; exact h.free i⟩
theorem Grows.other {mk : Nat → Value} {E B gg n c b i : Nat} {Z : List Nat} {w : World} {u : Value} (h : Grows mk E B (.slice (some ⟨gg, 0, none⟩) n c) Z w) (hn : gg ≠ b) : Grows mk E B (.slice (some ⟨gg, 0, none⟩) n c) Z (w.setCell ⟨b, i, none⟩ u) :=
  ownsRow_setCell_other h (a := ⟨b, i, none⟩) (by simp only [Value.ownBlock]; intro e; exact hn (Option.some.inj e)) u
theorem Grows.below {mk : Nat → Value} {E B B2 : Nat} {v : Value} {Z : List Nat} {w w' : World} (h : Grows mk E B v Z w) (hb : Below B2 w w') (hB : w.heap.size ≤ B2) : Grows mk E B v Z w' := by
  refine ⟨h.1, ?_⟩
  rcases h.2 with h2 | ⟨g, cap, cur, rfl, hbg, hg, hr⟩
  · exact Or.inl h2
  · refine Or.inr ⟨g, cap, cur, rfl, hbg, ?_, hr⟩
    have hl : g < w.heap.size := (Array.getElem?_eq_some_iff.1 hg).1
    rw [hb.block g (by omega)]
    exact hg
theorem Grows.mono {mk : Nat → Value} {E B B2 : Nat} {v : Value} {Z : List Nat} {w : World} (h : Grows mk E B v Z w) (hB : B2 ≤ B) : Grows mk E B2 v Z w := by
  refine ⟨h.1, ?_⟩
  rcases h.2 with h2 | ⟨g, cap, cur, rfl, hbg, hr⟩
  · exact Or.inl h2
  · exact Or.inr ⟨g, cap, cur, rfl, Nat.le_trans hB hbg, hr⟩
theorem Grows.at {mk : Nat → Value} {E B gg n c : Nat} {Z : List Nat} {w : World} (h : Grows mk E B (.slice (some ⟨gg, 0, none⟩) n c) Z w) : B ≤ gg ∧ gg < w.heap.size := World.ownsRow.lt h gg rfl
/-- The model's copy of rows, behind the first list. -/
structure OwnAt (R : Rw) (w : World) (g : Nat) (s1 s2 s3 : Value) (ob gg gcap : Nat) (W : World) : Prop where
  below : Below w.heap.size w W
  res : Res4 W w.heap.size
  box : Box4 W ob (.int .i64 R.vars) (.slice (some ⟨gg, 0, none⟩) R.N.length gcap) (.slice none 0 0) (.slice none 0 0)
  free : ∀ i, W.frozen? ⟨ob, i, none⟩ = false
  src : Box4 W g (.int .i64 R.vars) s1 s2 s3
  gr : Grows (Value.float .f32) 47 (w.heap.size + 1) (.slice (some ⟨gg, 0, none⟩) R.N.length gcap) R.N W
  lt : w.heap.size < ob
  ne : gg ≠ ob
  lg : gg < W.heap.size
theorem OwnAt.v1 {R : Rw} {w w1 : World} {g gg gcap : Nat} {s1 s2 s3 : Value} (hr : Res4 w1 w.heap.size) (hb : Below w.heap.size w w1) (hx : Box4 w1 g (.int .i64 R.vars) s1 s2 s3) (hz : w.heap.size < w1.heap.size)
    (hg : Grows (Value.float .f32) 47 (w.heap.size + 1) (.slice (some ⟨gg, 0, none⟩) (0 + R.N.length) gcap) ([] ++ R.N) w1) (hl : gg < w1.heap.size) :
    OwnAt R w g s1 s2 s3 w1.heap.size gg gcap (w1.alloc (.cells #[.int .i64 R.vars, .slice (some ⟨gg, 0, none⟩) R.N.length gcap, .slice none 0 0, .slice none 0 0] 49)) := by
  rw [Nat.zero_add, List.nil_append] at hg
  exact ⟨hb.alloc (Nat.le_of_lt hz) _, hr.keep (below_alloc _ _) hz, Box4.mk' _ _ _ _ _ _, fun i => by go_simp, hx.keep (below_alloc _ _) hx.lt, hg.alloc _, hz, Nat.ne_of_lt hl, by simp; omega⟩
theorem OwnAt.v2 {R : Rw} {w w1 : World} {g gg gcap ob : Nat} {s1 s2 s3 : Value} (hr : Res4 w1 w.heap.size) (hb : Below w.heap.size w w1) (hx : Box4 w1 g (.int .i64 R.vars) s1 s2 s3) (hgw : g < w.heap.size) (hz : w.heap.size < ob) (ho : Res4 w1 ob) (hn : gg ≠ ob)
    (hg : Grows (Value.float .f32) 47 (w.heap.size + 1) (.slice (some ⟨gg, 0, none⟩) (0 + R.N.length) gcap) ([] ++ R.N) w1) (hl : gg < w1.heap.size) :
    OwnAt R w g s1 s2 s3 ob gg gcap ((((w1.setCell ⟨ob, 0, none⟩ (.int .i64 R.vars)).setCell ⟨ob, 1, none⟩ (.slice (some ⟨gg, 0, none⟩) R.N.length gcap)).setCell ⟨ob, 2, none⟩ (.slice none 0 0)).setCell ⟨ob, 3, none⟩ (.slice none 0 0)) := by
  rw [Nat.zero_add, List.nil_append] at hg
  obtain ⟨⟨u0, g0⟩, ⟨u1, g1⟩, ⟨u2, g2⟩, ⟨u3, g3⟩, hf⟩ := ho
  have f0 := hf 0
  have f1 := hf 1
  have f2 := hf 2
  have f3 := hf 3
  have hbx : ((((w1.setCell ⟨ob, 0, none⟩ (.int .i64 R.vars)).setCell ⟨ob, 1, none⟩ (.slice (some ⟨gg, 0, none⟩) R.N.length gcap)).setCell ⟨ob, 2, none⟩ (.slice none 0 0)).setCell ⟨ob, 3, none⟩ (.slice none 0 0)).cell? ⟨ob, 0, none⟩ = some (.int .i64 R.vars) ∧ ((((w1.setCell ⟨ob, 0, none⟩ (.int .i64 R.vars)).setCell ⟨ob, 1, none⟩ (.slice (some ⟨gg, 0, none⟩) R.N.length gcap)).setCell ⟨ob, 2, none⟩ (.slice none 0 0)).setCell ⟨ob, 3, none⟩ (.slice none 0 0)).cell? ⟨ob, 1, none⟩ = some (.slice (some ⟨gg, 0, none⟩) R.N.length gcap) ∧ ((((w1.setCell ⟨ob, 0, none⟩ (.int .i64 R.vars)).setCell ⟨ob, 1, none⟩ (.slice (some ⟨gg, 0, none⟩) R.N.length gcap)).setCell ⟨ob, 2, none⟩ (.slice none 0 0)).setCell ⟨ob, 3, none⟩ (.slice none 0 0)).cell? ⟨ob, 2, none⟩ = some (.slice none 0 0) ∧ ((((w1.setCell ⟨ob, 0, none⟩ (.int .i64 R.vars)).setCell ⟨ob, 1, none⟩ (.slice (some ⟨gg, 0, none⟩) R.N.length gcap)).setCell ⟨ob, 2, none⟩ (.slice none 0 0)).setCell ⟨ob, 3, none⟩ (.slice none 0 0)).cell? ⟨ob, 3, none⟩ = some (.slice none 0 0) := ⟨by go_simp, by go_simp, by go_simp, by go_simp⟩
  have hfx : ∀ i, ((((w1.setCell ⟨ob, 0, none⟩ (.int .i64 R.vars)).setCell ⟨ob, 1, none⟩ (.slice (some ⟨gg, 0, none⟩) R.N.length gcap)).setCell ⟨ob, 2, none⟩ (.slice none 0 0)).setCell ⟨ob, 3, none⟩ (.slice none 0 0)).frozen? ⟨ob, i, none⟩ = false := fun i => by simp [hf]
  have hgx : Grows (Value.float .f32) 47 (w.heap.size + 1) (.slice (some ⟨gg, 0, none⟩) R.N.length gcap) R.N ((((w1.setCell ⟨ob, 0, none⟩ (.int .i64 R.vars)).setCell ⟨ob, 1, none⟩ (.slice (some ⟨gg, 0, none⟩) R.N.length gcap)).setCell ⟨ob, 2, none⟩ (.slice none 0 0)).setCell ⟨ob, 3, none⟩ (.slice none 0 0)) := by
    have q : ∀ (x : World) (i : Nat) (u : Value), Grows (Value.float .f32) 47 (w.heap.size + 1) (.slice (some ⟨gg, 0, none⟩) R.N.length gcap) R.N x → Grows (Value.float .f32) 47 (w.heap.size + 1) (.slice (some ⟨gg, 0, none⟩) R.N.length gcap) R.N (x.setCell ⟨ob, i, none⟩ u) := fun x i u h => ownsRow_setCell_other h (a := ⟨ob, i, none⟩) (by simp only [Value.ownBlock]; intro e; exact hn (Option.some.inj e)) u
    exact q _ _ _ (q _ _ _ (q _ _ _ (q _ _ _ hg)))
  generalize hX : World.setCell _ _ _ = X at hbx hfx hgx ⊢
  have hT : Turned ob (ob + 1) w1 X := by
    rw [← hX]
    repeat (refine Turned.setCell ?_ (by simp) (by simp) _)
    exact Turned.refl _ _ _
  have hl1 := cell_block g0
  have hB := hT.below (Nat.le_of_lt hl1)
  clear hX
  exact ⟨hb.trans (hB.mono (Nat.le_of_lt hz)), hr.keep hB hz, ⟨hbx.1, hbx.2.1, hbx.2.2.1, hbx.2.2.2⟩, hfx, hx.keep hB (by omega), hgx, hz, hn, Nat.lt_of_lt_of_le hl hT.size⟩
set_option maxRecDepth 100000 in
set_option maxHeartbeats 4000000 in
theorem l02Own_any (g : Nat) (s1 s2 s3 : Value) (R : Rw) (w : World) (h : RP w g s1 s2 s3 R) (hR : OkR R) (hN : 0 < R.N.length) (hn : R.size ≤ 1048576) :
    Calls Try.prog 54 #[.pointer (some ⟨g, 0, none⟩)] w (fun e w' => ∃ v, e = .returned v ∧ OwnedR R w.heap.size w' v ∧ Below w.heap.size w w') := by
  obtain ⟨i0, hi, hz0, hz1, hz2⟩ := info_parts Try.infoF
  have hn1 : R.N.length ≤ 1048576 := by unfold Rw.size at hn; omega
  have hn2 : R.B.length ≤ 1048576 := by unfold Rw.size at hn; omega
  have hn3 : R.G.length ≤ 1048576 := by unfold Rw.size at hn; omega
  have hB : 0 < R.B.length := hR.b1
  have hG : 0 < R.G.length := by have := hR.v1; have := hR.g; omega
  have hg : g < w.heap.size := cell_block h.c0
  obtain ⟨c0, c1, c2, c3, r1, r2, r3⟩ := h
  obtain ⟨ad1, cap1, rfl, l1⟩ := r1.liesB hN
  obtain ⟨ad2, cap2, rfl, l2⟩ := r2.liesB hB
  obtain ⟨ad3, cap3, rfl, l3⟩ := r3.liesB hG
  have L1 := Lib.hid l1
  have L2 := Lib.hid l2
  have L3 := Lib.hid l3
  have HX : Hid (Box4 w g (.int .i64 R.vars) (.slice (some ad1) R.N.length cap1) (.slice (some ad2) R.B.length cap2) (.slice (some ad3) R.G.length cap3)) := Lib.hid ⟨c0, c1, c2, c3⟩
  have HOWN := Lib.hid (fun A n => (show (((w.alloc A).alloc (.cells #[] 47)).drewN n).ownsRow (w.heap.size + 1) 47 1 (.slice (some ⟨w.heap.size + 1, 0, none⟩) 0 0) 0 [] from Grows.empty1 (mk := Value.float .f32) _ _ w A (Nat.le_refl _)))
  have HR : Hid (∀ a b c d, Res4 (w.alloc (.cells #[a, b, c, d] 49)) w.heap.size) := Lib.hid fun a b c d => ⟨⟨a, by go_simp⟩, ⟨b, by go_simp⟩, ⟨c, by go_simp⟩, ⟨d, by go_simp⟩, fun i => by go_simp⟩
  have HOWN2 := Lib.hid (fun A B n => (show ((((w.alloc A).alloc (.cells #[] 47)).alloc B).drewN n).ownsRow (w.heap.size + 1) 47 1 (.slice (some ⟨w.heap.size + 1, 0, none⟩) 0 0) 0 [] from (Grows.empty1 (mk := Value.float .f32) _ _ w A (Nat.le_refl _)).alloc B))
  have HOWN3 := Lib.hid (fun A B n => (show ((((w.alloc A).alloc B).alloc (.cells #[] 47)).drewN n).ownsRow (w.heap.size + 1) 47 1 (.slice (some ⟨w.heap.size + 1 + 1, 0, none⟩) 0 0) 0 [] from by
    have e : (w.alloc A).heap.size = w.heap.size + 1 := by simp
    have q := Grows.empty1 (mk := Value.float .f32) 47 (w.heap.size + 1) (w.alloc A) B (by rw [e]; omega)
    rw [e] at q
    exact q))
  have HB2 := Lib.hid (fun A B C => ((below_alloc w A).alloc (by simp) B).alloc (by simp; omega) C)
  have HO2 : Hid (∀ A C a b c d n, Res4 ((((w.alloc A).alloc C).alloc (.cells #[a, b, c, d] 49)).drewN n) (w.heap.size + 1 + 1)) := Lib.hid fun A C a b c d n => ⟨⟨a, by go_simp⟩, ⟨b, by go_simp⟩, ⟨c, by go_simp⟩, ⟨d, by go_simp⟩, fun i => by go_simp⟩
  have HO3 : Hid (∀ A C a b c d n, Res4 ((((w.alloc A).alloc (.cells #[a, b, c, d] 49)).alloc C).drewN n) (w.heap.size + 1)) := Lib.hid fun A C a b c d n => ⟨⟨a, by go_simp⟩, ⟨b, by go_simp⟩, ⟨c, by go_simp⟩, ⟨d, by go_simp⟩, fun i => by go_simp⟩
  have HB := Lib.hid (fun A B => (below_alloc w A).alloc (by simp) B)
  clear r1 r2 r3 l1 l2 l3 hR hn
  have hg1 : g < w.heap.size + 1 := by omega
  have hg2 : g < w.heap.size + 1 + 1 := by omega
  have e0 : ¬ g = w.heap.size := by omega
  have e1 : ¬ g = w.heap.size + 1 := by omega
  have e2 : ¬ g = w.heap.size + 1 + 1 := by omega
  go_enter Try.func54, Try.ntmps54
  go_wp2_with fail
  rename_i Q' K hK
  have REST : ∀ (ob gg gcap : Nat) (x8 : Value) (W : World), OwnAt R w g (.slice (some ad1) R.N.length cap1) (.slice (some ad2) R.B.length cap2) (.slice (some ad3) R.G.length cap3) ob gg gcap W → K { tmps := #[.pointer (some ⟨g, 0, none⟩), undef, .pointer (some ⟨w.heap.size, 0, none⟩), .pointer (some ⟨ob, 0, none⟩), .pointer (some ⟨g, 0, none⟩), .pointer (some ⟨g, 0, none⟩), .pointer (some ⟨g, 0, none⟩), .int .i64 R.vars, x8, .pointer (some ⟨g, 0, none⟩), .pointer (some ⟨g, 0, none⟩), .pointer (some ⟨g, 1, none⟩), .slice (some ad1) R.N.length cap1, .slice (some ⟨gg, 0, none⟩) R.N.length gcap, .agg #[.int .i64 R.vars, .slice (some ⟨gg, 0, none⟩) R.N.length gcap, .slice none 0 0, .slice none 0 0], undef, undef, undef, undef, undef, undef, undef, undef, undef, undef, undef, undef, undef, undef, undef], defers := [] } W := by
    intro ob gg gcap x8 W HA
    apply hK
    obtain ⟨y0, y1, y2, y3⟩ := HA.box
    obtain ⟨z0, z1, z2, z3⟩ := HA.src
    have hob := cell_block y0
    have hgW := cell_block z0
    have HBW := Lib.hid HA.below
    have HRW := Lib.hid HA.res
    have HFW := Lib.hid HA.free
    have HGW := Lib.hid HA.gr
    have HBX := Lib.hid HA.box
    have HSX := Lib.hid HA.src
    have hlt := HA.lt
    have hne := HA.ne
    have hlg := HA.lg
    have HOW := Lib.hid (show (W.alloc (.cells #[] 47)).ownsRow W.heap.size 47 1 (.slice (some ⟨W.heap.size, 0, none⟩) 0 0) 0 [] from Grows.empty (Value.float .f32) _ _ W (Nat.le_refl _))
    have d1 : ¬ g = ob := by omega
    have d2 : ¬ ob = g := by omega
    clear HA hK
    go_wp2_with (at_builtin; refine wpList_append_lies _ rfl _ _ 44 rfl W.heap.size 47 i0 (.float .f32 0) 1 4 Try.underlying44 hi hz0 hz1 hz2 rfl (by decide) (.slice (some ⟨W.heap.size, 0, none⟩) 0 0) 0 [] rfl HOW.out ad2 R.B.length cap2 (R.B.map (Value.float .f32)) rfl (by simp) (fun j u hu => L2.out _ (HBW.out.alloc (by omega) _) j u hu) (map_one _) hB (by unfold maxLen; omega) (by omega) (by simp) (W.heap.size + 1) (by simp) ?_)
    intro g2 gc2 W2 hown2 hgrow2 hat2 hlt2
    have hb2 : Below W.heap.size W W2 := (below_alloc W _).grown hgrow2 (by simp) (fun k hk => by simp [Value.ownBlock] at hk; omega)
    have hn2' : Grows (Value.float .f32) 47 W.heap.size (.slice (some ⟨g2, 0, none⟩) R.B.length gc2) R.B W2 := hown2
    have ha2 := hn2'.at
    have HX2 := HBX.out.keep hb2 hob
    obtain ⟨y0, y1, y2, y3⟩ := HX2
    have HS2 := HSX.out.keep hb2 hgW
    obtain ⟨z0, z1, z2, z3⟩ := HS2
    have hf2 : ∀ i, W2.frozen? ⟨ob, i, none⟩ = false := fun i => by rw [hb2.frozen (p := ⟨ob, i, none⟩) hob]; exact HFW.out i
    have f0 := hf2 0
    have f1 := hf2 1
    have f2 := hf2 2
    have f3 := hf2 3
    have HF2 := Lib.hid hf2
    have HBU := Lib.hid (fun u => ((HBW.out.trans (hb2.mono (by omega))).setCell (p := ⟨ob, 2, none⟩) (by show w.heap.size ≤ ob; omega) u))
    have HRU := Lib.hid (fun u => (HRW.out.keep hb2 (Nat.lt_trans hlt hob)).keep (B := ob) (w' := W2.setCell ⟨ob, 2, none⟩ u) (((Below.refl ob W2).setCell (p := ⟨ob, 2, none⟩) (Nat.le_refl _) u)) hlt)
    have HG1 := Lib.hid (fun u => (Grows.other (b := ob) (i := 2) (u := u) (HGW.out.below hb2 (Nat.le_refl _)) hne))
    have HG2 := Lib.hid (fun u => (Grows.other (b := ob) (i := 2) (u := u) hn2' (by omega)))
    have hW2 : W.heap.size ≤ W2.heap.size := hb2.size
    have hob2 : ob < W2.heap.size := by omega
    have hg2W : g < W2.heap.size := by omega
    have n1 : ¬ g = W2.heap.size := by omega
    have n2 : ¬ ob = W2.heap.size := by omega
    have HZ2 := Lib.hid z3
    have z3' : ∀ u, (W2.setCell ⟨ob, 2, none⟩ u).cell? ⟨g, 3, none⟩ = some (.slice (some ad3) R.G.length cap3) := fun u => by go_simp
    have HOW2 := Lib.hid (fun u => (show ((W2.setCell ⟨ob, 2, none⟩ u).alloc (.cells #[] 47)).ownsRow W2.heap.size 47 1 (.slice (some ⟨W2.heap.size, 0, none⟩) 0 0) 0 [] from by
      have e : (W2.setCell ⟨ob, 2, none⟩ u).heap.size = W2.heap.size := by simp
      have q := Grows.empty (Value.float .f32) 47 W2.heap.size (W2.setCell ⟨ob, 2, none⟩ u) (by rw [e]; exact Nat.le_refl _)
      rw [e] at q
      exact q))
    clear hown2 hgrow2 hat2 hf2 hb2 hn2'
    go_wp2_with (at_builtin; refine wpList_append_lies _ rfl _ _ 44 rfl W2.heap.size 47 i0 (.float .f32 0) 1 4 Try.underlying44 hi hz0 hz1 hz2 rfl (by decide) (.slice (some ⟨W2.heap.size, 0, none⟩) 0 0) 0 [] rfl (HOW2.out _) ad3 R.G.length cap3 (R.G.map (Value.float .f32)) rfl (by simp) (fun j u hu => L3.out _ ((HBU.out _).alloc (by simp; omega) _) j u hu) (map_one _) hG (by unfold maxLen; omega) (by omega) (by simp) (W2.heap.size + 1) (by simp) ?_)
    intro g3 gc3 W3 hown3 hgrow3 hat3 hlt3
    have hb3 : Below W2.heap.size (W2.setCell ⟨ob, 2, none⟩ (.slice (some ⟨g2, 0, none⟩) R.B.length gc2)) W3 := ((Below.refl W2.heap.size (W2.setCell ⟨ob, 2, none⟩ (.slice (some ⟨g2, 0, none⟩) R.B.length gc2))).alloc (by simp) _).grown hgrow3 (by simp) (fun k hk => by simp [Value.ownBlock] at hk; omega)
    have hn3' : Grows (Value.float .f32) 47 W2.heap.size (.slice (some ⟨g3, 0, none⟩) R.G.length gc3) R.G W3 := hown3
    have ha3 := hn3'.at
    have HBX3 : Box4 (W2.setCell ⟨ob, 2, none⟩ (.slice (some ⟨g2, 0, none⟩) R.B.length gc2)) ob (.int .i64 R.vars) (.slice (some ⟨gg, 0, none⟩) R.N.length gcap) (.slice (some ⟨g2, 0, none⟩) R.B.length gc2) (.slice none 0 0) := ⟨by go_simp, by go_simp, by go_simp, by go_simp⟩
    obtain ⟨x0, x1, x2, x3⟩ := HBX3.keep hb3 hob2
    have hf3 : ∀ i, W3.frozen? ⟨ob, i, none⟩ = false := fun i => by rw [hb3.frozen (p := ⟨ob, i, none⟩) hob2, World.frozen?_setCell]; exact HF2.out i
    have k3 := hf3 3
    obtain ⟨⟨u0, r0⟩, ⟨u1, r1⟩, ⟨u2, r2⟩, ⟨u3, r3⟩, hfr⟩ := (HRU.out _).keep hb3 (by omega)
    have q0 := hfr 0
    have q1 := hfr 1
    have q2 := hfr 2
    have q3 := hfr 3
    have M1 := Lib.hid ((HG1.out _).below hb3 (by simp))
    have M2 := Lib.hid ((HG2.out _).below hb3 (by simp))
    have M3 := Lib.hid hn3'
    have hW3 : W2.heap.size ≤ W3.heap.size := by have q := hb3.size; simpa using q
    have MB := Lib.hid ((HBU.out _).trans (hb3.mono (by omega)))
    have d3 : ¬ w.heap.size = ob := by omega
    have d4 : ¬ ob = w.heap.size := by omega
    clear hown3 hgrow3 hat3 hn3' hb3 hfr hf3 HBX3
    go_wp2_with fail
    refine bodyPost_ret (v := .agg #[.int .i64 R.vars, .slice (some ⟨gg, 0, none⟩) R.N.length gcap, .slice (some ⟨g2, 0, none⟩) R.B.length gc2, .slice (some ⟨g3, 0, none⟩) R.G.length gc3]) (by simp [results, Try.results54, r0, r1, r2, r3, go_sem]) rfl ?_
    have e1 : gg ≠ w.heap.size := by have := HGW.out.at; omega
    have e2 : g2 ≠ w.heap.size := by omega
    have e3 : g3 ≠ w.heap.size := by omega
    have e4 : g2 ≠ ob := by omega
    have e5 : g3 ≠ ob := by omega
    refine ⟨_, rfl, ⟨_, _, _, W.heap.size, W2.heap.size, rfl, hW2, by simp; omega, Grows.mono (((((M1.out.other hne).other e1).other e1).other e1).other e1) (by omega), fun k hk => by cases hk; exact hlg, ((((M2.out.other e4).other e2).other e2).other e2).other e2, fun k hk => by cases hk; exact ha2.2, ((((M3.out.other e5).other e3).other e3).other e3).other e3⟩, ?_⟩
    exact ((((MB.out.setCell (p := ⟨ob, 3, none⟩) (by show w.heap.size ≤ ob; omega) _).setCell (Nat.le_refl _) _).setCell (Nat.le_refl _) _).setCell (Nat.le_refl _) _).setCell (Nat.le_refl _) _
  clear hK
  go_region_law (first
    | (refine step_append_lies _ (by rfl) _ _ _ (by rfl) (w.heap.size + 1) 47 i0 _ 1 4 Try.underlying44 hi hz0 hz1 hz2 rfl (by omega) (.slice (some ⟨w.heap.size + 1, 0, none⟩) 0 0) 0 [] (by rfl) (HOWN.out _ _) ad1 R.N.length cap1 (R.N.map (Value.float .f32)) (by rfl) (by simp) (fun j u hu => L1.out _ (below_drewN (HB.out _ _) _) j u hu) (map_one _) (by omega) (by unfold maxLen; omega) (by omega) (by simp) (w.heap.size + 2) (by simp) ?_; intro gg gcap w1 hown1 hgrow hat hlt1; have bg := (below_drewN (below_alloc (w.alloc (.cells #[.int .i64 0, .slice none 0 0, .slice none 0 0, .slice none 0 0] 49)) (.cells #[] 47)) _).grown hgrow (by simp; try omega) (fun k hk => by simp [Value.ownBlock] at hk; simp; omega); have R1 := Lib.hid ((HR.out _ _ _ _).keep bg (by simp)); have B1 := Lib.hid ((below_alloc w _).trans (bg.mono (by simp))); obtain ⟨c0, c1, c2, c3⟩ := HX.out.keep B1.out hg; have hgw : g < w1.heap.size := Nat.lt_of_lt_of_le hg B1.out.size; have hgn : ¬ g = w1.heap.size := Nat.ne_of_lt hgw; have hsw : w.heap.size < w1.heap.size := Nat.lt_of_lt_of_le (by simp) bg.size; have hsn : ¬ w.heap.size = w1.heap.size := Nat.ne_of_lt hsw; have N1 := Lib.hid (Grows.more (Z := []) (news := R.N) (m := R.N.length) rfl hown1); have HL1 := Lib.hid hlt1; clear bg; clear hown1 hgrow hat hlt1)
    | (refine step_append_lies _ (by rfl) _ _ _ (by rfl) (w.heap.size + 1) 47 i0 _ 1 4 Try.underlying44 hi hz0 hz1 hz2 rfl (by omega) (.slice (some ⟨w.heap.size + 1, 0, none⟩) 0 0) 0 [] (by rfl) (HOWN2.out _ _ _) ad1 R.N.length cap1 (R.N.map (Value.float .f32)) (by rfl) (by simp) (fun j u hu => L1.out _ (below_drewN (HB2.out _ _ _) _) j u hu) (map_one _) (by omega) (by unfold maxLen; omega) (by omega) (by simp) (w.heap.size + 3) (by simp) ?_; intro gg gcap w1 hown1 hgrow hat hlt1; have bg := (below_drewN ((below_alloc (w.alloc (.cells #[.int .i64 0, .slice none 0 0, .slice none 0 0, .slice none 0 0] 49)) (.cells #[] 47)).alloc (by simp) (.cells #[.int .i64 0, .slice none 0 0, .slice none 0 0, .slice none 0 0] 49)) _).grown hgrow (by simp; try omega) (fun k hk => by simp [Value.ownBlock] at hk; simp; omega); have R1 := Lib.hid ((HR.out _ _ _ _).keep bg (by simp)); have B1 := Lib.hid ((below_alloc w _).trans (bg.mono (by simp))); obtain ⟨c0, c1, c2, c3⟩ := HX.out.keep B1.out hg; have hgw : g < w1.heap.size := Nat.lt_of_lt_of_le hg B1.out.size; have hgn : ¬ g = w1.heap.size := Nat.ne_of_lt hgw; have hsw : w.heap.size < w1.heap.size := Nat.lt_of_lt_of_le (by simp) bg.size; have hsn : ¬ w.heap.size = w1.heap.size := Nat.ne_of_lt hsw; have N1 := Lib.hid (Grows.more (Z := []) (news := R.N) (m := R.N.length) rfl hown1); have HL1 := Lib.hid hlt1; have RO := (HO2.out _ _ _ _ _ _ _).grown hgrow (by simp [Value.ownBlock]; try omega); obtain ⟨⟨q0, y0⟩, ⟨q1, y1⟩, ⟨q2, y2⟩, ⟨q3, y3⟩, hfo⟩ := RO; have y4 := hfo 0; have y5 := hfo 1; have y6 := hfo 2; have y7 := hfo 3; have HFO := Lib.hid hfo; clear hfo; have hat' := hat; simp only [Value.ownBlock, Option.some.injEq] at hat'; clear bg; clear hown1 hgrow hat hlt1)
    | (refine step_append_lies _ (by rfl) _ _ _ (by rfl) (w.heap.size + 1) 47 i0 _ 1 4 Try.underlying44 hi hz0 hz1 hz2 rfl (by omega) (.slice (some ⟨w.heap.size + 1 + 1, 0, none⟩) 0 0) 0 [] (by rfl) (HOWN3.out _ _ _) ad1 R.N.length cap1 (R.N.map (Value.float .f32)) (by rfl) (by simp) (fun j u hu => L1.out _ (below_drewN (HB2.out _ _ _) _) j u hu) (map_one _) (by omega) (by unfold maxLen; omega) (by omega) (by simp) (w.heap.size + 3) (by simp) ?_; intro gg gcap w1 hown1 hgrow hat hlt1; have bg := (below_drewN ((below_alloc (w.alloc (.cells #[.int .i64 0, .slice none 0 0, .slice none 0 0, .slice none 0 0] 49)) (.cells #[.int .i64 0, .slice none 0 0, .slice none 0 0, .slice none 0 0] 49)).alloc (by simp) (.cells #[] 47)) _).grown hgrow (by simp; try omega) (fun k hk => by simp [Value.ownBlock] at hk; simp; omega); have R1 := Lib.hid ((HR.out _ _ _ _).keep bg (by simp)); have B1 := Lib.hid ((below_alloc w _).trans (bg.mono (by simp))); obtain ⟨c0, c1, c2, c3⟩ := HX.out.keep B1.out hg; have hgw : g < w1.heap.size := Nat.lt_of_lt_of_le hg B1.out.size; have hgn : ¬ g = w1.heap.size := Nat.ne_of_lt hgw; have hsw : w.heap.size < w1.heap.size := Nat.lt_of_lt_of_le (by simp) bg.size; have hsn : ¬ w.heap.size = w1.heap.size := Nat.ne_of_lt hsw; have N1 := Lib.hid (Grows.more (Z := []) (news := R.N) (m := R.N.length) rfl hown1); have HL1 := Lib.hid hlt1; have RO := (HO3.out _ _ _ _ _ _ _).grown hgrow (by simp [Value.ownBlock]; try omega); obtain ⟨⟨q0, y0⟩, ⟨q1, y1⟩, ⟨q2, y2⟩, ⟨q3, y3⟩, hfo⟩ := RO; have y4 := hfo 0; have y5 := hfo 1; have y6 := hfo 2; have y7 := hfo 3; have HFO := Lib.hid hfo; clear hfo; have hat' := hat; simp only [Value.ownBlock, Option.some.injEq] at hat'; clear bg; clear hown1 hgrow hat hlt1)
    )
  all_goals first
    | exact REST _ _ _ _ _ (OwnAt.v1 R1.out B1.out ⟨c0, c1, c2, c3⟩ hsw N1.out HL1.out)
    | exact REST _ _ _ _ _ (OwnAt.v2 R1.out B1.out ⟨c0, c1, c2, c3⟩ hg (by omega) ⟨⟨_, y0⟩, ⟨_, y1⟩, ⟨_, y2⟩, ⟨_, y3⟩, HFO.out⟩ (by omega) N1.out HL1.out)
end Go.Proofs.Ytajekehidofkiaa
