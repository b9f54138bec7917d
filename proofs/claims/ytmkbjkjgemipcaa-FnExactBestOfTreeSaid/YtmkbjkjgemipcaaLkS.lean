/- What one looks at in a tree: the model. -/
import Derived.Test.YtmkbjkjgemipcaaLkM
import Derived.Test.YtmkbjkjgemipcaaMin0
namespace Go.Proofs.Ytmkbjkjgemipcaa
open Go.RowKit Go.ChangeShapes Go.WideShapes

set_option maxRecDepth 100000 in
set_option maxHeartbeats 8000000 in
theorem l07Look_any (P V : List Int) (gt g b1 o1 c1 b2 o2 c2 : Nat) (ok : TreeOk P V) : ∀ (f a : Nat) (lo hi z : Int) (wr : World), a < P.length → P.length ≤ a + f → TrN wr gt g b1 o1 c1 b2 o2 c2 P V → LkAt wr g z wr →
    Calls Try.prog 75 #[.pointer (some ⟨gt, 0, none⟩), .int .i64 a, .bool (evB P a), .int .i64 lo, .int .i64 hi, .pointer (some ⟨g, 0, none⟩)] wr (fun e w' => e = .returned (.int .i64 (lkF P V f a lo hi z).1) ∧ LkAt wr g (lkF P V f a lo hi z).2 w') := by
  intro f
  induction f with
  | zero => intro a lo hi z wr h1 h2; omega
  | succ f ih =>
  intro a lo0 hi0 z0 w ha hf hT hL
  have IH := Lib.hid ih
  have OK := Lib.hid ok
  have n2 := ok.l2
  have lv := ok.lv
  have HT := Lib.hid hT
  have HL := Lib.hid hL
  clear ih hT hL ok
  obtain ⟨ev, hev⟩ : ∃ ev, ev = evB P a := ⟨_, rfl⟩
  have HEV := Lib.hid hev
  rw [← hev]
  clear hev
  go_enter Try.func75, Try.ntmps75
  go_wp2_with fail
  go_at_call 71; refine (l07Children_any gt a ⟨P, V⟩ _ HT.out.tr n2).mono ?_; rintro e w1 ⟨u, rfl, iu, b1u⟩
  have L1 := Lib.hid (HL.out.below b1u)
  have T1 := Lib.hid (HT.out.kept (Turned.of_below b1u (Nat.le_refl _)))
  have hgl := cell_block HL.out.cell
  obtain ⟨L, hLL⟩ : ∃ L, L = chL P a := ⟨_, rfl⟩
  have HLL := Lib.hid hLL
  simp only at iu
  rw [← hLL] at iu
  by_cases hl0 : L.length = 0
  · obtain ⟨ux, uk, rfl⟩ := iu.len
    rw [hl0]
    have hr := lkF_end (P := P) (V := V) (f := f) (a := a) (lo := lo0) (hi := hi0) (z := z0) (by rw [← hLL]; exact hl0)
    have HR := Lib.hid hr
    have x0 := L1.out.cell
    have x1 := L1.out.free
    obtain ⟨bx0, bx1⟩ := T1.out.box
    have y0 := T1.out.cs2 a (by omega)
    have hav : (a : Int) < (V.length : Int) := by omega
    have hgt := T1.out.n1
    have hgb := T1.out.n3
    have LS := Lib.hid (L1.out.set (Go.RowKit.wrap64 (z0 + 1)))
    obtain ⟨y, hy⟩ : ∃ y, y = V.getD a 0 := ⟨_, rfl⟩
    have HY := Lib.hid hy
    rw [← hy] at y0
    clear iu b1u hl0 hr hLL hy lv
    go_wp2_with fail
    go_ret
    rw [HR.out, ← HY.out]
    exact ⟨rfl, LS.out⟩
  have hlen : L.length ≤ 64 := by rw [hLL]; exact Nat.le_trans (chN_len P a _) n2
  have hr := lkF_in (P := P) (V := V) (f := f) (a := a) (lo := lo0) (hi := hi0) (z := z0) (by rw [← hLL]; exact hl0)
  rw [← hLL, ← HEV.out] at hr
  have HR := Lib.hid hr
  obtain ⟨_, hz | ⟨bl, ol, cl, rfl, hlp, hge, hbl, hfr, hcl⟩⟩ := iu
  · exact absurd (by rw [hz.1]; rfl) hl0
  have HCL := Lib.hid hcl
  have hblg : bl ≠ g := by omega
  have hl0i : ((L.length : Int) == 0) = false := by simpa using hl0
  have hl0j : ¬ (L.length : Int) = 0 := by omega
  clear hcl hfr hr b1u hLL lv
  go_wp2_with fail
  go_loopg [3, 4, 14] L.length (fun gk s3 s4 i wr => ∃ (k : Nat) (lo hi z : Int), k ≤ L.length ∧ gk + k = L.length ∧ i = .int .i64 k ∧ s3 = .int .i64 lo ∧ s4 = .int .i64 hi ∧ LkAt w1 g z wr ∧ lkL (lkF P V f) ev (L.drop k) lo hi z = lkL (lkF P V f) ev L lo0 hi0 z0)
  case atStart => exact ⟨0, lo0, hi0, z0, Nat.zero_le _, by omega, rfl, rfl, rfl, L1.out.self, rfl⟩
  case round =>
    obtain ⟨k, lo, hi, z, hk, hgk, rfl, rfl, rfl, hLk, hG⟩ := hrel
    have HLK := Lib.hid hLk
    have HGE := Lib.hid hG
    clear hG
    by_cases hkl : k < L.length
    · by_cases hlh : lo < hi
      · obtain ⟨c, hc, hac, hcn, hce⟩ := chL_at OK.out.p (a := a) (k := k) (by rw [← HLL.out]; exact hkl)
        rw [← HLL.out] at hc
        rw [← HEV.out] at hce
        have HCE := Lib.hid hc
        have y0 : wr.cell? ⟨bl, ol + k, none⟩ = some (.int .i64 (c : Int)) := by rw [← hc]; exact keep_cell' (HCL.out k hkl) hLk.turned (by omega)
        have T2 := Lib.hid (T1.out.kept hLk.turned)
        have hlh2 : decide (lo < hi) = true := decide_eq_true hlh
        have HC := Lib.hid (IH.out c lo hi z wr hcn (by omega) T2.out hLk.self)
        rw [hce] at HC
        obtain ⟨r1, hr1⟩ : ∃ r1, (lkF P V f c lo hi z).1 = r1 := ⟨_, rfl⟩
        obtain ⟨r2, hr2⟩ : ∃ r2, (lkF P V f c lo hi z).2 = r2 := ⟨_, rfl⟩
        have HR1 := Lib.hid hr1
        have HR2 := Lib.hid hr2
        rw [hr1, hr2] at HC
        clear hLk hc hce hr1 hr2
        cases ev with
        | true =>
          go_wp2_with fail
          go_at_call 75; refine HC.out.mono ?_; rintro e w3 ⟨rfl, l3⟩
          have LK3 := Lib.hid (HLK.out.trans l3)
          clear l3 y0
          have HG2 : Hid (lkL (lkF P V f) true (L.drop (k + 1)) (max lo r1) hi r2 = lkL (lkF P V f) true L lo0 hi0 z0) := Lib.hid (by rw [← HGE.out, lkL_even hkl HCE.out hlh, HR1.out, HR2.out])
          clear hlh
          go_wp2_with fail
          go_at_call 109; refine (l00Max_is _ _ _).mono ?_; rintro e w5 ⟨rfl, rfl⟩
          go_wp2_with fail
          go_roundg (gk - 1)
          case measure => omega
          case rel => exact ⟨k + 1, max lo r1, hi, r2, by omega, by omega, by go_num, rfl, rfl, LK3.out, HG2.out⟩
        | false =>
          go_wp2_with fail
          go_at_call 75; refine HC.out.mono ?_; rintro e w3 ⟨rfl, l3⟩
          have LK3 := Lib.hid (HLK.out.trans l3)
          clear l3 y0
          have HG2 : Hid (lkL (lkF P V f) false (L.drop (k + 1)) lo (min hi r1) r2 = lkL (lkF P V f) false L lo0 hi0 z0) := Lib.hid (by rw [← HGE.out, lkL_odd hkl HCE.out hlh, HR1.out, HR2.out])
          clear hlh
          go_wp2_with fail
          go_at_call 110; refine (l00MinIs _ _ _).mono ?_; rintro e w5 ⟨rfl, rfl⟩
          go_wp2_with fail
          go_roundg (gk - 1)
          case measure => omega
          case rel => exact ⟨k + 1, lo, min hi r1, r2, by omega, by omega, by go_num, rfl, rfl, LK3.out, HG2.out⟩
      · have hE : lkL (lkF P V f) ev L lo0 hi0 z0 = (lo, hi, z) := by rw [← HGE.out]; exact lkL_stop hlh
        have HE := Lib.hid hE
        have HF := Lib.hid (L1.out.trans hLk)
        have hlh2 : decide (lo < hi) = false := decide_eq_false hlh
        clear hLk hE
        cases ev with
        | true =>
          go_wp2_with fail
          go_ret
          rw [HR.out, HE.out]
          exact ⟨rfl, HF.out⟩
        | false =>
          go_wp2_with fail
          go_ret
          rw [HR.out, HE.out]
          exact ⟨rfl, HF.out⟩
    · obtain rfl : k = L.length := by omega
      have hE : lkL (lkF P V f) ev L lo0 hi0 z0 = (lo, hi, z) := by rw [← HGE.out]; exact lkL_end rfl
      have HE := Lib.hid hE
      have HF := Lib.hid (L1.out.trans hLk)
      clear hLk hE
      cases ev with
      | true =>
        go_wp2_with fail
        go_ret
        rw [HR.out, HE.out]
        exact ⟨rfl, HF.out⟩
      | false =>
        go_wp2_with fail
        go_ret
        rw [HR.out, HE.out]
        exact ⟨rfl, HF.out⟩
/-- The tree's two lists in blocks below one. -/
theorem tr_num {w : World} {s1 s2 : Value} {P V : List Int} (g1 : IL w s1 P) (g2 : IL w s2 V) (n1 : 0 < P.length) (n2 : 0 < V.length) :
    ∃ b1 o1 c1 b2 o2 c2, s1 = .slice (some ⟨b1, o1, none⟩) P.length (P.length + c1) ∧ s2 = .slice (some ⟨b2, o2, none⟩) V.length (V.length + c2) ∧ b1 < w.heap.size ∧ b2 < w.heap.size ∧
      (∀ i, i < P.length → w.cell? ⟨b1, o1 + i, none⟩ = some (.int .i64 (P.getD i 0))) ∧ (∀ i, i < V.length → w.cell? ⟨b2, o2 + i, none⟩ = some (.int .i64 (V.getD i 0))) := by
  rcases g1 with ⟨hz, -⟩ | ⟨b1, o1, c1, e1, -, l1, k1⟩
  · rw [hz] at n1; simp at n1
  rcases g2 with ⟨hz, -⟩ | ⟨b2, o2, c2, e2, -, l2, k2⟩
  · rw [hz] at n2; simp at n2
  exact ⟨b1, o1, c1, b2, o2, c2, e1, e2, l1, l2, k1, k2⟩
def SaysIIB (n m : Int) (b : Bool) (w : World) (e : Ending) (w' : World) : Prop := e = .returned (.tuple #[.int .i64 n, .int .i64 m, .bool b]) ∧ Below w.heap.size w w'
set_option maxRecDepth 100000 in
set_option maxHeartbeats 4000000 in
theorem specLooksOf_any (v : Value) (T : Tr) (w : World) (hv : TrV w v T) (o : OKTr T) :
    Calls Try.prog 34 #[v] w (SaysIIB (lkI T.P T.V) (lkN T.P T.V) (treeB T.P T.V) w) := by
  obtain ⟨P, V⟩ := T
  obtain ⟨s1, s2, rfl, g1, g2⟩ := hv
  have O := Lib.hid o
  simp only at g1 g2 ⊢
  have HA := Lib.hid (TrAt.mk' (T := ⟨P, V⟩) g1 g2 32)
  cases h : treeB P V with
  | false =>
    rw [lkI_no h, lkN_no h]
    have H := Lib.hid h
    clear g1 g2 h o
    go_enter Try.func34, Try.ntmps34
    go_wp2_with fail
    go_at_call 66; refine (l07Tree_is false _ ⟨P, V⟩ _ HA.out O.out H.out).mono ?_; rintro e w1 ⟨rfl, m, rfl⟩
    go_wp2_with fail
    refine bodyPost_ret (v := .tuple #[.int .i64 0, .int .i64 0, .bool false]) (by simp [results, Try.results34, go_sem]) rfl ?_
    exact ⟨rfl, below_drewN (below_alloc w _) _⟩
  | true =>
    have HI := Lib.hid (lkI_yes h)
    have HN := Lib.hid (lkN_yes h)
    have H := Lib.hid h
    have OK := Lib.hid (treeB_ok h)
    have n1 := OK.out.l1
    have lv := OK.out.lv
    obtain ⟨b1, o1, c1, b2, o2, c2, rfl, rfl, l1, l2, k1, k2⟩ := tr_num g1 g2 (by omega) (by omega)
    rw [HI.out, HN.out]
    have K1 := Lib.hid k1
    have K2 := Lib.hid k2
    have HEV : Hid (evB P 0 = true) := Lib.hid (evB_zero P)
    clear g1 g2 h o k1 k2 lv
    go_enter Try.func34, Try.ntmps34
    go_wp2_with fail
    go_at_call 66; refine (l07Tree_is true _ ⟨P, V⟩ _ HA.out O.out H.out).mono ?_; rintro e w1 ⟨rfl, m, rfl⟩
    obtain ⟨W, hW⟩ : ∃ W, W = (w.alloc (.cells #[.slice (some ⟨b1, o1, none⟩) P.length (P.length + c1), .slice (some ⟨b2, o2, none⟩) V.length (V.length + c2)] 32)).drewN m := ⟨_, rfl⟩
    have HB : Hid (Below w.heap.size w W) := Lib.hid (by rw [hW]; exact below_drewN (below_alloc w _) m)
    have hzW : W.heap.size = w.heap.size + 1 := by rw [hW]; simp
    have hb0 := Box2.mk' w (.slice (some ⟨b1, o1, none⟩) P.length (P.length + c1)) (.slice (some ⟨b2, o2, none⟩) V.length (V.length + c2)) 32
    have BX : Hid (Box2 W w.heap.size (.slice (some ⟨b1, o1, none⟩) P.length (P.length + c1)) (.slice (some ⟨b2, o2, none⟩) V.length (V.length + c2))) := Lib.hid (by rw [hW]; exact hb0.keep (below_drewN (Below.refl _ _) m) hb0.lt)
    clear hb0
    have HWW := Lib.hid hW
    obtain ⟨X, hX⟩ : ∃ X, X = W.alloc (.cells #[.int .i64 0] 2) := ⟨_, rfl⟩
    have HBX : Hid (Below W.heap.size W X) := Lib.hid (by rw [hX]; exact below_alloc W _)
    have LX : Hid (LkAt X W.heap.size 0 X) := Lib.hid (by rw [hX]; exact ⟨Turned.refl _ _ _, World.cell?_alloc_new W #[.int .i64 0] 2 0, World.frozen?_alloc_new _ _ _ _⟩)
    have HXX := Lib.hid hX
    have TX : Hid (TrN X w.heap.size W.heap.size b1 o1 c1 b2 o2 c2 P V) := Lib.hid ⟨BX.out.keep HBX.out (by omega), fun i hi => by rw [HBX.out.cell (p := ⟨b1, o1 + i, none⟩) (by show b1 < _; omega), HB.out.cell (p := ⟨b1, o1 + i, none⟩) l1]; exact K1.out i hi, fun i hi => by rw [HBX.out.cell (p := ⟨b2, o2 + i, none⟩) (by show b2 < _; omega), HB.out.cell (p := ⟨b2, o2 + i, none⟩) l2]; exact K2.out i hi, by omega, by have := OK.out.lv; omega, by omega, by omega, by omega⟩
    have HBB := Lib.hid (HB.out.trans (HBX.out.mono HB.out.size))
    have HCALL := Lib.hid (l07Look_any P V w.heap.size W.heap.size b1 o1 c1 b2 o2 c2 OK.out P.length 0 (-2000000) 2000000 0 X (by omega) (by omega) TX.out LX.out)
    rw [HEV.out, show ((0 : Nat) : Int) = 0 from rfl] at HCALL
    obtain ⟨r1, hr1⟩ : ∃ r1, (lkF P V P.length 0 (-2000000) 2000000 0).1 = r1 := ⟨_, rfl⟩
    obtain ⟨r2, hr2⟩ : ∃ r2, (lkF P V P.length 0 (-2000000) 2000000 0).2 = r2 := ⟨_, rfl⟩
    rw [hr1, hr2] at HCALL
    have HR1 := Lib.hid hr1
    have HR2 := Lib.hid hr2
    rw [← HWW.out]
    clear hW hX hzW hr1 hr2
    go_wp2_with fail
    rw [← HXX.out]
    go_at_call 75; refine HCALL.out.mono ?_; rintro e w3 ⟨rfl, l3⟩
    have x0 := l3.cell
    have HF := Lib.hid (HBB.out.trans (l3.turned.below (Nat.le_of_lt (cell_block LX.out.cell)) |>.mono HB.out.size))
    clear l3
    go_wp2_with fail
    go_quiet (fail)
    go_wp2_with fail
    refine bodyPost_ret (v := .tuple #[.int .i64 r1, .int .i64 r2, .bool true]) (by simp [results, Try.results34, go_sem]) rfl ?_
    rw [HR1.out, HR2.out]
    exact ⟨rfl, below_drewN HF.out _⟩
end Go.Proofs.Ytmkbjkjgemipcaa
