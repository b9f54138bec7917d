/- What one looks at in a tree: the program. -/
import Derived.Test.YtmkbjkjgemipcaaLkM
import Derived.Test.YtmkbjkjgemipcaaLkS
import Derived.Test.YtmkbjkjgemipcaaChP
import Derived.Test.YtmkbjkjgemipcaaLvI
namespace Go.Proofs.Ytmkbjkjgemipcaa
open Go.RowKit Go.ChangeShapes Go.WideShapes

/-- What the closure reads. -/
structure LkU (X : World) (g p3 p5 p6 p7 B E lo h2 b2 o2 c2 : Nat) (P V : List Int) : Prop where
  kid : ∀ a, a < P.length → ∃ u, X.cell? ⟨B, a, none⟩ = some u ∧ SI (Value.int .i64) (0 : Int) lo h2 X u (chL P a)
  ev : ∀ a, a < P.length → X.cell? ⟨E, a, none⟩ = some (.bool (evB P a))
  c3 : X.cell? ⟨p3, 0, none⟩ = some (.slice (some ⟨B, 0, none⟩) P.length P.length)
  c5 : X.cell? ⟨p5, 1, none⟩ = some (.slice (some ⟨b2, o2, none⟩) V.length (V.length + c2))
  c6 : X.cell? ⟨p6, 0, none⟩ = some (.func (.func 76) #[] #[.pointer (some ⟨p3, 0, none⟩), .pointer (some ⟨g, 0, none⟩), .pointer (some ⟨p5, 0, none⟩), .pointer (some ⟨p6, 0, none⟩), .pointer (some ⟨p7, 0, none⟩)])
  c7 : X.cell? ⟨p7, 0, none⟩ = some (.slice (some ⟨E, 0, none⟩) P.length P.length)
  cs2 : ∀ i, i < V.length → X.cell? ⟨b2, o2 + i, none⟩ = some (.int .i64 (V.getD i 0))
  nB : B ≠ g
  nE : E ≠ g
  n3 : p3 ≠ g
  n5 : p5 ≠ g
  n6 : p6 ≠ g
  n7 : p7 ≠ g
  nb : b2 ≠ g
  nh : h2 ≤ g
theorem LkU.kept {X w' : World} {g p3 p5 p6 p7 B E lo h2 b2 o2 c2 : Nat} {P V : List Int} (h : LkU X g p3 p5 p6 p7 B E lo h2 b2 o2 c2 P V) (t : Turned g (g + 1) X w') : LkU w' g p3 p5 p6 p7 B E lo h2 b2 o2 c2 P V := by
  have far : ∀ {q : Nat}, q ≠ g → q < g ∨ g + 1 ≤ q := fun hq => by omega
  refine ⟨fun a ha => ?_, fun a ha => keep_cell' (h.ev a ha) t (far h.nE), keep_cell' h.c3 t (far h.n3), keep_cell' h.c5 t (far h.n5), keep_cell' h.c6 t (far h.n6), keep_cell' h.c7 t (far h.n7), fun i hi => keep_cell' (h.cs2 i hi) t (far h.nb), h.nB, h.nE, h.n3, h.n5, h.n6, h.n7, h.nb, h.nh⟩
  obtain ⟨u, h1, h2'⟩ := h.kid a ha
  exact ⟨u, keep_cell' h1 t (far h.nB), h2'.kept t (Or.inl h.nh)⟩
set_option maxRecDepth 100000 in
set_option maxHeartbeats 8000000 in
theorem look_any (P V : List Int) (g p3 p5 p6 p7 B E lo h2 b2 o2 c2 : Nat) (ok : TreeOk P V) : ∀ (f a : Nat) (lw hi z : Int) (wr : World), a < P.length → P.length ≤ a + f → LkU wr g p3 p5 p6 p7 B E lo h2 b2 o2 c2 P V → LkAt wr g z wr →
    Calls Try.prog 76 #[.int .i64 a, .int .i64 lw, .int .i64 hi, .pointer (some ⟨p3, 0, none⟩), .pointer (some ⟨g, 0, none⟩), .pointer (some ⟨p5, 0, none⟩), .pointer (some ⟨p6, 0, none⟩), .pointer (some ⟨p7, 0, none⟩)] wr (fun e w' => e = .returned (.int .i64 (lkF P V f a lw hi z).1) ∧ LkAt wr g (lkF P V f a lw hi z).2 w') := by
  intro f
  induction f with
  | zero => intro a lw hi z wr h1 h2; omega
  | succ f ih =>
  intro a lo0 hi0 z0 w ha hf hU hL
  have IH := Lib.hid ih
  have OK := Lib.hid ok
  have n2 := ok.l2
  have lv := ok.lv
  have HU := Lib.hid hU
  have HL := Lib.hid hL
  have hai : (a : Int) < (P.length : Int) := by omega
  obtain ⟨ev, hev⟩ : ∃ ev, ev = evB P a := ⟨_, rfl⟩
  have HEV := Lib.hid hev
  obtain ⟨u, hu, hs⟩ := hU.kid a ha
  obtain ⟨L, hLL⟩ : ∃ L, L = chL P a := ⟨_, rfl⟩
  have HLL := Lib.hid hLL
  rw [← hLL] at hs
  have q3 := hU.c3
  have hgl := cell_block hL.cell
  have ng3 := hU.n3
  have ng5 := hU.n5
  have ngB := hU.nB
  have ngb := hU.nb
  clear ih hL ok hev
  by_cases hl0 : L.length = 0
  · obtain ⟨ux, uk, rfl⟩ := hs.len
    rw [hl0] at hu
    have hr := lkF_end (P := P) (V := V) (f := f) (a := a) (lo := lo0) (hi := hi0) (z := z0) (by rw [← hLL]; exact hl0)
    have HR := Lib.hid hr
    have x0 := HL.out.cell
    have x1 := HL.out.free
    have q5 := hU.c5
    have y0 := hU.cs2 a (by omega)
    have hav : (a : Int) < (V.length : Int) := by omega
    have LS := Lib.hid (HL.out.set (Go.RowKit.wrap64 (z0 + 1)))
    obtain ⟨y, hy⟩ : ∃ y, y = V.getD a 0 := ⟨_, rfl⟩
    have HY := Lib.hid hy
    rw [← hy] at y0
    clear hs hl0 hr hLL hy lv hU
    go_enter Try.func76, Try.ntmps76
    go_wp2_with fail
    go_ret
    rw [HR.out, ← HY.out]
    exact ⟨rfl, LS.out⟩
  have hlen : L.length ≤ 64 := by rw [hLL]; exact Nat.le_trans (chN_len P a _) n2
  have hr := lkF_in (P := P) (V := V) (f := f) (a := a) (lo := lo0) (hi := hi0) (z := z0) (by rw [← hLL]; exact hl0)
  rw [← hLL, ← HEV.out] at hr
  have HR := Lib.hid hr
  have hnh := hU.nh
  obtain ⟨_, hz | ⟨bl, ol, cl, rfl, hlp, hge, hbl, hfr, hcl⟩⟩ := hs
  · exact absurd (by rw [hz.1]; rfl) hl0
  have HCL := Lib.hid hcl
  have hblg : bl ≠ g := by omega
  have hl0i : ((L.length : Int) == 0) = false := by simpa using hl0
  have hl0j : ¬ (L.length : Int) = 0 := by omega
  clear hcl hfr hr hLL lv hU
  go_enter Try.func76, Try.ntmps76
  go_wp2_with fail
  go_loopg [1, 2, 33] L.length (fun gk s3 s4 i wr => ∃ (k : Nat) (lo hi z : Int), k ≤ L.length ∧ gk + k = L.length ∧ i = .int .i64 k ∧ s3 = .int .i64 lo ∧ s4 = .int .i64 hi ∧ LkAt w g z wr ∧ lkL (lkF P V f) ev (L.drop k) lo hi z = lkL (lkF P V f) ev L lo0 hi0 z0)
  case atStart => exact ⟨0, lo0, hi0, z0, Nat.zero_le _, by omega, rfl, rfl, rfl, HL.out, rfl⟩
  case round =>
    obtain ⟨k, lo, hi, z, hk, hgk, rfl, rfl, rfl, hLk, hG⟩ := hrel
    have HLK := Lib.hid hLk
    have HGE := Lib.hid hG
    have hU2 := HU.out.kept hLk.turned
    have U2 := Lib.hid hU2
    have e7 := hU2.c7
    have e8 : wr.cell? ⟨E, a, none⟩ = some (.bool ev) := by rw [HEV.out]; exact hU2.ev a ha
    clear hG q3 hu
    by_cases hkl : k < L.length
    · by_cases hlh : lo < hi
      · obtain ⟨c, hc, hac, hcn, hce⟩ := chL_at OK.out.p (a := a) (k := k) (by rw [← HLL.out]; exact hkl)
        rw [← HLL.out] at hc
        have HCE := Lib.hid hc
        have y0 : wr.cell? ⟨bl, ol + k, none⟩ = some (.int .i64 (c : Int)) := by rw [← hc]; exact keep_cell' (HCL.out k hkl) hLk.turned (by omega)
        have e6 := hU2.c6
        have hlh2 : ¬ hi ≤ lo := by omega
        have HC := Lib.hid (IH.out c lo hi z wr hcn (by omega) hU2 hLk.self)
        obtain ⟨r1, hr1⟩ : ∃ r1, (lkF P V f c lo hi z).1 = r1 := ⟨_, rfl⟩
        obtain ⟨r2, hr2⟩ : ∃ r2, (lkF P V f c lo hi z).2 = r2 := ⟨_, rfl⟩
        have HR1 := Lib.hid hr1
        have HR2 := Lib.hid hr2
        rw [hr1, hr2] at HC
        have HLH := Lib.hid hlh
        clear hLk hc hce hr1 hr2 hU2 hlh e7 e8
        go_wp2_with fail
        go_at_call 76; refine HC.out.mono ?_; rintro e w3 ⟨rfl, l3⟩
        have LK3 := Lib.hid (HLK.out.trans l3)
        have U3 := U2.out.kept l3.turned
        have e7 := U3.c7
        have e8 : w3.cell? ⟨E, a, none⟩ = some (.bool ev) := by rw [HEV.out]; exact U3.ev a ha
        clear l3 y0 U3 e6
        cases ev with
        | true =>
          have HG2 : Hid (lkL (lkF P V f) true (L.drop (k + 1)) (max lo r1) hi r2 = lkL (lkF P V f) true L lo0 hi0 z0) := Lib.hid (by rw [← HGE.out, lkL_even hkl HCE.out HLH.out, HR1.out, HR2.out])
          go_wp2_with fail
          all_goals
            go_roundg (gk - 1)
            case measure => omega
            case rel => exact ⟨k + 1, max lo r1, hi, r2, by omega, by omega, by go_num, by first | rfl | (congr 1; omega), rfl, LK3.out, HG2.out⟩
        | false =>
          have HG2 : Hid (lkL (lkF P V f) false (L.drop (k + 1)) lo (min hi r1) r2 = lkL (lkF P V f) false L lo0 hi0 z0) := Lib.hid (by rw [← HGE.out, lkL_odd hkl HCE.out HLH.out, HR1.out, HR2.out])
          go_wp2_with fail
          all_goals
            go_roundg (gk - 1)
            case measure => omega
            case rel => exact ⟨k + 1, lo, min hi r1, r2, by omega, by omega, by go_num, rfl, by first | rfl | (congr 1; omega), LK3.out, HG2.out⟩
      · have hE : lkL (lkF P V f) ev L lo0 hi0 z0 = (lo, hi, z) := by rw [← HGE.out]; exact lkL_stop hlh
        have HE := Lib.hid hE
        have HF := Lib.hid hLk
        have y0 : wr.cell? ⟨bl, ol + k, none⟩ = some (.int .i64 (L.getD k 0)) := keep_cell' (HCL.out k hkl) hLk.turned (by omega)
        have hlh2 : hi ≤ lo := by omega
        generalize L.getD k 0 = cc at y0
        clear hLk hE hU2
        cases ev with
        | true =>
          go_wp2_with fail
          go_ret
          rw [HR.out, HE.out]
          exact ⟨rfl, HF.out⟩
        | false =>
          go_wp2_with fail
          go_ret
          rw [HR.out, HE.out]
          exact ⟨rfl, HF.out⟩
    · obtain rfl : k = L.length := by omega
      have hE : lkL (lkF P V f) ev L lo0 hi0 z0 = (lo, hi, z) := by rw [← HGE.out]; exact lkL_end rfl
      have HE := Lib.hid hE
      have HF := Lib.hid hLk
      clear hLk hE hU2
      cases ev with
      | true =>
        go_wp2_with fail
        go_ret
        rw [HR.out, HE.out]
        exact ⟨rfl, HF.out⟩
      | false =>
        go_wp2_with fail
        go_ret
        rw [HR.out, HE.out]
        exact ⟨rfl, HF.out⟩
end Go.Proofs.Ytmkbjkjgemipcaa
