/- The best pack: the model's side; lists turned around. -/
import Derived.Test.YtolbkepbcoipcaaBest
import Derived.Test.YtolbkepbcoipcaaLl
import Derived.Test.YtolbkepbcoipcaaPk0
import Derived.Deep.RegionHeld3
namespace Go.Proofs.Ytolbkepbcoipcaa
open Go.RowKit Go.ChangeShapes Go.WideShapes

set_option maxHeartbeats 2000000 in
theorem l04Back_any (v : Value) (Z : List Int) (w : World) (hv : IL w v Z) (hn : Z.length ≤ 1048576) :
    Calls Try.prog 56 #[v] w (MadeI Z.reverse w) := by
  obtain ⟨i0, hi, hz0, hz1, hz2⟩ := info_parts Try.infoI
  rcases hv with ⟨rfl, ao, cap, rfl⟩ | ⟨b, off, cap, rfl, hpos, hbl, hcell⟩
  · go_enter Try.func56, Try.ntmps56
    go_wp2
    refine wp_loop_rounds 1 ?_
    rw [rounds_succ]
    go_wp2
    refine bodyPost_ret (results_tmp rfl _ _ _) rfl ?_
    exact ⟨_, rfl, SI.nil _ (Nat.le_refl _) _ _, below_alloc w _⟩
  · have HC := Lib.hid hcell
    clear hcell
    go_enter Try.func56, Try.ntmps56
    go_wp2_with fail
    go_loopg [3, 4] (Z.length + 1) (fun gk v i wr => ∃ k : Nat, k ≤ Z.length ∧ gk = k + 1 ∧ i = .int .i64 ((k : Int) - 1) ∧ Below w.heap.size w wr ∧ Grows (Value.int .i64) 2 w.heap.size v (Z.drop k).reverse wr)
    case atStart => exact ⟨Z.length, Nat.le_refl _, rfl, rfl, below_alloc w _, by rw [List.drop_length]; exact Grows.empty _ _ _ _ (Nat.le_refl _)⟩
    case round =>
      obtain ⟨k, hk, rfl, rfl, hB, hG⟩ := hrel
      have HB := Lib.hid hB
      have HG := Lib.hid hG
      clear hB hG
      by_cases h0 : k = 0
      · subst h0
        go_wp2_with fail
        refine bodyPost_ret (results_tmp rfl _ _ _) rfl ?_
        exact ⟨_, rfl, by have h := HG.out.si (d := 0); rw [List.drop_zero] at h; exact h, HB.out⟩
      · obtain ⟨m, rfl⟩ : ∃ m, k = m + 1 := ⟨k - 1, by omega⟩
        have c1 : wr.cell? ⟨b, off + m, none⟩ = some (.int .i64 (Z.getD m 0)) := by rw [HB.out.cell (p := ⟨b, off + m, none⟩) hbl]; exact HC.out m (by omega)
        have HS := Lib.hid (back_step (Z := Z) (k := m) (by omega))
        have HLEN := Lib.hid (back_len (Z := Z) (k := m + 1))
        obtain ⟨y, hy⟩ : ∃ y, y = Z.getD m 0 := ⟨_, rfl⟩
        rw [← hy] at c1
        have HY := Lib.hid hy
        obtain ⟨Y, hY⟩ : ∃ Y, Y = (Z.drop (m + 1)).reverse := ⟨_, rfl⟩
        rw [← hY] at HS HLEN HG
        clear hY
        have e1 : ((m + 1 : Nat) : Int) - 1 = (m : Int) := by omega
        rw [e1]
        have hm0 : (m : Int) < (Z.length : Int) := by omega
        clear hy e1 h0
        go_wp2_with (at_builtin; refine wpList_append_own _ rfl _ _ 22 rfl w.heap.size 2 i0 (.int .i64 0) 1 8 Try.underlying22 hi hz0 hz1 hz2 rfl (by decide) _ _ _ rfl (Grows.alloc HG.out _) ⟨wr.heap.size, 0, none⟩ 1 1 [.int .i64 y] rfl rfl ?c1 ?c2 ?c3 ?c4 ?c5 ?_)
        case c1 => exact one_new
        case c2 => intro u hu; simp at hu; subst hu; rfl
        case c3 => rw [HLEN.out]; unfold maxLen; omega
        case c4 => rw [HLEN.out]; omega
        case c5 => have := HB.out.size; simp; omega
        intro v' w' hown hgrow _
        have HN : Hid (Below w.heap.size w w' ∧ Grows (Value.int .i64) 2 w.heap.size v' (Z.drop m).reverse w') := Lib.hid ⟨(HB.out.alloc HB.out.size _).grown hgrow (by have := HB.out.size; simp; omega) (fun g hg => HG.out.block g hg), by rw [HS.out, ← HY.out]; exact Grows.more (news := [y]) rfl hown⟩
        clear hown hgrow
        go_wp2_with fail
        go_roundg (m + 1)
        case measure => omega
        case rel => exact ⟨m, by omega, rfl, rfl, HN.out.1, HN.out.2⟩
/-- What the model holds at each round: the list of all gains, and what was taken. -/
structure PkAt (w : World) (ab ao : Nat) (AZ : List Int) (v : Value) (Zs : List Int) (wr : World) : Prop where
  below : Below w.heap.size w wr
  grows : Grows (Value.int .i64) 2 w.heap.size v Zs wr
  all : Arr (Value.int .i64) 0 wr ab ao AZ
  lt : ab < wr.heap.size
  ne : v.ownBlock ≠ some ab
theorem PkAt.next {w wr w' : World} {ab ao : Nat} {AZ Zs : List Int} {v : Value} (h : PkAt w ab ao AZ v Zs wr) (b : Below wr.heap.size wr w') : PkAt w ab ao AZ v Zs w' :=
  ⟨h.below.trans (b.mono h.below.size), h.grows.below b (Nat.le_refl _), h.all.below b h.lt, Nat.lt_of_lt_of_le h.lt b.size, h.ne⟩
theorem PkAt.push {w wr w' : World} {ab ao : Nat} {AZ Zs : List Int} {v v' : Value} {x : Int} {o : Obj} (h : PkAt w ab ao AZ v Zs wr) (hown : w'.ownsRow w.heap.size 2 1 v' (Zs.length + 1) (Zs.map (Value.int .i64) ++ [.int .i64 x]))
    (hg : (wr.alloc o).grownBy w' v.ownBlock) (hat : v'.ownBlock = v.ownBlock ∨ v'.ownBlock = some (wr.alloc o).heap.size) : PkAt w ab ao AZ v' (Zs ++ [x]) w' := by
  have hs := h.below.size
  have hl := h.lt
  have hk : w'.heap[ab]? = (wr.alloc o).heap[ab]? := hg.block ab (by simp; omega) (fun e => h.ne e.symm)
  have ha : Arr (Value.int .i64) 0 (wr.alloc o) ab ao AZ := h.all.below (below_alloc wr o) h.lt
  refine ⟨(h.below.alloc hs _).grown hg (by simp; omega) (fun g e => h.grows.block g e), Grows.more (news := [x]) rfl hown, ⟨fun i hi => ?_, fun i => ?_⟩, ?_, ?_⟩
  · rw [World.cell?_of_block (w := wr.alloc o) (a := ⟨ab, ao + i, none⟩) hk]; exact ha.cells i hi
  · rw [World.frozen?_of_block (w := wr.alloc o) (a := ⟨ab, i, none⟩) hk]; exact ha.free i
  · have := hg.size; simp at this; omega
  · rcases hat with e | e
    · rw [e]; exact h.ne
    · rw [e]; intro e2; simp at e2; omega
set_option maxRecDepth 100000 in
set_option maxHeartbeats 8000000 in
theorem specPack_yes (v u : Value) (S G : List Int) (r : Nat) (w : World) (hv : IL w v S) (hu : IL w u G) (hn : S.length ≤ 1048576) (hm : G.length ≤ 1048576) (h1 : canB S G (r : Int) = true) :
    Calls Try.prog 32 #[v, u, .int .i64 r] w (SaysJIB (packL S G S.length r).reverse (bestG S G S.length r) true w) := by
  obtain ⟨i0, hi, hz0, hz1, hz2⟩ := info_parts Try.infoI
  have HV := Lib.hid hv
  have HU := Lib.hid hu
  have H1 := Lib.hid h1
  have OK := Lib.hid (canB_ok h1)
  have r1 := OK.out.r1
  have l2 := OK.out.s.l2
  have l1 := OK.out.s.l1
  rcases hv with ⟨rfl, ao, cap, rfl⟩ | ⟨b, off, cap, rfl, hpos, hbl, hcell⟩
  · simp at l1
  have HC := Lib.hid hcell
  obtain ⟨uo, ucap, rfl⟩ := hu.long
  clear hcell hu h1
  go_enter Try.func32, Try.ntmps32
  go_wp2_with fail
  go_at_call 42; refine (l04Can_is true _ _ S G r _ HV.out HU.out hn hm H1.out).mono ?_; rintro e w' ⟨rfl, m, rfl⟩
  go_wp2_with fail
  have B1 := Lib.hid (fun o => (below_drewN (Below.refl w.heap.size w) m).alloc (Nat.le_refl _) o)
  go_at_call 43; refine (l04Gains_any _ _ S G S.length r _ (HV.out.below (B1.out _) (Nat.le_refl _)) (HU.out.below (B1.out _) (Nat.le_refl _)) OK.out (Nat.le_refl _)).mono ?_; rintro e w2 ⟨v2, rfl, i, b2⟩
  obtain ⟨ab, ao, ac, rfl, ab1, ab2, -, aarr⟩ := II.lies i (by rw [allF_len]; omega)
  rw [allF_len]
  have H0 : Hid (PkAt w ab ao (allF (bestG S G S.length) (r + 1)) (.slice (some ⟨w.heap.size, 0, none⟩) 0 0) [] w2) := Lib.hid ⟨(B1.out _).trans (b2.mono (by simp)), (Grows.empty _ _ _ (w.drewN m) (Nat.le_refl _)).below b2 (Nat.le_refl _), aarr, ab2, fun e => by
    simp only [Value.ownBlock, Option.some.injEq] at e
    simp at ab1
    omega⟩
  clear i b2 aarr ab1 ab2
  go_wp2_with fail
  go_loopg [9, 10, 12] (S.length + 1) (fun gk v l i wr => ∃ (k q : Nat) (Zs : List Int), k ≤ S.length ∧ q ≤ r ∧ gk = k + 1 ∧ i = .int .i64 ((k : Int) - 1) ∧ l = .int .i64 q ∧ Zs ++ packL S G k q = packL S G S.length r ∧ PkAt w ab ao (allF (bestG S G S.length) (r + 1)) v Zs wr)
  case atStart => exact ⟨S.length, r, [], Nat.le_refl _, Nat.le_refl _, rfl, rfl, rfl, rfl, H0.out⟩
  case round =>
    clear H0
    obtain ⟨k, q, Zs, hk, hq, rfl, rfl, rfl, hZ, hat⟩ := hrel
    have HA := Lib.hid hat
    have HZ := Lib.hid hZ
    clear hat hZ
    by_cases h0 : k = 0
    · subst h0
      have c0 := HA.out.all.cells r (by rw [allF_len]; omega)
      rw [allF_at (by omega)] at c0
      have HZ0 : Hid (Zs = packL S G S.length r) := Lib.hid (by have := HZ.out; simpa [packL] using this)
      have HG : Hid (IL wr u9 Zs) := Lib.hid HA.out.grows.si.vl
      have HZL : Hid (Zs.length ≤ 1048576) := Lib.hid (by rw [HZ0.out]; have := packL_len S G S.length r; omega)
      obtain ⟨z, hz⟩ : ∃ z, z = bestG S G S.length r := ⟨_, rfl⟩
      rw [← hz] at c0
      have HZZ := Lib.hid hz
      have lr : (r : Int) < ((r + 1 : Nat) : Int) := by omega
      have lr2 : (r : Int) < (r : Int) + 1 := by omega
      have abl := HA.out.lt
      clear hz
      go_wp2_with fail
      go_region_held3 (fun w' => w'.cell? ⟨ab, ao + r, none⟩ = some (.int .i64 z)) (first | exact c0 | exact d0) (first
        | (go_at_call 56; refine (l04Back_any _ Zs _ (show IL wr.drew _ Zs from HG.out) HZL.out).mono ?_; rintro e w5 ⟨bv, rfl, hb5, b5⟩; have bz := (below_drewN (Below.refl wr.heap.size wr) 1).trans b5; have d0 : w5.cell? ⟨ab, ao + r, none⟩ = some (.int .i64 z) := keep_cell c0 bz abl; have H5 := Lib.hid (HA.out.below.trans (bz.mono HA.out.below.size)); have HR := Lib.hid (SI.wide (lo' := w.heap.size) hb5 (by have := HA.out.below.size; simpa using this) (Nat.le_refl _) (Nat.le_refl _)); clear hb5 bz b5))
      all_goals
        go_wp2_with fail
        refine bodyPost_ret (v := .tuple #[bv, .int .i64 z, .bool true]) (by simp [results, Try.results32, go_sem]) rfl ?_
        rw [← HZ0.out, ← HZZ.out]
        exact ⟨_, rfl, HR.out, H5.out⟩
    · obtain ⟨m, rfl⟩ : ∃ m, k = m + 1 := ⟨k - 1, by omega⟩
      obtain ⟨s, hs⟩ := nat_of (show 0 ≤ S.getD m 0 from by have := (OK.out.s.a m (by omega)).1; omega)
      have s1 : 1 ≤ s := by have := (OK.out.s.a m (by omega)).1; omega
      have s2 : s ≤ 1000 := by have := (OK.out.s.a m (by omega)).2; omega
      have c1 : ∀ wx, Below w.heap.size w wx → wx.cell? ⟨b, off + m, none⟩ = some (.int .i64 (s : Int)) := fun wx hb => by rw [hb.cell (p := ⟨b, off + m, none⟩) hbl, ← hs]; exact HC.out m (by omega)
      have C1 := Lib.hid c1
      have HS := Lib.hid hs
      have OKQ := Lib.hid (show CanOk S G (q : Int) from ⟨OK.out.s, OK.out.l, by omega, by omega, OK.out.g⟩)
      have e1 : ((m + 1 : Nat) : Int) - 1 = (m : Int) := by omega
      rw [e1]
      have hm0 : (m : Int) < (S.length : Int) := by omega
      have CALL : Hid (∀ (W : World), Below w.heap.size w W → Calls Try.prog 43 #[.slice (some ⟨b, off, none⟩) S.length (S.length + cap), .slice uo G.length ucap, .int .i64 ((m : Int) + 1), .int .i64 q] W (MadeI (allF (bestG S G (m + 1)) (q + 1)) W)) := Lib.hid fun W hb => by
        have h := l04Gains_any _ _ S G (m + 1) q W (HV.out.below hb (Nat.le_refl _)) (HU.out.below hb (Nat.le_refl _)) OKQ.out hk
        rw [Int.natCast_add] at h
        exact h
      clear hs c1 e1 h0
      go_wp2_with fail
      go_at_call 43; refine (CALL.out _ HA.out.below).mono ?_; rintro e w3 ⟨v3, rfl, i3, b3⟩
      obtain ⟨xb, xo, xc, rfl, xb1, xb2, -, xarr⟩ := II.lies i3 (by rw [allF_len]; omega)
      rw [allF_len]
      have A3 := Lib.hid (HA.out.next b3)
      have X3 := Lib.hid xarr
      clear i3 b3 xarr CALL xb1
      go_wp2_with fail
      go_at_call 43; refine (l04Gains_any _ _ S G m q _ (HV.out.below A3.out.below (Nat.le_refl _)) (HU.out.below A3.out.below (Nat.le_refl _)) OKQ.out (by omega)).mono ?_; rintro e w4 ⟨v4, rfl, i4, b4⟩
      obtain ⟨yb, yo, yc, rfl, yb1, yb2, -, yarr⟩ := II.lies i4 (by rw [allF_len]; omega)
      rw [allF_len]
      have A4 := Lib.hid (A3.out.next b4)
      have x0 := (X3.out.below b4 xb2).cells q (by rw [allF_len]; omega)
      have y0 := yarr.cells q (by rw [allF_len]; omega)
      rw [allF_at (by omega)] at x0 y0
      have c1 := C1.out w4 A4.out.below
      have lq : (q : Int) < ((q + 1 : Nat) : Int) := by omega
      have lq2 : (q : Int) < (q : Int) + 1 := by omega
      clear i4 b4 yarr yb1 xb2 yb2
      by_cases hgt : bestG S G m q < bestG S G (m + 1) q
      · have hsq : s ≤ q := take_room HS.out hgt
        have HP := Lib.hid (packL_yes HS.out hgt)
        obtain ⟨p, hp⟩ : ∃ p : Nat, q = s + p := ⟨q - s, by omega⟩
        have hd : decide (bestG S G m q < bestG S G (m + 1) q) = true := decide_eq_true hgt
        generalize bestG S G m q = y at y0 hd
        generalize bestG S G (m + 1) q = x at x0 hd
        have wa : IntKind.i64.wrap ((q : Int) - (s : Int)) = (p : Int) := by rw [show (q : Int) - (s : Int) = (p : Int) by omega]; exact IntWalk.i64_in _ (by omega)
        have HPQ := Lib.hid hp
        clear hgt hp
        go_wp2_with fail
        go_quiet (fail)
        have A5 := Lib.hid (A4.out.next (below_drewN (Below.refl w4.heap.size w4) nq))
        have hzl : Zs.length ≤ 16 := by have := packL_len S G S.length r; rw [← HZ.out] at this; simp at this; omega
        have HZL := Lib.hid hzl
        clear hzl
        go_wp2_with (at_builtin; refine wpList_append_own_at _ rfl _ _ 22 rfl w.heap.size 2 i0 (.int .i64 0) 1 8 Try.underlying22 hi hz0 hz1 hz2 rfl (by decide) _ _ _ rfl (Grows.alloc A5.out.grows _) ⟨w4.heap.size, 0, none⟩ 1 1 [.int .i64 (m : Int)] rfl rfl ?c1 ?c2 ?c3 ?c4 ?c5 ?_)
        case c1 => exact one_new
        case c2 => intro u hu; simp at hu; subst hu; rfl
        case c3 => have := HZL.out; unfold maxLen; omega
        case c4 => have := HZL.out; omega
        case c5 => have := A5.out.below.size; simp at this; simp; omega
        intro v' w' hown hgrow _ hat
        have HN := Lib.hid (A5.out.push (v' := v') (x := (m : Int)) hown hgrow (by simpa using hat))
        have c2 := C1.out w' HN.out.below
        have HZN : Hid ((Zs ++ [(m : Int)]) ++ packL S G m p = packL S G S.length r) := Lib.hid (by
          rw [← HZ.out, HP.out, List.append_assoc]
          have e : q - s = p := by have := HPQ.out; omega
          rw [e]; rfl)
        clear hown hgrow hat c1
        go_wp2_with fail
        go_roundg (m + 1)
        case measure => omega
        case rel => exact ⟨m, p, _, by omega, by have := HPQ.out; omega, rfl, rfl, rfl, HZN.out, HN.out⟩
      · have HP := Lib.hid (packL_no hgt)
        have hd : decide (bestG S G m q < bestG S G (m + 1) q) = false := decide_eq_false hgt
        generalize bestG S G m q = y at y0 hd
        generalize bestG S G (m + 1) q = x at x0 hd
        clear hgt
        go_wp2_with fail
        go_quiet (fail)
        go_wp2_with fail
        go_roundg (m + 1)
        case measure => omega
        case rel => exact ⟨m, q, Zs, by omega, hq, rfl, rfl, rfl, by rw [← HP.out]; exact HZ.out, A4.out.next (below_drewN (Below.refl w4.heap.size w4) _)⟩
set_option maxHeartbeats 1000000 in
theorem specBestPack_any (v : Value) (S : List Int) (u : Value) (G : List Int) (r : Int) (w : World) (hv : IL w v S) (hu : IL w u G) (o : OKI S) (o2 : OKI G) (_ : -9223372036854775808 ≤ r ∧ r ≤ 9223372036854775807) :
    Calls Try.prog 32 #[v, u, .int .i64 r] w (SaysJIB (packA S G r) (packG S G r) (canB S G r) w) := by
  have hn := o.size
  have hm := o2.size
  unfold packA packG
  cases h1 : canB S G r with
  | false =>
    have HV := Lib.hid hv
    have HU := Lib.hid hu
    obtain ⟨ao, cap, rfl⟩ := hv.long
    obtain ⟨ao2, cap2, rfl⟩ := hu.long
    have H1 := Lib.hid h1
    clear h1 hv hu
    go_enter Try.func32, Try.ntmps32
    go_wp2_with fail
    go_at_call 42; refine (l04Can_is false _ _ S G r _ HV.out HU.out hn hm H1.out).mono ?_; rintro e w' ⟨rfl, m, rfl⟩
    have HB := Lib.hid (below_drewN (Below.refl w.heap.size w) m)
    go_wp2_with fail
    refine bodyPost_ret (v := .tuple #[.slice none 0 0, .int .i64 0, .bool false]) (by simp [results, Try.results32, go_sem]) rfl ?_
    exact ⟨_, rfl, SI.nil _ (Nat.le_refl _) _ _, HB.out⟩
  | true =>
    obtain ⟨q, rfl⟩ : ∃ q : Nat, r = (q : Int) := nat_of (canB_ok h1).r0
    exact specPack_yes v u S G q w hv hu hn hm h1
end Go.Proofs.Ytolbkepbcoipcaa
