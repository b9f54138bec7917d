/- The decimal text of a number: the model. -/
import Derived.Test.YtfingpllakbpnaaDoorDc0
import Derived.Test.YtfingpllakbpnaaDoorIl
import Derived.Test.YtfingpllakbpnaaDoorVl
import Derived.Test.YtfingpllakbpnaaDoorOwn
import Derived.Test.YtfingpllakbpnaaDoorGrw
import Derived.Laws.IdiomStrings
import Derived.Deep.LoopGhost
import Derived.StillTailTactics
namespace Go.Proofs.YtfingpllakbpnaaDoor
open Go.RowKit Go.ChangeShapes Go.WideShapes

/-- A value of a byte. -/
def byV (b : UInt8) : Value := .int .u8 (b.toNat : Int)
/-- A slice that holds bytes. -/
def ByAt (D : List UInt8) (v : Value) (w : World) : Prop := ∃ g c, v = .slice (some ⟨g, 0, none⟩) D.length c ∧ g < w.heap.size ∧ ∀ j (hj : j < D.length), w.cell? ⟨g, j, none⟩ = some (.int .u8 (D[j].toNat : Int))
theorem ByAt.below {D : List UInt8} {v : Value} {w w' : World} (h : ByAt D v w) (hb : Below w.heap.size w w') : ByAt D v w' := by
  obtain ⟨g, c, rfl, hg, hc⟩ := h
  exact ⟨g, c, rfl, Nat.lt_of_lt_of_le hg hb.size, fun j hj => by rw [hb.cell (p := ⟨g, j, none⟩) hg]; exact hc j hj⟩
theorem ByAt.of {D : List UInt8} {v : Value} {w : World} {B : Nat} (h : Grows byV 5 B v D w) (h0 : D ≠ []) : ByAt D v w := by
  have hc := fun g hg => World.ownsRow.cells (g := g) h hg
  have hl : 0 < D.length := List.length_pos_iff.2 h0
  obtain ⟨-, ⟨-, h1⟩ | ⟨g, cap, cur, rfl, hB, hg, hn, hm, -, -⟩⟩ := h
  · omega
  · refine ⟨g, cap, rfl, (Array.getElem?_eq_some_iff.1 hg).1, fun j hj => ?_⟩
    have h1 := hc g rfl j (byV D[j]) (by simp [hj])
    rw [Addr.add_lit] at h1
    simpa [byV] using h1
theorem ByAt.vals {D : List UInt8} {g : Nat} {w : World} (h : ∀ j (hj : j < D.length), w.cell? ⟨g, j, none⟩ = some (.int .u8 (D[j].toNat : Int))) : ∀ j u, (D.map byV)[j]? = some u → w.cell? ((⟨g, 0, none⟩ : Addr).add j) = some u := by
  intro j u hu
  rw [List.getElem?_map] at hu
  have hj : j < D.length := by
    rcases Nat.lt_or_ge j D.length with h1 | h1
    · exact h1
    · rw [List.getElem?_eq_none h1] at hu; cases hu
  rw [List.getElem?_eq_getElem hj] at hu
  injection hu with hu
  rw [Go.WideShapes.add_plain, Nat.zero_add, h j hj, ← hu]; rfl
theorem byV_one (D : List UInt8) : ∀ u ∈ D.map byV, u.oneCell' = true := fun u hu => by
  obtain ⟨b, -, rfl⟩ := List.mem_map.1 hu
  rfl
theorem Tryd.infoBy : (Tryd.prog.info? 5).map (fun i => (i.zero, i.size, i.bytes)) = some (some (.int .u8 0), 1, 1) := by kernel_rfl
theorem dcAt_q {u q : Nat} {D : List UInt8} (h : DcAt u q D) : q ≤ u := by
  have h1 : q * 1 ≤ q * 10 ^ D.length := Nat.mul_le_mul_left _ (Nat.pow_pos (by omega))
  have := h.le
  omega
theorem byte_dig (q : Nat) : ((UInt8.ofNat (48 + q % 10)).toNat : Int) = 48 + ((q % 10 : Nat) : Int) := by
  have : (48 + q % 10) % 256 = 48 + q % 10 := by omega
  rw [UInt8.toNat_ofNat', show (2 ^ 8 : Nat) = 256 from rfl, this]; omega
/-- The number that is still to be written, with the sign of n. -/
def Sgn (n r : Int) (q : Nat) : Prop := r.natAbs = q ∧ (0 ≤ n → 0 ≤ r) ∧ (n < 0 → r ≤ 0)
theorem sign_step {n r t z : Int} {q m : Nat} (h : Sgn n r q) (ht : t = Int.tdiv r 10) (hz : z = Int.tmod r 10) (hm : m = q % 10) : Sgn n t (q / 10) ∧ z.natAbs = m := by
  obtain ⟨h1, h2, h3⟩ := h
  subst ht hz hm h1
  refine ⟨⟨by rw [Int.natAbs_tdiv]; rfl, fun h => Int.tdiv_nonneg (h2 h) (by omega), fun h => ?_⟩, by rw [Int.natAbs_tmod]; rfl⟩
  have := h3 h
  have h4 : Int.tdiv (-r) 10 = -Int.tdiv r 10 := Int.neg_tdiv ..
  have h5 : 0 ≤ Int.tdiv (-r) 10 := Int.tdiv_nonneg (by omega) (by omega)
  omega
theorem sign_bound {n r t : Int} {q : Nat} (h : Sgn n r q) (hq : q ≤ 9223372036854775808) (ht : t = Int.tdiv r 10) : -9223372036854775808 ≤ t ∧ t ≤ 9223372036854775807 := by
  have h1 : t.natAbs = q / 10 := (sign_step h ht rfl rfl).1.1
  omega
def SaysS (D : List UInt8) (w : World) (e : Ending) (w' : World) : Prop := e = .returned (.string ⟨D.toArray⟩) ∧ Below w.heap.size w w'
set_option maxRecDepth 100000 in
set_option maxHeartbeats 4000000 in
theorem l01Dec_any (n : Int) (w : World) (h0 : -9223372036854775808 ≤ n) (h1 : n ≤ 9223372036854775807) :
    Calls Tryd.prog 26 #[.int .i64 n] w (SaysS (Lib.itoa n) w) := by
  obtain ⟨i0, hi, hz0, hz1, hz2⟩ := info_parts Tryd.infoBy
  have hu : n.natAbs ≤ 9223372036854775808 := by omega
  have S0 : Hid (Sgn n n n.natAbs) := Lib.hid ⟨rfl, fun h => h, fun h => by omega⟩
  have HIN : Hid (n < 0 → Lib.itoa n = 45 :: Lib.decDigits n.natAbs) := Lib.hid itoa_neg
  have HIP : Hid (¬ n < 0 → Lib.itoa n = Lib.decDigits n.natAbs) := Lib.hid itoa_pos
  generalize n.natAbs = u at *
  have HU : Hid (u ≤ 9223372036854775808) := Lib.hid hu
  have ND := Lib.hid (show Lib.decDigits u ≠ [] from by rw [Lib.decDigits_eq]; have := Lib.nDigits_pos u; intro h; have h2 := congrArg List.length h; simp at h2; omega)
  have A0 : Hid (ByAt [] (.slice (some ⟨w.heap.size, 0, none⟩) 0 0) (w.alloc (.cells #[] 5))) := Lib.hid ⟨_, _, rfl, by simp, fun j hj => by simp at hj⟩
  have B0 := Lib.hid (below_alloc w (.cells #[] 5))
  clear hu
  go_enter Tryd.func26, Tryd.ntmps26
  go_wp2_with fail
  go_loopg [3, 4] 25 (fun gk s rv wr => ∃ (q : Nat) (D : List UInt8) (r : Int), gk + D.length = 25 ∧ rv = .int .i64 r ∧ Sgn n r q ∧ DcAt u q D ∧ ByAt D s wr ∧ Below w.heap.size w wr)
  case atStart => exact ⟨u, [], n, rfl, rfl, S0.out, dcAt_start u, A0.out, B0.out⟩
  case round =>
    obtain ⟨q, D, r, hgk, rfl, hSG, hDC, hBy, hB⟩ := hrel
    clear A0 B0 S0
    have HSG := Lib.hid hSG
    have HDC := Lib.hid hDC
    have HB := Lib.hid hB
    obtain ⟨g, c, rfl, hg, hcd⟩ := hBy
    have HCD := Lib.hid hcd
    have hr0 := hSG.1
    obtain ⟨N, hN⟩ : ∃ N, D.length = N := ⟨_, rfl⟩
    rw [hN] at hgk ⊢
    have HN := Lib.hid hN
    clear hSG hDC hB hcd
    by_cases hq : q ≠ 0 ∨ D = []
    · have HQ := Lib.hid hq
      by_cases hD : N = 0
      · have d1 : ((N : Int) == 0) = true := by rw [beq_iff_eq]; omega
        have HD := Lib.hid hD
        clear hD hq hr0 hN
        obtain ⟨m, hm⟩ : ∃ m, m = q % 10 := ⟨_, rfl⟩
        obtain ⟨t, htd⟩ : ∃ t : Int, t = Int.tdiv r 10 := ⟨_, rfl⟩
        obtain ⟨z, hz⟩ : ∃ z : Int, z = Int.tmod r 10 := ⟨_, rfl⟩
        have m10 : m < 10 := by omega
        have NX := Lib.hid (dcAt_step HDC.out HQ.out)
        have LEN : N ≤ 18 := by rw [← HN.out]; exact dcAt_len HDC.out HU.out HQ.out
        obtain ⟨b, hb⟩ : ∃ b, b = UInt8.ofNat (48 + q % 10) := ⟨_, rfl⟩
        have hb2 : (b.toNat : Int) = 48 + (m : Int) := by rw [hb, hm]; exact byte_dig _
        rw [← hb] at NX
        have sg := sign_step HSG.out htd hz hm
        have TN := Lib.hid sg.1
        have zc := sg.2
        have ft : Int.tmod r 10 = z := hz.symm
        have fq : Int.tdiv r 10 = t := htd.symm
        have tb : -9223372036854775808 ≤ t ∧ t ≤ 9223372036854775807 := sign_bound HSG.out (Nat.le_trans (dcAt_q HDC.out) HU.out) htd
        have wq : IntKind.i64.wrap t = t := by rw [IntKind.wrap_i64]; omega
        have wb : IntKind.u8.wrap (48 + (m : Int)) = 48 + (m : Int) := by rw [IntKind.wrap_u8]; omega
        have G1 : Hid ((wr.alloc (.cells #[.int .u8 (48 + (m : Int))] 5)).ownsRow w.heap.size 5 1 (.slice (some ⟨wr.heap.size, 0, none⟩) 1 1) 1 ([b].map byV)) := Lib.hid (by
          have h := Grows.one (mk := byV) 5 w.heap.size wr b HB.out.size
          have e : byV b = .int .u8 (48 + (m : Int)) := by unfold byV; rw [hb2]
          rw [e] at h
          exact h)
        have CD := Lib.hid (fun j (hj : j < D.length) => keep_cell (HCD.out j hj) (below_alloc wr (.cells #[.int .u8 (48 + (m : Int))] 5)) hg)
        have HGK := Lib.hid hgk
        have HZ := Lib.hid zc
        clear hm hb hb2 htd hz sg zc tb hgk
        by_cases hs : z < 0
        · have wz : IntKind.i64.wrap (-z) = (m : Int) := by have := HZ.out; rw [IntKind.wrap_i64]; omega
          have dz : decide (z < 0) = true := by simp [hs]
          clear hs
          go_wp2_with (at_builtin; refine wpList_append_own _ rfl _ _ 53 rfl w.heap.size 5 i0 (.int .u8 0) 1 1 Tryd.underlying53 hi hz0 hz1 hz2 rfl (by decide) _ _ _ rfl G1.out ⟨g, 0, none⟩ N c (D.map byV) rfl (by rw [List.length_map, HN.out, Nat.mul_one]) (ByAt.vals CD.out) (byV_one D) (by unfold maxLen; omega) (by omega) (by have := HB.out.size; simp; omega) ?_)
          intro v' w' hown hgrow _
          have GN := Grows.more (mk := byV) (Z := [b]) (news := D) HN.out hown
          have BN : Hid (Below w.heap.size w w') := Lib.hid ((HB.out.alloc HB.out.size _).grown hgrow (by have := HB.out.size; simp; omega) (fun q hq => (World.ownsRow.lt G1.out q hq).1))
          have AN := Lib.hid (ByAt.of GN (by simp))
          clear hown hgrow GN
          go_wp2_with fail
          go_roundg (gk - 1)
          case measure => have := HGK.out; omega
          case rel => exact ⟨q / 10, b :: D, t, by have := HGK.out; rw [List.length_cons, HN.out]; omega, rfl, TN.out, NX.out, AN.out, BN.out⟩
        · obtain rfl : z = (m : Int) := by have := HZ.out; omega
          have dz : decide ((m : Int) < 0) = false := by simp
          clear hs
          go_wp2_with (at_builtin; refine wpList_append_own _ rfl _ _ 53 rfl w.heap.size 5 i0 (.int .u8 0) 1 1 Tryd.underlying53 hi hz0 hz1 hz2 rfl (by decide) _ _ _ rfl G1.out ⟨g, 0, none⟩ N c (D.map byV) rfl (by rw [List.length_map, HN.out, Nat.mul_one]) (ByAt.vals CD.out) (byV_one D) (by unfold maxLen; omega) (by omega) (by have := HB.out.size; simp; omega) ?_)
          intro v' w' hown hgrow _
          have GN := Grows.more (mk := byV) (Z := [b]) (news := D) HN.out hown
          have BN : Hid (Below w.heap.size w w') := Lib.hid ((HB.out.alloc HB.out.size _).grown hgrow (by have := HB.out.size; simp; omega) (fun q hq => (World.ownsRow.lt G1.out q hq).1))
          have AN := Lib.hid (ByAt.of GN (by simp))
          clear hown hgrow GN
          go_wp2_with fail
          go_roundg (gk - 1)
          case measure => have := HGK.out; omega
          case rel => exact ⟨q / 10, b :: D, t, by have := HGK.out; rw [List.length_cons, HN.out]; omega, rfl, TN.out, NX.out, AN.out, BN.out⟩
      · have d1 : ((N : Int) == 0) = false := by rw [beq_eq_false_iff_ne]; omega
        have hq2 : q ≠ 0 := by
          rcases hq with h | h
          · exact h
          · subst h; simp at hN; omega
        have d2 : (r != 0) = true := by rw [bne_iff_ne]; omega
        clear hD hq hr0 hq2 hN
        obtain ⟨m, hm⟩ : ∃ m, m = q % 10 := ⟨_, rfl⟩
        obtain ⟨t, htd⟩ : ∃ t : Int, t = Int.tdiv r 10 := ⟨_, rfl⟩
        obtain ⟨z, hz⟩ : ∃ z : Int, z = Int.tmod r 10 := ⟨_, rfl⟩
        have m10 : m < 10 := by omega
        have NX := Lib.hid (dcAt_step HDC.out HQ.out)
        have LEN : N ≤ 18 := by rw [← HN.out]; exact dcAt_len HDC.out HU.out HQ.out
        obtain ⟨b, hb⟩ : ∃ b, b = UInt8.ofNat (48 + q % 10) := ⟨_, rfl⟩
        have hb2 : (b.toNat : Int) = 48 + (m : Int) := by rw [hb, hm]; exact byte_dig _
        rw [← hb] at NX
        have sg := sign_step HSG.out htd hz hm
        have TN := Lib.hid sg.1
        have zc := sg.2
        have ft : Int.tmod r 10 = z := hz.symm
        have fq : Int.tdiv r 10 = t := htd.symm
        have tb : -9223372036854775808 ≤ t ∧ t ≤ 9223372036854775807 := sign_bound HSG.out (Nat.le_trans (dcAt_q HDC.out) HU.out) htd
        have wq : IntKind.i64.wrap t = t := by rw [IntKind.wrap_i64]; omega
        have wb : IntKind.u8.wrap (48 + (m : Int)) = 48 + (m : Int) := by rw [IntKind.wrap_u8]; omega
        have G1 : Hid ((wr.alloc (.cells #[.int .u8 (48 + (m : Int))] 5)).ownsRow w.heap.size 5 1 (.slice (some ⟨wr.heap.size, 0, none⟩) 1 1) 1 ([b].map byV)) := Lib.hid (by
          have h := Grows.one (mk := byV) 5 w.heap.size wr b HB.out.size
          have e : byV b = .int .u8 (48 + (m : Int)) := by unfold byV; rw [hb2]
          rw [e] at h
          exact h)
        have CD := Lib.hid (fun j (hj : j < D.length) => keep_cell (HCD.out j hj) (below_alloc wr (.cells #[.int .u8 (48 + (m : Int))] 5)) hg)
        have HGK := Lib.hid hgk
        have HZ := Lib.hid zc
        clear hm hb hb2 htd hz sg zc tb hgk
        by_cases hs : z < 0
        · have wz : IntKind.i64.wrap (-z) = (m : Int) := by have := HZ.out; rw [IntKind.wrap_i64]; omega
          have dz : decide (z < 0) = true := by simp [hs]
          clear hs
          go_wp2_with (at_builtin; refine wpList_append_own _ rfl _ _ 53 rfl w.heap.size 5 i0 (.int .u8 0) 1 1 Tryd.underlying53 hi hz0 hz1 hz2 rfl (by decide) _ _ _ rfl G1.out ⟨g, 0, none⟩ N c (D.map byV) rfl (by rw [List.length_map, HN.out, Nat.mul_one]) (ByAt.vals CD.out) (byV_one D) (by unfold maxLen; omega) (by omega) (by have := HB.out.size; simp; omega) ?_)
          intro v' w' hown hgrow _
          have GN := Grows.more (mk := byV) (Z := [b]) (news := D) HN.out hown
          have BN : Hid (Below w.heap.size w w') := Lib.hid ((HB.out.alloc HB.out.size _).grown hgrow (by have := HB.out.size; simp; omega) (fun q hq => (World.ownsRow.lt G1.out q hq).1))
          have AN := Lib.hid (ByAt.of GN (by simp))
          clear hown hgrow GN
          go_wp2_with fail
          go_roundg (gk - 1)
          case measure => have := HGK.out; omega
          case rel => exact ⟨q / 10, b :: D, t, by have := HGK.out; rw [List.length_cons, HN.out]; omega, rfl, TN.out, NX.out, AN.out, BN.out⟩
        · obtain rfl : z = (m : Int) := by have := HZ.out; omega
          have dz : decide ((m : Int) < 0) = false := by simp
          clear hs
          go_wp2_with (at_builtin; refine wpList_append_own _ rfl _ _ 53 rfl w.heap.size 5 i0 (.int .u8 0) 1 1 Tryd.underlying53 hi hz0 hz1 hz2 rfl (by decide) _ _ _ rfl G1.out ⟨g, 0, none⟩ N c (D.map byV) rfl (by rw [List.length_map, HN.out, Nat.mul_one]) (ByAt.vals CD.out) (byV_one D) (by unfold maxLen; omega) (by omega) (by have := HB.out.size; simp; omega) ?_)
          intro v' w' hown hgrow _
          have GN := Grows.more (mk := byV) (Z := [b]) (news := D) HN.out hown
          have BN : Hid (Below w.heap.size w w') := Lib.hid ((HB.out.alloc HB.out.size _).grown hgrow (by have := HB.out.size; simp; omega) (fun q hq => (World.ownsRow.lt G1.out q hq).1))
          have AN := Lib.hid (ByAt.of GN (by simp))
          clear hown hgrow GN
          go_wp2_with fail
          go_roundg (gk - 1)
          case measure => have := HGK.out; omega
          case rel => exact ⟨q / 10, b :: D, t, by have := HGK.out; rw [List.length_cons, HN.out]; omega, rfl, TN.out, NX.out, AN.out, BN.out⟩
    · have hq0 : q = 0 := by
        rcases Nat.eq_zero_or_pos q with h | h
        · exact h
        · exact absurd (Or.inl (by omega)) hq
      have hD : D ≠ [] := fun h => hq (Or.inr h)
      subst hq0
      have hN0 := List.length_pos_iff.2 hD
      have d1 : ((N : Int) == 0) = false := by rw [beq_eq_false_iff_ne]; omega
      obtain rfl : r = 0 := by omega
      have HE := Lib.hid (dcAt_end HDC.out hD)
      have LEN : N ≤ 19 ∨ (0 : Nat) ≠ 0 := by rw [← HN.out]; exact dcAt_len2 HDC.out HU.out
      have hl19 : N ≤ 19 := by omega
      clear hq hr0 LEN hD hgk hN hN0
      by_cases hn : n < 0
      · have HEQ := Lib.hid (HIN.out hn)
        have dn : decide (n < 0) = true := by simp [hn]
        have G1 : Hid ((wr.alloc (.cells #[.int .u8 45] 5)).ownsRow w.heap.size 5 1 (.slice (some ⟨wr.heap.size, 0, none⟩) 1 1) 1 ([(45 : UInt8)].map byV)) := Lib.hid (Grows.one (mk := byV) 5 w.heap.size wr 45 HB.out.size)
        have CD := Lib.hid (fun j (hj : j < D.length) => keep_cell (HCD.out j hj) (below_alloc wr (.cells #[.int .u8 45] 5)) hg)
        clear hn
        go_wp2_with (at_builtin; refine wpList_append_own _ rfl _ _ 53 rfl w.heap.size 5 i0 (.int .u8 0) 1 1 Tryd.underlying53 hi hz0 hz1 hz2 rfl (by decide) _ _ _ rfl G1.out ⟨g, 0, none⟩ N c (D.map byV) rfl (by rw [List.length_map, HN.out, Nat.mul_one]) (ByAt.vals CD.out) (byV_one D) (by unfold maxLen; omega) (by omega) (by have := HB.out.size; simp; omega) ?_)
        intro v' w' hown hgrow _
        have GN := Grows.more (mk := byV) (Z := [45]) (news := D) HN.out hown
        have BN : Hid (Below w.heap.size w w') := Lib.hid ((HB.out.alloc HB.out.size _).grown hgrow (by have := HB.out.size; simp; omega) (fun q hq => (World.ownsRow.lt G1.out q hq).1))
        obtain ⟨g2, c2, rfl, hg2, hc2⟩ := ByAt.of GN (by simp)
        have hback := run_convert_bytes_back (P := Tryd.prog) w' 53 9 5 ⟨g2, 0, none⟩ c2 (45 :: D) Tryd.underlying53 Tryd.underlying5 Tryd.underlying9 (fun j hj => by rw [Addr.add_lit, Nat.zero_add]; exact hc2 j hj)
        rw [show (45 :: D).length = N + 1 by rw [List.length_cons, HN.out]] at hback
        rw [show ([(45 : UInt8)] ++ D).length = N + 1 by rw [List.length_append, HN.out]; show 1 + N = N + 1; omega]
        clear hown hgrow GN hc2
        go_wp2_with fail
        go_ret
        exact ⟨by rw [HEQ.out, HE.out]; rfl, BN.out⟩
      · have HEQ := Lib.hid (HIP.out (by first | exact hn | omega))
        have dn : decide (n < 0) = false := by simp [hn]
        have hback := run_convert_bytes_back (P := Tryd.prog) wr 53 9 5 ⟨g, 0, none⟩ c D Tryd.underlying53 Tryd.underlying5 Tryd.underlying9 (fun j hj => by rw [Addr.add_lit, Nat.zero_add]; exact HCD.out j hj)
        rw [HN.out] at hback
        clear hn
        go_wp2_with fail
        go_ret
        exact ⟨by rw [HEQ.out, HE.out]; rfl, HB.out⟩
end Go.Proofs.YtfingpllakbpnaaDoor
