/- Flows: the program's tests and amounts. -/
import Derived.Test.YtkpdjbpfnepgaaaFlow
namespace Go.Proofs.Ytkpdjbpfnepgaaa
open Go.RowKit Go.ChangeShapes Go.WideShapes

theorem implValidNet_is (t : Bool) (v : Value) (N : Nt) (w : World) (hv : NV w v N) (oN : OKN N) (ht : okN N = t) :
    Calls Try.prog 18 #[v] w (Says t w) := by
  subst ht; exact implValidNet_any v N w hv oN
/-- The box of a net, and an arc's copy behind it. -/
structure NBox (w wr : World) (N : Nt) (s : Value) : Prop where
  box : Box2 wr w.heap.size (.int .i64 N.nodes) s
  below : Below w.heap.size w wr
theorem NBox.more {w wr : World} {N : Nt} {s : Value} (h : NBox w wr N s) (o : Obj) (m : Nat) : NBox w ((wr.alloc o).drewN m) N s :=
  ⟨h.box.keep (below_drewN (below_alloc wr _) m) h.box.lt, h.below.trans ((below_drewN (below_alloc wr _) m).mono h.below.size)⟩
theorem NBox.next {w wr w2 : World} {N : Nt} {s : Value} (h : NBox w wr N s) (b : Below wr.heap.size wr w2) : NBox w w2 N s :=
  ⟨h.box.keep b h.box.lt, h.below.trans (b.mono h.below.size)⟩

set_option maxHeartbeats 4000000 in
theorem fits_in (b off cap : Nat) (N : Nt) (fb fo fc : Nat) (F : List Int) (w : World) (hpos : 0 < N.arcs.length) (hbl : b < w.heap.size) (hcell : ∀ i, i < N.arcs.length → ArcAt w b (off + i * 4) (N.arcs.getD i zA))
    (fbl : fb < w.heap.size) (fcell : ∀ i, i < F.length → w.cell? ⟨fb, fo + i, none⟩ = some (.int .i64 (F.getD i 0))) (hok : okN N = true) (hl : F.length = N.arcs.length) (oN : OKN N) :
    Calls Try.prog 64 #[.agg #[.int .i64 N.nodes, .slice (some ⟨b, off, none⟩) N.arcs.length (N.arcs.length + cap)], .slice (some ⟨fb, fo, none⟩) F.length fc] w (Says (flowB N F) w) := by
  have HB := Lib.hid (below_alloc w)
  have HK := Lib.hid hok
  have HLL := Lib.hid hl
  have HC := Lib.hid hcell
  have HFC := Lib.hid fcell
  have hn := oN.size
  have hne : ((F.length : Int) != (N.arcs.length : Int)) = false := by simp; omega
  have hle : F.length ≤ 1048576 := by omega
  have X0 := Lib.hid (Box2.mk' w (.int .i64 N.nodes) (.slice (some ⟨b, off, none⟩) N.arcs.length (N.arcs.length + cap)) 29)
  have HV : Hid (NV w (.agg #[.int .i64 N.nodes, .slice (some ⟨b, off, none⟩) N.arcs.length (N.arcs.length + cap)]) N) := Lib.hid ⟨_, rfl, Or.inr ⟨b, off, cap, rfl, hpos, hbl, hcell⟩⟩
  clear hcell fcell hl
  go_enter Try.func64, Try.ntmps64
  go_wp2_with fail
  go_at_call 18; refine (implValidNet_is true _ N _ (HV.out.below (HB.out _) (Nat.le_refl _)) oN HK.out).mono ?_; rintro e w1 ⟨rfl, bb⟩
  have X1 := Lib.hid (show NBox w w1 N _ from ⟨X0.out.keep bb X0.out.lt, (HB.out _).trans (bb.mono (by simp))⟩)
  have l1 := X1.out.box.lt
  obtain ⟨d0, d1⟩ := X1.out.box
  clear bb X0
  go_wp2_with fail
  clear d0 d1 l1
  go_loopg [21] N.arcs.length (fun gk i wr => ∃ k : Nat, k ≤ N.arcs.length ∧ gk + k = N.arcs.length ∧ i = .int .i64 k ∧ (∀ j, j < k → (decide (0 ≤ F.getD j 0) && decide (F.getD j 0 ≤ (N.arcs.getD j zA).r)) = true) ∧ NBox w wr N (.slice (some ⟨b, off, none⟩) N.arcs.length (N.arcs.length + cap)))
  case atStart => exact ⟨0, Nat.zero_le _, by omega, rfl, fun j hj => by omega, X1.out⟩
  case round =>
    clear X1
    obtain ⟨k, hk, hgk, rfl, hall, hx⟩ := hrel
    have HL := Lib.hid hall
    have HX := Lib.hid hx
    have l1 := hx.box.lt
    obtain ⟨d0, d1⟩ := hx.box
    by_cases hlt : k < N.arcs.length
    · have hlt2 : k < F.length := by have := HLL.out; omega
      have ha : ArcAt wr b (off + k * 4) (N.arcs.getD k zA) := (HC.out k hlt).keep hx.below hbl
      have hbw : b < wr.heap.size := Nat.lt_of_lt_of_le hbl hx.below.size
      have f1 : wr.cell? ⟨fb, fo + k, none⟩ = some (.int .i64 (F.getD k 0)) := keep_cell (HFC.out k hlt2) hx.below fbl
      have hfw : fb < wr.heap.size := Nat.lt_of_lt_of_le fbl hx.below.size
      obtain ⟨a, hA⟩ : ∃ a, a = N.arcs.getD k zA := ⟨_, rfl⟩
      obtain ⟨y, hy⟩ : ∃ y, y = F.getD k 0 := ⟨_, rfl⟩
      rw [← hA] at ha
      rw [← hy] at f1
      have HA := Lib.hid hA
      have HY := Lib.hid hy
      obtain ⟨a0, a1, a2, a3⟩ := ha
      clear hA hy hall hx
      cases ht : (decide (0 ≤ y) && decide (y ≤ a.r)) with
      | false =>
        have T := Lib.hid ht
        clear ht
        go_wp2_with fail
        go_quiet ((go_at_call 53; with_reducible exact Calls.quiet_of (isFrom_is _ y 0 a.r _ T.out)))
        go_wp2_with fail
        go_ret
        exact says (flowB_no3 hlt (by rw [← HA.out, ← HY.out]; exact T.out)).symm (HX.out.more _ _).below
      | true =>
        have T := Lib.hid ht
        clear ht
        go_wp2_with fail
        go_quiet ((go_at_call 53; with_reducible exact Calls.quiet_of (isFrom_is _ y 0 a.r _ T.out)))
        go_wp2_with fail
        go_roundg (gk - 1)
        case measure => omega
        case rel => exact ⟨k + 1, by omega, by omega, by go_num, fun j hj => by
          by_cases e : j = k
          · subst e; rw [← HA.out, ← HY.out]; exact T.out
          · exact HL.out j (by omega), HX.out.more _ _⟩
    · obtain rfl : k = N.arcs.length := by omega
      clear hall hx
      go_wp2_with fail
      go_ret
      exact says (flowB_yes HK.out HLL.out HL.out).symm HX.out.below
set_option maxHeartbeats 1000000 in
theorem fits_any (v : Value) (N : Nt) (u : Value) (F : List Int) (w : World) (hv : NV w v N) (hu : IL w u F) (oN : OKN N) :
    Calls Try.prog 64 #[v, u] w (Says (flowB N F) w) := by
  have HB := Lib.hid (below_alloc w)
  have HV := Lib.hid hv
  have hn := oN.size
  obtain ⟨s1, rfl, r1⟩ := hv
  have X0 := Lib.hid (Box2.mk' w (.int .i64 N.nodes) s1 29)
  cases hok : okN N with
  | false =>
    have HK := Lib.hid hok
    clear hok r1
    rw [flowB_no1 HK.out]
    go_enter Try.func64, Try.ntmps64
    go_wp2_with fail
    go_at_call 18; refine (implValidNet_is false _ N _ (HV.out.below (HB.out _) (Nat.le_refl _)) oN HK.out).mono ?_; rintro e w1 ⟨rfl, bb⟩
    have H1 := Lib.hid ((HB.out _).trans (bb.mono (by simp)))
    clear bb
    go_wp2_with fail
    go_ret
    exact says rfl H1.out
  | true =>
    have HK := Lib.hid hok
    cases hl : decide ((F.length : Int) = (N.arcs.length : Int)) with
    | false =>
      obtain ⟨ao, cap, rfl⟩ := r1.long
      obtain ⟨ao2, cap2, rfl⟩ := hu.long
      have hne : ((F.length : Int) != (N.arcs.length : Int)) = true := by simpa using hl
      rw [flowB_no2 hl]
      clear hok hl r1 hu
      go_enter Try.func64, Try.ntmps64
      go_wp2_with fail
      go_at_call 18; refine (implValidNet_is true _ N _ (HV.out.below (HB.out _) (Nat.le_refl _)) oN HK.out).mono ?_; rintro e w1 ⟨rfl, bb⟩
      have H1 := Lib.hid ((HB.out _).trans (bb.mono (by simp)))
      have X1 := Lib.hid (X0.out.keep bb X0.out.lt)
      have l1 := X1.out.lt
      obtain ⟨d0, d1⟩ := X1.out
      clear bb
      go_wp2_with fail
      go_ret
      exact says rfl H1.out
    | true =>
      have hl' : F.length = N.arcs.length := by simp at hl; omega
      rcases hu with ⟨hz, ao2, cap2, rfl⟩ | ⟨fb, fo, fc, rfl, fpos, fbl, fcell⟩
      · have h0 : N.arcs.length = 0 := by rw [hz] at hl'; simpa using hl'.symm
        have HF : Hid (flowB N F = true) := Lib.hid (flowB_yes HK.out hl' (fun i hi => by omega))
        obtain ⟨ao, cap, rfl⟩ := r1.long
        have H0 := Lib.hid h0
        have hne : ((0 : Int) != (N.arcs.length : Int)) = false := by simp; omega
        rw [HF.out]
        clear hok hl hl' hz h0 r1
        go_enter Try.func64, Try.ntmps64
        go_wp2_with fail
        go_at_call 18; refine (implValidNet_is true _ N _ (HV.out.below (HB.out _) (Nat.le_refl _)) oN HK.out).mono ?_; rintro e w1 ⟨rfl, bb⟩
        have H1 := Lib.hid ((HB.out _).trans (bb.mono (by simp)))
        have X1 := Lib.hid (X0.out.keep bb X0.out.lt)
        have l1 := X1.out.lt
        obtain ⟨d0, d1⟩ := X1.out
        have h00 := H0.out
        clear bb
        go_wp2_with fail
        refine wp_loop_rounds 1 ?_
        rw [rounds_succ]
        go_wp2
        go_ret
        exact says rfl H1.out
      · rcases r1 with ⟨hz, ao, cap, rfl⟩ | ⟨b, off, cap, rfl, hpos, hbl, hcell⟩
        · rw [hz] at hl'; simp at hl'; rw [hl'] at fpos; simp at fpos
        · exact fits_in b off cap N fb fo _ F w hpos hbl hcell fbl fcell hok hl' oN
theorem fits_is (t : Bool) (v : Value) (N : Nt) (u : Value) (F : List Int) (w : World) (hv : NV w v N) (hu : IL w u F) (oN : OKN N) (ht : flowB N F = t) :
    Calls Try.prog 64 #[v, u] w (Says t w) := by
  subst ht; exact fits_any v N u F w hv hu oN

/-- A call that answers a number, and lets the old memory be. -/
def SaysI (n : Int) (w : World) (e : Ending) (w' : World) : Prop := e = .returned (.int .i64 n) ∧ Below w.heap.size w w'
set_option maxHeartbeats 4000000 in
theorem amountOut_any (v : Value) (N : Nt) (u : Value) (F : List Int) (x : Int) (w : World) (hv : NV w v N) (hu : IL w u F) (hF : FlowOk N F) :
    Calls Try.prog 65 #[v, u, .int .i64 x] w (SaysI (outF N F x) w) := by
  have HB := Lib.hid (below_alloc w)
  have HF := Lib.hid hF
  have HLL := Lib.hid hF.l
  have h48 := hF.n.l
  obtain ⟨s1, rfl, r1⟩ := hv
  rcases r1 with ⟨hz, ao, cap, rfl⟩ | ⟨b, off, cap, rfl, hpos, hbl, hcell⟩
  · have H0 : Hid (outF N F x = 0) := Lib.hid (by unfold outF; rw [hz]; rfl)
    clear hF hz h48
    go_enter Try.func65, Try.ntmps65
    go_wp2
    refine wp_loop_rounds 1 ?_
    rw [rounds_succ]
    go_wp2
    go_ret
    exact ⟨ret_int H0.out.symm, HB.out _⟩
  · rcases hu with ⟨hz, ao2, cap2, rfl⟩ | ⟨fb, fo, fc, rfl, fpos, fbl, fcell⟩
    · exfalso; have := hF.l; rw [hz] at this; simp at this; omega
    have HC := Lib.hid hcell
    have HFC := Lib.hid fcell
    have X0 := Lib.hid (show NBox w _ N _ from ⟨Box2.mk' w (.int .i64 N.nodes) (.slice (some ⟨b, off, none⟩) N.arcs.length (N.arcs.length + cap)) 29, HB.out _⟩)
    clear hF hcell fcell
    go_enter Try.func65, Try.ntmps65
    go_wp2
    go_loopg [7, 13] N.arcs.length (fun gk s i wr => ∃ k : Nat, k ≤ N.arcs.length ∧ gk + k = N.arcs.length ∧ i = .int .i64 k ∧ s = .int .i64 (outT N F x k) ∧ NBox w wr N (.slice (some ⟨b, off, none⟩) N.arcs.length (N.arcs.length + cap)))
    case atStart => exact ⟨0, Nat.zero_le _, by omega, rfl, rfl, X0.out⟩
    case round =>
      clear X0
      obtain ⟨k, hk, hgk, rfl, rfl, hx⟩ := hrel
      have HX := Lib.hid hx
      have l1 := hx.box.lt
      obtain ⟨d0, d1⟩ := hx.box
      by_cases hlt : k < N.arcs.length
      · have hlt2 : k < F.length := by have := HLL.out; omega
        have ha : ArcAt wr b (off + k * 4) (N.arcs.getD k zA) := (HC.out k hlt).keep hx.below hbl
        have hbw : b < wr.heap.size := Nat.lt_of_lt_of_le hbl hx.below.size
        have f1 : wr.cell? ⟨fb, fo + k, none⟩ = some (.int .i64 (F.getD k 0)) := keep_cell (HFC.out k hlt2) hx.below fbl
        have hfw : fb < wr.heap.size := Nat.lt_of_lt_of_le fbl hx.below.size
        obtain ⟨a0, a1, a2, a3⟩ := ha
        have hs := outT_in HF.out x k (by omega)
        have hy := HF.out.m hlt
        clear hx
        cases h1 : ((N.arcs.getD k zA).f == x) with
        | true =>
          have HN := Lib.hid (outT_f HF.out hlt h1)
          have h2 := outT_ft HF.out hlt h1
          generalize outT N F x k = s at HN hs
          generalize F.getD k 0 = y at HN f1 hy
          generalize N.arcs.getD k zA = a at a0 a1 a2 a3 h1 h2
          have s1 : -48000000 ≤ s := by omega
          have s2 : s ≤ 48000000 := by omega
          obtain ⟨y1, y2⟩ := hy
          have g1 : (x == a.f) = true := by rw [BEq.comm]; exact h1
          have g2 : (x == a.t) = false := by rw [BEq.comm]; exact h2
          clear h1 h2
          go_wp2_with fail
          go_roundg (gk - 1)
          case measure => omega
          case rel => exact ⟨k + 1, by omega, by omega, by go_num, by rw [HN.out], HX.out.next (below_alloc _ _)⟩
        | false =>
          cases h2 : ((N.arcs.getD k zA).t == x) with
          | true =>
            have HN := Lib.hid (outT_t (F := F) h1 h2)
            generalize outT N F x k = s at HN hs
            generalize F.getD k 0 = y at HN f1 hy
            generalize N.arcs.getD k zA = a at a0 a1 a2 a3 h1 h2
            have s1 : -48000000 ≤ s := by omega
            have s2 : s ≤ 48000000 := by omega
            obtain ⟨y1, y2⟩ := hy
            have g1 : (x == a.f) = false := by rw [BEq.comm]; exact h1
            have g2 : (x == a.t) = true := by rw [BEq.comm]; exact h2
            clear h1 h2
            go_wp2_with fail
            go_roundg (gk - 1)
            case measure => omega
            case rel => exact ⟨k + 1, by omega, by omega, by go_num, by rw [HN.out], HX.out.next (below_alloc _ _)⟩
          | false =>
            have HN := Lib.hid (outT_n (F := F) h1 h2)
            generalize outT N F x k = s at HN hs
            generalize F.getD k 0 = y at f1 hy
            generalize N.arcs.getD k zA = a at a0 a1 a2 a3 h1 h2
            have s1 : -48000000 ≤ s := by omega
            have s2 : s ≤ 48000000 := by omega
            obtain ⟨y1, y2⟩ := hy
            have g1 : (x == a.f) = false := by rw [BEq.comm]; exact h1
            have g2 : (x == a.t) = false := by rw [BEq.comm]; exact h2
            clear h1 h2
            go_wp2_with fail
            go_roundg (gk - 1)
            case measure => omega
            case rel => exact ⟨k + 1, by omega, by omega, by go_num, by rw [HN.out], HX.out.next (below_alloc _ _)⟩
      · obtain rfl : k = N.arcs.length := by omega
        go_wp2_with fail
        go_ret
        exact ⟨rfl, HX.out.below⟩
end Go.Proofs.Ytkpdjbpfnepgaaa
