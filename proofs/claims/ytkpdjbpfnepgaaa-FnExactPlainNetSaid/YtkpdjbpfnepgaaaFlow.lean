/- Flows: both sides' tests, amounts and costs. -/
import Derived.Test.YtkpdjbpfnepgaaaVn2
namespace Go.Proofs.Ytkpdjbpfnepgaaa
open Go.RowKit Go.ChangeShapes Go.WideShapes

theorem flowB_no1 {N : Nt} {F : List Int} (h : okN N = false) : flowB N F = false := by unfold flowB; rw [h]; rfl
theorem flowB_no2 {N : Nt} {F : List Int} (h : decide ((F.length : Int) = (N.arcs.length : Int)) = false) : flowB N F = false := by unfold flowB; rw [h]; simp
theorem flowB_no3 {N : Nt} {F : List Int} {i : Nat} (hi : i < N.arcs.length) (h : (decide (0 ≤ F.getD i 0) && decide (F.getD i 0 ≤ (N.arcs.getD i zA).r)) = false) : flowB N F = false := by unfold flowB fitsB; rw [rangeNot hi h]; simp
theorem flowB_yes {N : Nt} {F : List Int} (h1 : okN N = true) (h2 : F.length = N.arcs.length) (h3 : ∀ i, i < N.arcs.length → (decide (0 ≤ F.getD i 0) && decide (F.getD i 0 ≤ (N.arcs.getD i zA).r)) = true) : flowB N F = true := by
  unfold flowB fitsB; rw [h1, decide_eq_true (by rw [h2]), rangeAll h3]; rfl
theorem IL.dn {w : World} {v : Value} {Z : List Int} (h : IL w v Z) (n : Nat) : IL (w.drewN n) v Z := h

set_option maxHeartbeats 4000000 in
theorem l03Flow_in (g : Nat) (b off cap : Nat) (N : Nt) (fb fo fc : Nat) (F : List Int) (w : World) (h : NP w g (.slice (some ⟨b, off, none⟩) N.arcs.length (N.arcs.length + cap)) N) (hpos : 0 < N.arcs.length) (hcell : ∀ i, i < N.arcs.length → ArcAt w b (off + i * 4) (N.arcs.getD i zA))
    (fcell : ∀ i, i < F.length → w.cell? ⟨fb, fo + i, none⟩ = some (.int .i64 (F.getD i 0))) (hok : okN N = true) (hl : F.length = N.arcs.length) (hn : N.arcs.length ≤ 1048576) :
    Calls Try.prog 60 #[.pointer (some ⟨g, 0, none⟩), .slice (some ⟨fb, fo, none⟩) F.length fc] w (Tells (flowB N F) w) := by
  have HP := Lib.hid h
  have HK := Lib.hid hok
  have HLL := Lib.hid hl
  have HC := Lib.hid hcell
  have HFC := Lib.hid fcell
  have hne : ((F.length : Int) != (N.arcs.length : Int)) = false := by simp; omega
  have hle : F.length ≤ 1048576 := by omega
  have d1 := h.c1
  clear hcell fcell hl h
  go_enter Try.func60, Try.ntmps60
  go_wp2_with (go_at_call 52; refine (l03Is_is true _ _ N _ HP.out hn HK.out).mono ?_; rintro e w' ⟨rfl, m, rfl⟩)
  go_loopg [21] F.length (fun gk i wr => ∃ k : Nat, k ≤ F.length ∧ gk + k = F.length ∧ i = .int .i64 k ∧ (∀ j, j < k → (decide (0 ≤ F.getD j 0) && decide (F.getD j 0 ≤ (N.arcs.getD j zA).r)) = true) ∧ ∃ n, wr = w.drewN n)
  case atStart => exact ⟨0, Nat.zero_le _, by omega, rfl, fun j hj => by omega, _, rfl⟩
  case round =>
    clear d1
    obtain ⟨k, hk, hgk, rfl, hall, hwr⟩ := hrel
    have HL := Lib.hid hall
    have HW := Lib.hid (drew_more hwr)
    have d1 : wr.cell? ⟨g, 1, none⟩ = some (.slice (some ⟨b, off, none⟩) N.arcs.length (N.arcs.length + cap)) := by obtain ⟨n, rfl⟩ := hwr; exact HP.out.c1
    by_cases hlt : k < F.length
    · have hlt2 : k < N.arcs.length := by have := HLL.out; omega
      have a2 : wr.cell? ⟨b, off + k * 4 + 2, none⟩ = some (.int .i64 (N.arcs.getD k zA).r) := by obtain ⟨n, rfl⟩ := hwr; exact (HC.out k hlt2).c2
      have f1 : wr.cell? ⟨fb, fo + k, none⟩ = some (.int .i64 (F.getD k 0)) := by obtain ⟨n, rfl⟩ := hwr; exact HFC.out k hlt
      obtain ⟨r, hr⟩ : ∃ r, r = (N.arcs.getD k zA).r := ⟨_, rfl⟩
      obtain ⟨y, hy⟩ : ∃ y, y = F.getD k 0 := ⟨_, rfl⟩
      rw [← hr] at a2
      rw [← hy] at f1
      have HR := Lib.hid hr
      have HY := Lib.hid hy
      clear hr hy hall hwr
      cases ht : (decide (0 ≤ y) && decide (y ≤ r)) with
      | false =>
        have T := Lib.hid ht
        clear ht
        go_wp2_with fail
        go_quiet ((go_at_call 61; with_reducible exact Calls.quiet_of (l00In_is _ y 0 r _ T.out)))
        go_wp2_with fail
        go_ret
        exact Tells.of HW.out (flowB_no3 hlt2 (by rw [← HR.out, ← HY.out]; exact T.out))
      | true =>
        have T := Lib.hid ht
        clear ht
        go_wp2_with fail
        go_quiet ((go_at_call 61; with_reducible exact Calls.quiet_of (l00In_is _ y 0 r _ T.out)))
        go_wp2_with fail
        go_roundg (gk - 1)
        case measure => omega
        case rel => exact ⟨k + 1, by omega, by omega, by go_num, fun j hj => by
          by_cases e : j = k
          · subst e; rw [← HR.out, ← HY.out]; exact T.out
          · exact HL.out j (by omega), HW.out _⟩
    · obtain rfl : k = F.length := by omega
      clear hall hwr
      go_wp2_with fail
      go_ret
      exact Tells.of (m := 0) HW.out (flowB_yes HK.out HLL.out (by rw [← HLL.out]; exact HL.out))
set_option maxHeartbeats 1000000 in
theorem l03Flow_any (g : Nat) (s1 : Value) (N : Nt) (u : Value) (F : List Int) (w : World) (h : NP w g s1 N) (hu : IL w u F) (hn : N.arcs.length ≤ 1048576) :
    Calls Try.prog 60 #[.pointer (some ⟨g, 0, none⟩), u] w (Tells (flowB N F) w) := by
  have HP := Lib.hid h
  cases hok : okN N with
  | false =>
    have HK := Lib.hid hok
    clear hok h
    rw [flowB_no1 HK.out]
    go_enter Try.func60, Try.ntmps60
    go_wp2_with (go_at_call 52; refine (l03Is_is false _ _ N _ HP.out hn HK.out).mono ?_; rintro e w' ⟨rfl, m, rfl⟩)
    go_ret
    exact tells _ rfl
  | true =>
    have HK := Lib.hid hok
    obtain ⟨c0, c1, r1⟩ := h
    cases hl : decide ((F.length : Int) = (N.arcs.length : Int)) with
    | false =>
      obtain ⟨ao, cap, rfl⟩ := r1.long
      obtain ⟨ao2, cap2, rfl⟩ := hu.long
      have hne : ((F.length : Int) != (N.arcs.length : Int)) = true := by simpa using hl
      rw [flowB_no2 hl]
      clear hok hl r1 hu c0
      go_enter Try.func60, Try.ntmps60
      go_wp2_with (go_at_call 52; refine (l03Is_is true _ _ N _ HP.out hn HK.out).mono ?_; rintro e w' ⟨rfl, m, rfl⟩)
      go_ret
      exact tells _ rfl
    | true =>
      have hl' : F.length = N.arcs.length := by simp at hl; omega
      rcases hu with ⟨hz, ao2, cap2, rfl⟩ | ⟨fb, fo, fc, rfl, fpos, fbl, fcell⟩
      · have h0 : N.arcs.length = 0 := by rw [hz] at hl'; simpa using hl'.symm
        have HF : Hid (flowB N F = true) := Lib.hid (flowB_yes HK.out hl' (fun i hi => by omega))
        obtain ⟨ao, cap, rfl⟩ := r1.long
        have H0 := Lib.hid h0
        have hne : ((0 : Int) != (N.arcs.length : Int)) = false := by simp; omega
        clear hok hl hl' hz h0 r1 c0
        go_enter Try.func60, Try.ntmps60
        go_wp2_with (go_at_call 52; refine (l03Is_is true _ _ N _ HP.out hn HK.out).mono ?_; rintro e w' ⟨rfl, m, rfl⟩)
        refine wp_loop_rounds 1 ?_
        rw [rounds_succ]
        go_wp2
        go_ret
        exact tells _ HF.out.symm
      · rcases r1 with ⟨hz, ao, cap, rfl⟩ | ⟨b, off, cap, rfl, hpos, hbl, hcell⟩
        · rw [hz] at hl'; simp at hl'; rw [hl'] at fpos; simp at fpos
        · exact l03Flow_in g b off cap N fb fo _ F w HP.out hpos hcell fcell hok hl' hn
theorem l03Flow_is (t : Bool) (g : Nat) (s1 : Value) (N : Nt) (u : Value) (F : List Int) (w : World) (h : NP w g s1 N) (hu : IL w u F) (hn : N.arcs.length ≤ 1048576) (ht : flowB N F = t) :
    Calls Try.prog 60 #[.pointer (some ⟨g, 0, none⟩), u] w (Tells t w) := by
  subst ht; exact l03Flow_any g s1 N u F w h hu hn

set_option maxHeartbeats 4000000 in
theorem l03Out_any (g : Nat) (s1 : Value) (N : Nt) (u : Value) (F : List Int) (x : Int) (w : World) (h : NP w g s1 N) (hu : IL w u F) (hF : FlowOk N F) :
    Calls Try.prog 62 #[.pointer (some ⟨g, 0, none⟩), u, .int .i64 x] w fun e w' => e = .returned (.int .i64 (outF N F x)) ∧ w = w' := by
  have HF := Lib.hid hF
  have HLL := Lib.hid hF.l
  have h48 := hF.n.l
  obtain ⟨c0, c1, r1⟩ := h
  rcases hu with ⟨hz, ao2, cap2, rfl⟩ | ⟨fb, fo, fc, rfl, fpos, fbl, fcell⟩
  · have h0 : N.arcs.length = 0 := by rw [← hF.l, hz]; rfl
    have H0 : Hid (outF N F x = 0) := Lib.hid (by unfold outF; rw [h0]; rfl)
    clear hF hz h0 r1 c0 h48
    go_enter Try.func62, Try.ntmps62
    go_wp2
    refine wp_loop_rounds 1 ?_
    rw [rounds_succ]
    go_wp2
    go_ret
    exact ⟨ret_int H0.out.symm, rfl⟩
  · rcases r1 with ⟨hz, ao, cap, rfl⟩ | ⟨b, off, cap, rfl, hpos, hbl, hcell⟩
    · exfalso; have := hF.l; rw [hz] at this; simp at this; rw [this] at fpos; simp at fpos
    have HC := Lib.hid hcell
    have HFC := Lib.hid fcell
    have hle : F.length ≤ 48 := by have := hF.l; omega
    clear hF hcell fcell c0
    go_enter Try.func62, Try.ntmps62
    go_wp2
    go_loop [7, 11] (fun s i => ∃ k : Nat, k ≤ F.length ∧ i = .int .i64 k ∧ s = .int .i64 (outT N F x k)) (fun _ i => F.length - (intOf i).toNat)
    case atStart => exact ⟨0, Nat.zero_le _, rfl, rfl⟩
    case round =>
      obtain ⟨k, hk, rfl, rfl⟩ := hrel
      by_cases hlt : k < F.length
      · have hlt2 : k < N.arcs.length := by have := HLL.out; omega
        obtain ⟨a0, a1, a2, a3⟩ := HC.out k hlt2
        have f1 := HFC.out k hlt
        have hs := outT_in HF.out x k (by omega)
        have hy := HF.out.m hlt2
        cases h1 : ((N.arcs.getD k zA).f == x) with
        | true =>
          have HN := Lib.hid (outT_f HF.out hlt2 h1)
          have h2 := outT_ft HF.out hlt2 h1
          generalize outT N F x k = s at HN hs
          generalize F.getD k 0 = y at HN f1 hy
          generalize N.arcs.getD k zA = a at a0 a1 a2 a3 h1 h2
          have s1 : -48000000 ≤ s := by omega
          have s2 : s ≤ 48000000 := by omega
          obtain ⟨y1, y2⟩ := hy
          go_wp2_with fail
          go_round
          case rel => exact ⟨k + 1, by omega, by go_num, by rw [HN.out]⟩
          case measure => simp [intOf]; omega
        | false =>
          cases h2 : ((N.arcs.getD k zA).t == x) with
          | true =>
            have HN := Lib.hid (outT_t (F := F) h1 h2)
            generalize outT N F x k = s at HN hs
            generalize F.getD k 0 = y at HN f1 hy
            generalize N.arcs.getD k zA = a at a0 a1 a2 a3 h1 h2
            have s1 : -48000000 ≤ s := by omega
            have s2 : s ≤ 48000000 := by omega
            obtain ⟨y1, y2⟩ := hy
            go_wp2_with fail
            go_round
            case rel => exact ⟨k + 1, by omega, by go_num, by rw [HN.out]⟩
            case measure => simp [intOf]; omega
          | false =>
            have HN := Lib.hid (outT_n (F := F) h1 h2)
            generalize outT N F x k = s at HN hs
            generalize F.getD k 0 = y at f1 hy
            generalize N.arcs.getD k zA = a at a0 a1 a2 a3 h1 h2
            go_wp2_with fail
            go_round
            case rel => exact ⟨k + 1, by omega, by go_num, by rw [HN.out]⟩
            case measure => simp [intOf]; omega
      · obtain rfl : k = F.length := by omega
        go_wp2_with fail
        go_ret
        exact ⟨ret_int (by rw [HLL.out]; rfl), rfl⟩
end Go.Proofs.Ytkpdjbpfnepgaaa
