/- How many models there are: both sides. -/
import Derived.Test.YtleaaigjnniglaaMdS
namespace Go.Proofs.Ytleaaigjnniglaa
open Go.RowKit Go.ChangeShapes Go.WideShapes

theorem l05How_at (g : Nat) (F : Fm) (L M : Nat) (w : World) (hg : FmAt w g F) (o : OKFm F) (h : FmN F L) (hM : M < 1024) (n : Nat) (hn : howK L F.cs M F.cs.length = n) :
    Calls Try.prog 73 #[.pointer (some ⟨g, 0, none⟩), .int .i64 M] w (fun e w' => e = .returned (.int .i64 (n : Int)) ∧ ∃ m, w' = w.drewN m) := by
  subst hn
  exact l05How_any g F L M w hg o h hM
set_option maxHeartbeats 1000000 in
theorem l05Model_any (g : Nat) (F : Fm) (L M : Nat) (w : World) (hg : FmAt w g F) (o : OKFm F) (h : FmN F L) (hM : M < 1024) :
    Calls Try.prog 63 #[.pointer (some ⟨g, 0, none⟩), .int .i64 M] w (Tells (modelB L F.cs M) w) := by
  obtain ⟨s, hb, hs⟩ := hg.box
  have HG := Lib.hid hg
  have HH := Lib.hid h
  obtain ⟨ao, cap, rfl⟩ := hs.long
  obtain ⟨c0, c1⟩ := hb
  have hle := howK_le L F.cs M F.cs.length
  have hfew := h.ok.few
  have HM : Hid (modelB L F.cs M = decide (howK L F.cs M F.cs.length = F.cs.length)) := Lib.hid rfl
  obtain ⟨n, hn⟩ : ∃ n, howK L F.cs M F.cs.length = n := ⟨_, rfl⟩
  rw [hn] at hle HM
  have HN := Lib.hid hn
  clear hs hg h hn
  by_cases he : n = F.cs.length
  · have HE : Hid (true = modelB L F.cs M) := Lib.hid (by rw [HM.out, decide_eq_true he])
    have hee : ((n : Int) == (F.cs.length : Int)) = true := by rw [beq_iff_eq]; omega
    clear he
    go_enter Try.func63, Try.ntmps63
    go_wp2_with fail
    go_quiet ((go_at_call 73; with_reducible exact Calls.quiet_of (l05How_at g F L M _ (HG.out.drewN _) o HH.out hM n HN.out)))
    go_wp2_with fail
    go_ret
    exact tells _ HE.out
  · have HE : Hid (false = modelB L F.cs M) := Lib.hid (by rw [HM.out, decide_eq_false he])
    have hee : ((n : Int) == (F.cs.length : Int)) = false := beq_false_of_ne (by omega)
    clear he
    go_enter Try.func63, Try.ntmps63
    go_wp2_with fail
    go_quiet ((go_at_call 73; with_reducible exact Calls.quiet_of (l05How_at g F L M _ (HG.out.drewN _) o HH.out hM n HN.out)))
    go_wp2_with fail
    go_ret
    exact tells _ HE.out
theorem l05Model_at (t : Bool) (g : Nat) (F : Fm) (L M : Nat) (w : World) (hg : FmAt w g F) (o : OKFm F) (h : FmN F L) (hM : M < 1024) (ht : modelB L F.cs M = t) :
    Calls Try.prog 63 #[.pointer (some ⟨g, 0, none⟩), .int .i64 M] w (Tells t w) := by
  subst ht
  exact l05Model_any g F L M w hg o h hM
set_option maxRecDepth 100000 in
set_option maxHeartbeats 4000000 in
theorem l05Count_any (g : Nat) (F : Fm) (L : Nat) (w : World) (hg : FmAt w g F) (o : OKFm F) (h : FmN F L) :
    Calls Try.prog 72 #[.pointer (some ⟨g, 0, none⟩)] w (TellsN (modK L F.cs (2 ^ L)).length w) := by
  have HG := Lib.hid hg
  have HH := Lib.hid h
  obtain ⟨N, hN⟩ : ∃ N, N = 2 ^ L := ⟨_, rfl⟩
  have p1 := h.p1
  have p2 := h.p2
  have L2 := h.L2
  have HP : Hid ((2 : Int) ^ L = (N : Int)) := Lib.hid (by rw [hN, pow_cast])
  obtain ⟨s, hb, hs⟩ := hg.box
  rw [h.n] at hb
  have HBX := Lib.hid hb
  rw [← hN] at p1 p2 ⊢
  clear h hg hs hb hN
  go_enter Try.func72, Try.ntmps72
  go_wp2_with fail
  go_loopg [3, 4] N (fun gk c i wr => ∃ k : Nat, k ≤ N ∧ gk + k = N ∧ i = .int .i64 k ∧ c = .int .i64 ((modK L F.cs k).length : Nat) ∧ ∃ m, wr = w.drewN m)
  case atStart => exact ⟨0, Nat.zero_le _, by omega, rfl, rfl, 0, rfl⟩
  case round =>
    obtain ⟨k, hk, hgk, rfl, rfl, hwr⟩ := hrel
    have HW := Lib.hid (drewM hwr)
    have HW0 := Lib.hid hwr
    have hle := modK_le L F.cs k
    have hpow := HP.out
    obtain ⟨c0, c1⟩ : Box2 wr g (.int .i64 (L : Int)) s := by obtain ⟨n, rfl⟩ := hwr; exact HBX.out.keep (below_drewN (Below.refl _ _) n) HBX.out.lt
    have HAT : Hid (FmAt wr g F) := Lib.hid (by obtain ⟨n, rfl⟩ := hwr; exact HG.out.drewN n)
    clear hwr
    by_cases hlt : k < N
    · obtain ⟨c, hc⟩ : ∃ c, c = (modK L F.cs k).length := ⟨_, rfl⟩
      rw [← hc] at hle ⊢
      cases q : modelB L F.cs k with
      | true =>
        have HQ := Lib.hid q
        have HN : Hid ((modK L F.cs (k + 1)).length = c + 1) := Lib.hid (by rw [modK_yes q, List.length_append, hc]; rfl)
        clear q hc
        go_wp2_with fail
        go_at_call 63; refine (l05Model_at true g F L k _ HAT.out o HH.out (by omega) HQ.out).mono ?_; rintro e w' ⟨rfl, m, rfl⟩
        clear c0 c1
        go_wp2_with fail
        go_roundg (gk - 1)
        case measure => omega
        case rel => exact ⟨k + 1, by omega, by omega, by go_num, by rw [HN.out]; go_num, HW.out _⟩
      | false =>
        have HQ := Lib.hid q
        have HN : Hid ((modK L F.cs (k + 1)).length = c) := Lib.hid (by rw [modK_no q, hc])
        clear q hc
        go_wp2_with fail
        go_at_call 63; refine (l05Model_at false g F L k _ HAT.out o HH.out (by omega) HQ.out).mono ?_; rintro e w' ⟨rfl, m, rfl⟩
        clear c0 c1
        go_wp2_with fail
        go_roundg (gk - 1)
        case measure => omega
        case rel => exact ⟨k + 1, by omega, by omega, by go_num, by rw [HN.out], HW.out _⟩
    · obtain rfl : k = N := by omega
      go_wp2_with fail
      go_ret
      exact ⟨rfl, HW0.out⟩
end Go.Proofs.Ytleaaigjnniglaa
