/- How many models there are: both sides. -/
import Derived.Test.YtaghnkmcnomegaaMdS
namespace Go.Proofs.Ytaghnkmcnomegaa
open Go.RowKit Go.ChangeShapes Go.WideShapes

theorem l05How_at (g : Nat) (F : Fm) (L M : Nat) (w : World) (hg : FmAt w g F) (o : OKFm F) (h : FmN F L) (hM : M < 1024) (n : Nat) (hn : howK L F.cs M F.cs.length = n) :
    Calls Try.prog 66 #[.pointer (some ⟨g, 0, none⟩), .int .i64 M] w (fun e w' => e = .returned (.int .i64 (n : Int)) ∧ ∃ m, w' = w.drewN m) := by
  subst hn
  exact l05How_any g F L M w hg o h hM
set_option maxHeartbeats 1000000 in
theorem l05Model_any (g : Nat) (F : Fm) (L M : Nat) (w : World) (hg : FmAt w g F) (o : OKFm F) (h : FmN F L) (hM : M < 1024) :
    Calls Try.prog 54 #[.pointer (some ⟨g, 0, none⟩), .int .i64 M] w (Tells (modelB L F.cs M) w) := by
  obtain ⟨s, hb, hs⟩ := hg.box
  have HG := Lib.hid hg
  have HH := Lib.hid h
  obtain ⟨ao, cap, rfl⟩ := hs.long
  obtain ⟨c0, c1⟩ := hb
  have hle := howK_le L F.cs M F.cs.length
  have hfew := h.ok.few
  have HM : Hid (modelB L F.cs M = decide (howK L F.cs M F.cs.length = F.cs.length)) := Lib.hid rfl
  obtain ⟨n, hn⟩ : ∃ n, howK L F.cs M F.cs.length = n := ⟨_, rfl⟩
  rw [hn] at hle HM
  have HN := Lib.hid hn
  clear hs hg h hn
  by_cases he : n = F.cs.length
  · have HE : Hid (true = modelB L F.cs M) := Lib.hid (by rw [HM.out, decide_eq_true he])
    have hee : ((n : Int) == (F.cs.length : Int)) = true := by rw [beq_iff_eq]; omega
    clear he
    go_enter Try.func54, Try.ntmps54
    go_wp2_with fail
    go_quiet ((go_at_call 66; with_reducible exact Calls.quiet_of (l05How_at g F L M _ (HG.out.drewN _) o HH.out hM n HN.out)))
    go_wp2_with fail
    go_ret
    exact tells _ HE.out
  · have HE : Hid (false = modelB L F.cs M) := Lib.hid (by rw [HM.out, decide_eq_false he])
    have hee : ((n : Int) == (F.cs.length : Int)) = false := beq_false_of_ne (by omega)
    clear he
    go_enter Try.func54, Try.ntmps54
    go_wp2_with fail
    go_quiet ((go_at_call 66; with_reducible exact Calls.quiet_of (l05How_at g F L M _ (HG.out.drewN _) o HH.out hM n HN.out)))
    go_wp2_with fail
    go_ret
    exact tells _ HE.out
theorem l05Model_at (t : Bool) (g : Nat) (F : Fm) (L M : Nat) (w : World) (hg : FmAt w g F) (o : OKFm F) (h : FmN F L) (hM : M < 1024) (ht : modelB L F.cs M = t) :
    Calls Try.prog 54 #[.pointer (some ⟨g, 0, none⟩), .int .i64 M] w (Tells t w) := by
  subst ht
  exact l05Model_any g F L M w hg o h hM
end Go.Proofs.Ytaghnkmcnomegaa
