/- The first model: both sides. -/
import Derived.Test.YtleaaigjnniglaaVa
namespace Go.Proofs.Ytleaaigjnniglaa
open Go.RowKit Go.ChangeShapes Go.WideShapes

/-- A list of bools and a bool. -/
def SaysBB (Z : List Bool) (b : Bool) (w : World) (e : Ending) (w' : World) : Prop := ∃ v, e = .returned (.tuple #[v, .bool b]) ∧ BI w.heap.size w'.heap.size w' v Z ∧ Below w.heap.size w w'
theorem saysBB {Y Z : List Bool} {a b : Bool} {v : Value} {w w' : World} (h : Y = Z) (h2 : a = b) (hb : BI w.heap.size w'.heap.size w' v Y) (k : Below w.heap.size w w') : SaysBB Z b w (.returned (.tuple #[v, .bool a])) w' := ⟨v, by rw [h2], h ▸ hb, k⟩
def headI (Z : List Int) : Int := Z.headD (-1)
theorem modK_first {L : Nat} {C : List (List Int)} {k : Nat} (h0 : modK L C k = []) (hm : modelB L C k = true) : ∀ n, k < n → ∃ t, modK L C n = (k : Int) :: t := by
  intro n hn
  induction n with
  | zero => omega
  | succ n ih =>
    by_cases e : k = n
    · subst e
      exact ⟨[], by rw [modK_yes hm, h0]; rfl⟩
    · obtain ⟨t, ht⟩ := ih (by omega)
      cases hq : modelB L C n with
      | true => exact ⟨t ++ [(n : Int)], by rw [modK_yes hq, ht]; rfl⟩
      | false => exact ⟨t, by rw [modK_no hq, ht]⟩
theorem modK_in {L : Nat} {C : List (List Int)} {n : Nat} {x : Int} (h : x ∈ modK L C n) : ∃ m : Nat, m < n ∧ x = (m : Int) := by
  unfold modK at h
  rw [List.mem_map] at h
  obtain ⟨m, hm, rfl⟩ := h
  rw [List.mem_filter, List.mem_range] at hm
  exact ⟨m, hm.1, rfl⟩
set_option maxRecDepth 100000 in
set_option maxHeartbeats 4000000 in
theorem l05First_any (g : Nat) (F : Fm) (L : Nat) (w : World) (hg : FmAt w g F) (o : OKFm F) (h : FmN F L) :
    Calls Try.prog 67 #[.pointer (some ⟨g, 0, none⟩)] w (fun e w' => e = .returned (.int .i64 (headI (modK L F.cs (2 ^ L)))) ∧ ∃ m, w' = w.drewN m) := by
  have HG := Lib.hid hg
  have HH := Lib.hid h
  obtain ⟨N, hN⟩ : ∃ N, N = 2 ^ L := ⟨_, rfl⟩
  have p1 := h.p1
  have p2 := h.p2
  have L2 := h.L2
  have HP : Hid ((2 : Int) ^ L = (N : Int)) := Lib.hid (by rw [hN, pow_cast])
  obtain ⟨s, hb, hs⟩ := hg.box
  rw [h.n] at hb
  have HBX := Lib.hid hb
  rw [← hN] at p1 p2 ⊢
  clear h hg hs hb hN
  go_enter Try.func67, Try.ntmps67
  go_wp2_with fail
  go_loopg [3] N (fun gk i wr => ∃ k : Nat, k ≤ N ∧ gk + k = N ∧ i = .int .i64 k ∧ modK L F.cs k = [] ∧ ∃ m, wr = w.drewN m)
  case atStart => exact ⟨0, Nat.zero_le _, by omega, rfl, rfl, 0, rfl⟩
  case round =>
    obtain ⟨k, hk, hgk, rfl, h0, hwr⟩ := hrel
    have HW := Lib.hid (drewM hwr)
    have HW0 := Lib.hid hwr
    have HE := Lib.hid h0
    have hpow := HP.out
    obtain ⟨c0, c1⟩ : Box2 wr g (.int .i64 (L : Int)) s := by obtain ⟨n, rfl⟩ := hwr; exact HBX.out.keep (below_drewN (Below.refl _ _) n) HBX.out.lt
    have HAT : Hid (FmAt wr g F) := Lib.hid (by obtain ⟨n, rfl⟩ := hwr; exact HG.out.drewN n)
    clear hwr h0
    by_cases hlt : k < N
    · cases q : modelB L F.cs k with
      | true =>
        have HQ := Lib.hid q
        clear q
        go_wp2_with fail
        go_at_call 63; refine (l05Model_at true g F L k _ HAT.out o HH.out (by omega) HQ.out).mono ?_; rintro e w' ⟨rfl, m, rfl⟩
        clear c0 c1
        go_wp2_with fail
        go_ret
        obtain ⟨t, ht⟩ := modK_first HE.out HQ.out N hlt
        exact ⟨by rw [ht]; rfl, HW.out _⟩
      | false =>
        have HQ := Lib.hid q
        clear q
        go_wp2_with fail
        go_at_call 63; refine (l05Model_at false g F L k _ HAT.out o HH.out (by omega) HQ.out).mono ?_; rintro e w' ⟨rfl, m, rfl⟩
        clear c0 c1
        go_wp2_with fail
        go_roundg (gk - 1)
        case measure => omega
        case rel => exact ⟨k + 1, by omega, by omega, by go_num, by rw [modK_no HQ.out]; exact HE.out, HW.out _⟩
    · obtain rfl : k = N := by omega
      go_wp2_with fail
      go_ret
      exact ⟨by rw [HE.out]; rfl, HW0.out⟩
theorem bi_nil {w w' : World} : BI w.heap.size w'.heap.size w' (.slice none 0 0) [] := SI.nil _ (Nat.le_refl _) _ _
end Go.Proofs.Ytleaaigjnniglaa
