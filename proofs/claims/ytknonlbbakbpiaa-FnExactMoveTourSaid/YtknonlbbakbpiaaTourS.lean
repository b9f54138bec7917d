/- Tours: plain facts, and how long a tour is (the model's side). -/
import Derived.Test.YtknonlbbakbpiaaCitS
import Derived.Test.YtknonlbbakbpiaaArr
import Derived.StillTailTactics
import Derived.Deep.LoopGhost
namespace Go.Proofs.Ytknonlbbakbpiaa
open Go.RowKit Go.ChangeShapes Go.WideShapes

theorem vintS {a b : Int} (h : a = b) : Value.int .i64 a = Value.int .i64 b := by rw [h]
/-- The city at a place of a list. -/
def tN (T : List Int) (i : Nat) : Nat := (T.getD i 0).toNat
/-- The first k ways of a round trip. -/
def longT (L T : List Int) (n : Nat) : Nat → Int
  | 0 => 0
  | i + 1 => longT L T n i + atW L n (tN T i) (tN T ((i + 1) % n))
structure TourOk (T : List Int) (n : Nat) : Prop where
  len : T.length = n
  inn : ∀ i, i < n → T.getD i 0 = (tN T i : Int) ∧ tN T i < n
theorem longT_in {L T : List Int} {n : Nat} (h : CityOk L n) (ht : TourOk T n) : ∀ k, k ≤ n → 0 ≤ longT L T n k ∧ longT L T n k ≤ 1000 * (k : Int)
  | 0, _ => by simp [longT]
  | k + 1, hk => by
    have ih := longT_in h ht k (by omega)
    have h1 := h.n1
    have hw := h.inn (tN T k) (tN T ((k + 1) % n)) (ht.inn k (by omega)).2 (ht.inn _ (Nat.mod_lt _ (by omega))).2
    unfold longT
    omega
set_option maxRecDepth 100000 in
set_option maxHeartbeats 4000000 in
theorem l04Long_any (v u : Value) (L T : List Int) (n : Nat) (w : World) (hv : IL w v L) (hu : IL w u T) (h : CityOk L n) (ht : TourOk T n) :
    Calls Try.prog 81 #[v, u] w (fun e w' => e = .returned (.int .i64 (longT L T n n)) ∧ ∃ m, w' = w.drewN m) := by
  have HOK := Lib.hid h
  have HT := Lib.hid ht
  have n1 := h.n1
  have n2 := h.n2
  have sq := h.sq
  have tl := ht.len
  rcases hv with ⟨hz, -⟩ | ⟨b, off, cap, rfl, hpos, hbl, hcell⟩
  · exfalso
    rw [hz] at sq
    have := at_lt (n := n) (i := 0) (k := 0) (by omega) (by omega)
    simp at sq; omega
  rcases hu with ⟨hz, -⟩ | ⟨b2, off2, cap2, rfl, hpos2, hbl2, hcell2⟩
  · rw [hz] at tl; simp at tl; omega
  have HC := Lib.hid hcell
  have HC2 := Lib.hid hcell2
  rw [tl]
  clear hcell hcell2 h ht
  go_enter Try.func81, Try.ntmps81
  go_wp2_with fail
  go_loopg [6, 7] n (fun gk s i wr => ∃ k : Nat, k ≤ n ∧ gk + k = n ∧ i = .int .i64 k ∧ s = .int .i64 (longT L T n k) ∧ ∃ m, wr = w.drewN m)
  case atStart => exact ⟨0, Nat.zero_le _, by omega, rfl, rfl, 0, rfl⟩
  case round =>
    obtain ⟨k, hk, hgk, rfl, rfl, hwr⟩ := hrel
    have HW := Lib.hid (drew_more hwr)
    have HW0 := Lib.hid hwr
    have HB : Hid (Below w.heap.size w wr) := Lib.hid (by obtain ⟨m, rfl⟩ := hwr; exact below_drewN (Below.refl _ _) m)
    clear hwr
    have hs := longT_in HOK.out HT.out k hk
    by_cases hlt : k < n
    · obtain ⟨q, hq⟩ : ∃ q, q = (k + 1) % n := ⟨_, rfl⟩
      have hqn : q < n := by rw [hq]; exact Nat.mod_lt _ (by omega)
      obtain ⟨a1, a2⟩ := HT.out.inn k hlt
      obtain ⟨b1, b2'⟩ := HT.out.inn q hqn
      have x1 : wr.cell? ⟨b2, off2 + k, none⟩ = some (.int .i64 (tN T k : Nat)) := by rw [HB.out.cell (p := ⟨b2, off2 + k, none⟩) hbl2, ← a1]; exact HC2.out k (by omega)
      have x2 : wr.cell? ⟨b2, off2 + q, none⟩ = some (.int .i64 (tN T q : Nat)) := by rw [HB.out.cell (p := ⟨b2, off2 + q, none⟩) hbl2, ← b1]; exact HC2.out q (by omega)
      obtain ⟨m, hm, p1, p2, p3, p4, p5, p6, p7⟩ := place_facts a2 b2' n2 sq
      have x3 : wr.cell? ⟨b, off + (m + tN T q), none⟩ = some (.int .i64 (atW L n (tN T k) (tN T q))) := by
        rw [HB.out.cell (p := ⟨b, off + (m + tN T q), none⟩) hbl]
        unfold atW
        rw [← hm]
        exact HC.out _ p1
      have hw := HOK.out.inn _ _ a2 b2'
      have HN : Hid (longT L T n (k + 1) = longT L T n k + atW L n (tN T k) (tN T q)) := Lib.hid (by rw [hq]; rfl)
      have hrem : IntKind.i64.wrap ((k : Int) + 1) = (k : Int) + 1 := IntWalk.i64_in _ (by omega)
      have hmod : Int.tmod ((k : Int) + 1) (n : Int) = (q : Int) := by
        rw [Int.tmod_eq_emod_of_nonneg (by omega), hq]; simp
      have hwq : IntKind.i64.wrap (q : Int) = (q : Int) := IntWalk.i64_in _ (by omega)
      have hn0 : ((n : Int) == 0) = false := by simp; omega
      have hn1 : ¬ n = 0 := by omega
      have lk : (k : Int) < (n : Int) := by omega
      have lq : (q : Int) < (n : Int) := by omega
      generalize atW L n (tN T k) (tN T q) = z at x3 hw HN
      generalize tN T k = c at x1 p3 a2
      generalize tN T q = d at x2 x3 p1 p4 p5 p6 p7 b2'
      generalize longT L T n k = s at hs HN
      clear a1 b1 hm hq
      obtain ⟨s1, s2⟩ := hs
      obtain ⟨w1, w2⟩ := hw
      have hwz : IntKind.i64.wrap (s + z) = s + z := IntWalk.i64_in _ (by omega)
      go_wp2_with fail
      refine wp_region_still_tail 19 (by kernel_rfl) (by kernel_rfl) ?_
      simp only [List.take_succ_cons, List.take_zero, List.drop_succ_cons, List.drop_zero]
      repeat still_step
      refine wpStill_nil ?_
      change wpList _ _ _ _ _ wr.drew
      go_wp2_with fail
      go_roundg (gk - 1)
      case measure => omega
      case rel => exact ⟨k + 1, by omega, by omega, by go_num, by first | exact vintS HN.out.symm | exact vintS (hwz.trans HN.out.symm), HW.out 1⟩
    · obtain rfl : k = n := by omega
      generalize hs2 : longT L T k k = s at hs
      have HS := Lib.hid hs2
      clear hs2
      go_wp2_with fail
      go_ret
      exact ⟨ret_int HS.out.symm, HW0.out⟩
end Go.Proofs.Ytknonlbbakbpiaa
