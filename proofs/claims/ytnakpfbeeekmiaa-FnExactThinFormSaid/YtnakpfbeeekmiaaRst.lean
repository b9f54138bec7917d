/- The literals of a clause whose opposites are not known: the program. -/
import Derived.Test.YtnakpfbeeekmiaaHasI
import Derived.Test.YtnakpfbeeekmiaaGrw
namespace Go.Proofs.Ytnakpfbeeekmiaa
open Go.RowKit Go.ChangeShapes Go.WideShapes

def rst (K c : List Int) : List Int := c.filter fun x => !inS K (-x)
theorem rst_len (K c : List Int) : (rst K c).length ≤ c.length := List.length_filter_le _ _
theorem rst_yes {K c : List Int} {k : Nat} (h : k < c.length) (hy : inS K (-(c.getD k 0)) = false) : rst K (c.take (k + 1)) = rst K (c.take k) ++ [c.getD k 0] := by
  have e : c.take (k + 1) = c.take k ++ [c.getD k 0] := by
    rw [List.take_succ_eq_append_getElem h]; simp [List.getD, h]
  unfold rst
  rw [e, List.filter_append]; simp only [List.filter_cons, hy]; rfl
theorem rst_no {K c : List Int} {k : Nat} (h : k < c.length) (hy : inS K (-(c.getD k 0)) = true) : rst K (c.take (k + 1)) = rst K (c.take k) := by
  have e : c.take (k + 1) = c.take k ++ [c.getD k 0] := by
    rw [List.take_succ_eq_append_getElem h]; simp [List.getD, h]
  unfold rst
  rw [e, List.filter_append]; simp only [List.filter_cons, hy]; simp
/-- A new list that may be appended to. -/
def GrownI (Z : List Int) (w : World) (e : Ending) (w' : World) : Prop := ∃ v, e = .returned v ∧ Grows (Value.int .i64) 2 w.heap.size v Z w' ∧ Below w.heap.size w w'
set_option maxHeartbeats 2000000 in
theorem restOf_any (v u : Value) (c K : List Int) (w : World) (hv : IL w v c) (hu : IL w u K) (hc : c.length ≤ 64) (hK : K.length ≤ 1048576) (hr : ∀ i, i < c.length → -1000 ≤ c.getD i 0 ∧ c.getD i 0 ≤ 1000) :
    Calls Try.prog 73 #[v, u] w (GrownI (rst K c) w) := by
  obtain ⟨i0, hi, hz0, hz1, hz2⟩ := info_parts Try.infoI
  have HU : Hid (∀ W, Below w.heap.size w W → IL W u K) := Lib.hid fun W h => hu.below h (Nat.le_refl _)
  have HR := Lib.hid hr
  obtain ⟨ku, kc, rfl⟩ := hu.long
  have HC : Hid (∀ W, Below w.heap.size w W → ∀ k, k < c.length → ∃ b off cap, v = .slice (some ⟨b, off, none⟩) c.length (c.length + cap) ∧ W.cell? ⟨b, off + k, none⟩ = some (.int .i64 (c.getD k 0))) := Lib.hid fun W h k hk => by
    rcases hv with ⟨hz, -⟩ | ⟨b, off, cap, e, hpos, hbl, hcell⟩
    · rw [hz] at hk; simp at hk
    · exact ⟨b, off, cap, e, by rw [h.cell (p := ⟨b, off + k, none⟩) hbl]; exact hcell k hk⟩
  obtain ⟨ao, cp, e0⟩ := hv.long
  subst e0
  clear hv hu hr
  go_enter Try.func73, Try.ntmps73
  go_wp2_with fail
  go_loopg [5, 10] c.length (fun gk s i wr => ∃ k : Nat, k ≤ c.length ∧ gk + k = c.length ∧ i = .int .i64 k ∧ Grows (Value.int .i64) 2 w.heap.size s (rst K (c.take k)) wr ∧ Below w.heap.size w wr)
  case atStart => exact ⟨0, Nat.zero_le _, by omega, rfl, Grows.nil _ _ _ _, Below.refl _ _⟩
  case round =>
    obtain ⟨k, hk, hgk, rfl, hG, hB⟩ := hrel
    have HG := Lib.hid hG
    have HB := Lib.hid hB
    clear hG hB
    by_cases hlt : k < c.length
    · obtain ⟨b, off, cap, e, cx⟩ := HC.out _ HB.out k hlt
      injection e with e1 _ e3
      subst e1
      obtain ⟨x1, x2⟩ := HR.out k hlt
      have RY := Lib.hid (@rst_yes K c k hlt)
      have RN := Lib.hid (@rst_no K c k hlt)
      have hl := rst_len K (c.take k)
      have htl : (c.take k).length = k := by simp; omega
      rw [htl] at hl
      generalize rst K (c.take k) = T at HG RY RN hl
      generalize c.getD k 0 = x at cx x1 x2 RY RN
      have wx : IntKind.i64.wrap (-x) = -x := IntWalk.i64_in _ (by omega)
      have HI := Lib.hid (HU.out _ HB.out)
      clear e3 htl
      cases hs : inS K (-x) with
      | true =>
        have HS := Lib.hid hs
        have HN := Lib.hid (RN.out hs)
        clear hs RY RN
        go_wp2_with fail
        go_at_call 71; refine (contains_any _ K (-x) _ HI.out hK).mono ?_; rintro e w4 ⟨rfl, rfl⟩
        rw [HS.out]
        go_wp2_with fail
        go_roundg (gk - 1)
        case measure => omega
        case rel => exact ⟨k + 1, by omega, by omega, by go_num, by rw [HN.out]; exact HG.out, HB.out⟩
      | false =>
        have HS := Lib.hid hs
        have HN := Lib.hid (RY.out hs)
        clear hs RY RN
        go_wp2_with fail
        go_at_call 71; refine (contains_any _ K (-x) _ HI.out hK).mono ?_; rintro e w4 ⟨rfl, rfl⟩
        rw [HS.out]
        go_wp2_with (at_builtin; (refine wpList_append_own _ rfl _ _ 25 rfl w.heap.size 2 i0 (.int .i64 0) 1 8 Try.underlying25 hi hz0 hz1 hz2 rfl (by decide) _ _ _ rfl (Grows.alloc HG.out _) ⟨wr.heap.size, 0, none⟩ 1 1 [.int .i64 x] rfl rfl one_new (by intro u hu; simp at hu; subst hu; rfl) (by unfold maxLen; omega) (by omega) (by have := HB.out.size; simp; omega) ?_); intro v' w8 hown hgrow _; (have G8 : Hid (Grows (Value.int .i64) 2 w.heap.size v' (T ++ [x]) w8) := Lib.hid (Grows.more rfl hown)); (have B8 : Hid (Below w.heap.size w w8) := Lib.hid ((HB.out.alloc HB.out.size _).grown hgrow (by have := HB.out.size; simp; omega) (fun q hq => (World.ownsRow.lt HG.out q hq).1))); clear hown hgrow)
        go_roundg (gk - 1)
        case measure => omega
        case rel => exact ⟨k + 1, by omega, by omega, by go_num, by rw [HN.out]; exact G8.out, B8.out⟩
    · obtain rfl : k = c.length := by omega
      have HG2 : Hid (Grows (Value.int .i64) 2 w.heap.size u5 (rst K c) wr) := Lib.hid (by have h := HG.out; rwa [List.take_length] at h)
      go_wp2_with fail
      refine bodyPost_ret (results_tmp rfl _ _ _) rfl ?_
      exact ⟨_, rfl, HG2.out, HB.out⟩
end Go.Proofs.Ytnakpfbeeekmiaa
