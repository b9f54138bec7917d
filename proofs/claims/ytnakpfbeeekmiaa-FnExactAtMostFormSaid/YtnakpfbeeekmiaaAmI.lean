/- The form of at most some letters: the program. -/
import Derived.Test.YtnakpfbeeekmiaaAm0
import Derived.Test.YtnakpfbeeekmiaaTi
import Derived.Test.YtnakpfbeeekmiaaFo
import Derived.Test.YtnakpfbeeekmiaaCnt48
import Derived.Test.YtnakpfbeeekmiaaGrw
import Derived.Test.YtnakpfbeeekmiaaRst
import Derived.Deep.RegionLawGrows
import Derived.Deep.AppendLies
import Derived.Laws.ShiftsVar
namespace Go.Proofs.Ytnakpfbeeekmiaa
open Go.RowKit Go.ChangeShapes Go.WideShapes

attribute [local irreducible] popN
theorem Try.infoLA : (Try.prog.info? 25).map (fun i => (i.zero, i.size, i.bytes)) = some (some (.slice none 0 0), 1, 24) := by kernel_rfl
theorem setOfAll10 (L : Nat) (w : World) (h2 : L ≤ 10) :
    Calls Try.prog 81 #[.int .i64 (L : Int)] w (fun e w' => e = .returned (.int .i64 ((2 ^ L - 1 : Nat) : Int)) ∧ w = w') := by
  obtain ⟨p1, p2⟩ := pow10 h2
  have q1 : (1 : Int) ≤ 2 ^ L := by rw [← pow_cast]; omega
  have q2 : (2 : Int) ^ L ≤ 1024 := by rw [← pow_cast]; omega
  have HE : Hid ((2 : Int) ^ L - 1 = ((2 ^ L - 1 : Nat) : Int)) := Lib.hid (by rw [← pow_cast]; omega)
  clear p1 p2
  go_enter Try.func81, Try.ntmps81
  go_wp2
  go_ret
  exact ⟨ret_int HE.out, rfl⟩
theorem opp_up {T : List Int} {k : Nat} (h : k < T.length) : opp (T.take (k + 1)) = opp (T.take k) ++ [-(T.getD k 0)] := by
  have e : T.take (k + 1) = T.take k ++ [T.getD k 0] := by
    rw [List.take_succ_eq_append_getElem h]; simp [List.getD, h]
  unfold opp
  rw [e, List.map_append]; rfl
set_option maxHeartbeats 1000000 in
theorem oppositesOf_any (v : Value) (c : List Int) (w : World) (hv : IL w v c) (hc : c.length ≤ 64) (hr : ∀ i, i < c.length → -1000 ≤ c.getD i 0 ∧ c.getD i 0 ≤ 1000) :
    Calls Try.prog 59 #[v] w (GrownI (opp c) w) := by
  obtain ⟨i0, hi, hz0, hz1, hz2⟩ := info_parts Try.infoI
  have HR := Lib.hid hr
  have HC : Hid (∀ W, Below w.heap.size w W → ∀ k, k < c.length → ∃ b off cap, v = .slice (some ⟨b, off, none⟩) c.length (c.length + cap) ∧ W.cell? ⟨b, off + k, none⟩ = some (.int .i64 (c.getD k 0))) := Lib.hid fun W h k hk => by
    rcases hv with ⟨hz, -⟩ | ⟨b, off, cap, e, hpos, hbl, hcell⟩
    · rw [hz] at hk; simp at hk
    · exact ⟨b, off, cap, e, by rw [h.cell (p := ⟨b, off + k, none⟩) hbl]; exact hcell k hk⟩
  obtain ⟨ao, cp, e0⟩ := hv.long
  subst e0
  clear hv hr
  go_enter Try.func59, Try.ntmps59
  go_wp2_with fail
  go_loopg [3, 8] c.length (fun gk s i wr => ∃ k : Nat, k ≤ c.length ∧ gk + k = c.length ∧ i = .int .i64 k ∧ Grows (Value.int .i64) 2 w.heap.size s (opp (c.take k)) wr ∧ Below w.heap.size w wr)
  case atStart => exact ⟨0, Nat.zero_le _, by omega, rfl, Grows.nil _ _ _ _, Below.refl _ _⟩
  case round =>
    obtain ⟨k, hk, hgk, rfl, hG, hB⟩ := hrel
    have HG := Lib.hid hG
    have HB := Lib.hid hB
    clear hG hB
    by_cases hlt : k < c.length
    · obtain ⟨b, off, cap, e, cx⟩ := HC.out _ HB.out k hlt
      injection e with e1 _ e3
      subst e1
      obtain ⟨x1, x2⟩ := HR.out k hlt
      have HN := Lib.hid (opp_up hlt)
      have hl : (opp (c.take k)).length = (c.take k).length := opp_len _
      have htl : (c.take k).length = k := by simp; omega
      rw [htl] at hl
      have hl2 : (opp (c.take k)).length ≤ 64 := by omega
      generalize opp (c.take k) = T at HG HN hl2
      generalize c.getD k 0 = x at cx x1 x2 HN
      have wx : IntKind.i64.wrap (-x) = -x := IntWalk.i64_in _ (by omega)
      clear e3 htl hl
      go_wp2_with (at_builtin; (refine wpList_append_own _ rfl _ _ 25 rfl w.heap.size 2 i0 (.int .i64 0) 1 8 Try.underlying25 hi hz0 hz1 hz2 rfl (by decide) _ _ _ rfl (Grows.alloc HG.out _) ⟨wr.heap.size, 0, none⟩ 1 1 [.int .i64 (-x)] rfl rfl one_new (by intro u hu; simp at hu; subst hu; rfl) (by unfold maxLen; omega) (by omega) (by have := HB.out.size; simp; omega) ?_); intro v' w8 hown hgrow _; (have G8 : Hid (Grows (Value.int .i64) 2 w.heap.size v' (T ++ [-x]) w8) := Lib.hid (Grows.more rfl hown)); (have B8 : Hid (Below w.heap.size w w8) := Lib.hid ((HB.out.alloc HB.out.size _).grown hgrow (by have := HB.out.size; simp; omega) (fun q hq => (World.ownsRow.lt HG.out q hq).1))); clear hown hgrow)
      go_roundg (gk - 1)
      case measure => omega
      case rel => exact ⟨k + 1, by omega, by omega, by go_num, by rw [HN.out]; exact G8.out, B8.out⟩
    · obtain rfl : k = c.length := by omega
      have HG2 : Hid (Grows (Value.int .i64) 2 w.heap.size u3 (opp c) wr) := Lib.hid (by have h := HG.out; rwa [List.take_length] at h)
      go_wp2_with fail
      refine bodyPost_ret (results_tmp rfl _ _ _) rfl ?_
      exact ⟨_, rfl, HG2.out, HB.out⟩
theorem true_rng {L m : Nat} (hL : L ≤ 10) : ∀ i, i < (trueK L m L).length → 1 ≤ (trueK L m L).getD i 0 ∧ (trueK L m L).getD i 0 ≤ 10 := fun i hi => by
  rw [show (trueK L m L).getD i 0 = (trueK L m L)[i] by simp [List.getD, hi]]
  obtain ⟨j, h1, -, h3⟩ := trueK_mem.1 (List.getElem_mem hi)
  rw [h3]; omega
end Go.Proofs.Ytnakpfbeeekmiaa
