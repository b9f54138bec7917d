/- What IsProof needs: Cnt2 Cnt48 AmI LiI ConI ConZ ConL LsG Frame. -/
import Derived.Test.YtnakpfbeeekmiaaIsProofA
import Derived.Test.YtnakpfbeeekmiaaIsProofB
import Derived.IntWalk
import Derived.Laws.BitsAll
import Derived.Laws.ShiftsVar
import Derived.Test.YtnakpfbeeekmiaaIsProofC
import Derived.Deep.RegionLawGrows
import Derived.Deep.AppendLies
import Derived.WalkSpells
import Derived.Lib.AppendZeros
import Derived.Deep.LoopGhost
import Derived.Laws.OwnMore
import Derived.Tactics
import Derived.ProofKit
import Derived.SizedLaws
import Derived.WalkSmall
/- How many numbers a set holds: the program's side. -/
namespace Go.Proofs.Ytnakpfbeeekmiaa
open Go.RowKit Go.ChangeShapes Go.WideShapes

theorem popN_le : ∀ k x, popN k x ≤ k
  | 0, _ => Nat.le_refl _
  | k + 1, x => by have := popN_le k (x / 2); unfold popN; omega
theorem pop_le (x : Nat) : pop x ≤ 16 := popN_le 16 x
theorem u64_small (n : Int) (h0 : 0 ≤ n) (h1 : n < 18446744073709551616) : IntKind.u64.wrap n = n := by rw [IntKind.wrap_u64]; omega
set_option maxRecDepth 100000 in
theorem onesCount_any (x : Nat) (w : World) (h : x < 65536) :
    Calls Try.prog 109 #[.int .u64 x] w (fun e w' => e = .returned (.int .i64 (pop x)) ∧ w = w') := by
  obtain ⟨k0, k1, k2, k3⟩ := ones_ok h
  have kp := pop_le x
  obtain ⟨b1, hb1⟩ : ∃ b, b = (x / 2) &&& 6148914691236517205 := ⟨_, rfl⟩
  obtain ⟨b2, hb2⟩ : ∃ b, b = x &&& 6148914691236517205 := ⟨_, rfl⟩
  obtain ⟨a1, ha1⟩ : ∃ a, a = ones1 x := ⟨_, rfl⟩
  have e1 : a1 = b1 + b2 := by rw [ha1, hb1, hb2]; unfold ones1; rw [Nat.shiftRight_eq_div_pow]
  obtain ⟨c1, hc1⟩ : ∃ b, b = (a1 / 4) &&& 3689348814741910323 := ⟨_, rfl⟩
  obtain ⟨c2, hc2⟩ : ∃ b, b = a1 &&& 3689348814741910323 := ⟨_, rfl⟩
  obtain ⟨a2, ha2⟩ : ∃ a, a = ones2 a1 := ⟨_, rfl⟩
  have e2 : a2 = c1 + c2 := by rw [ha2, hc1, hc2]; unfold ones2; rw [Nat.shiftRight_eq_div_pow]
  obtain ⟨a3, ha3⟩ : ∃ a, a = ones3 a2 := ⟨_, rfl⟩
  have e3 : a3 = (a2 / 16 + a2) &&& 1085102592571150095 := by rw [ha3]; unfold ones3; rw [Nat.shiftRight_eq_div_pow]
  obtain ⟨a4, ha4⟩ : ∃ a, a = ones4 a3 := ⟨_, rfl⟩
  have e4 : a4 = a3 + a3 / 256 := by rw [ha4]; unfold ones4; rw [Nat.shiftRight_eq_div_pow]
  obtain ⟨a5, ha5⟩ : ∃ a, a = ones5 a4 := ⟨_, rfl⟩
  have e5 : a5 = a4 + a4 / 65536 := by rw [ha5]; unfold ones5; rw [Nat.shiftRight_eq_div_pow]
  obtain ⟨a6, ha6⟩ : ∃ a, a = ones6 a5 := ⟨_, rfl⟩
  have e6 : a6 = a5 + a5 / 4294967296 := by rw [ha6]; unfold ones6; rw [Nat.shiftRight_eq_div_pow]
  have hk : a6 &&& 127 = pop x := by rw [ha6, ha5, ha4, ha3, ha2, ha1]; exact k0
  rw [← ha1] at k1
  rw [← ha1, ← ha2] at k2
  rw [← ha1, ← ha2, ← ha3] at k3
  have f1 : bits .and .u64 ((x : Int) / 2) 6148914691236517205 = (b1 : Int) := by
    have := u64_and_nat (x / 2) 6148914691236517205 (by omega) (by omega)
    rw [← hb1] at this
    simpa using this
  have f2 : bits .and .u64 (x : Int) 6148914691236517205 = (b2 : Int) := by
    have := u64_and_nat x 6148914691236517205 (by omega) (by omega)
    rw [← hb2] at this
    simpa using this
  have f3 : IntKind.u64.wrap ((b1 : Int) + (b2 : Int)) = (a1 : Int) := by rw [u64_small _ (by omega) (by omega)]; omega
  have f4 : bits .and .u64 ((a1 : Int) / 4) 3689348814741910323 = (c1 : Int) := by
    have := u64_and_nat (a1 / 4) 3689348814741910323 (by omega) (by omega)
    rw [← hc1] at this
    simpa using this
  have f5 : bits .and .u64 (a1 : Int) 3689348814741910323 = (c2 : Int) := by
    have := u64_and_nat a1 3689348814741910323 (by omega) (by omega)
    rw [← hc2] at this
    simpa using this
  have f6 : IntKind.u64.wrap ((c1 : Int) + (c2 : Int)) = (a2 : Int) := by rw [u64_small _ (by omega) (by omega)]; omega
  obtain ⟨d, hd⟩ : ∃ d, d = a2 / 16 + a2 := ⟨_, rfl⟩
  have f7 : IntKind.u64.wrap ((a2 : Int) / 16 + (a2 : Int)) = (d : Int) := by rw [u64_small _ (by omega) (by omega)]; omega
  have f8 : bits .and .u64 (d : Int) 1085102592571150095 = (a3 : Int) := by
    have := u64_and_nat d 1085102592571150095 (by omega) (by omega)
    rw [hd, ← e3, ← hd] at this
    simpa using this
  have f9 : IntKind.u64.wrap ((a3 : Int) + (a3 : Int) / 256) = (a4 : Int) := by rw [u64_small _ (by omega) (by omega)]; omega
  have f10 : IntKind.u64.wrap ((a4 : Int) + (a4 : Int) / 65536) = (a5 : Int) := by rw [u64_small _ (by omega) (by omega)]; omega
  have f11 : IntKind.u64.wrap ((a5 : Int) + (a5 : Int) / 4294967296) = (a6 : Int) := by rw [u64_small _ (by omega) (by omega)]; omega
  have b6 : a6 < 65536 * 4 := by omega
  have f12 : IntKind.i64.wrap (a6 : Int) = (a6 : Int) := IntWalk.i64_in _ (by omega)
  have f13 : bits .and .i64 (a6 : Int) 127 = (pop x : Int) := by
    show IntKind.i64.wrap ((BitVec.ofInt 64 (a6 : Int) &&& BitVec.ofInt 64 ((127 : Nat) : Int)).toNat : Int) = _
    rw [BitVec.toNat_and, ofInt_u64 a6 (by omega), ofInt_u64 127 (by omega), hk]
    exact IntWalk.i64_in _ (by omega)
  generalize pop x = p at f13 kp
  clear k0 k1 k2 k3 hb1 hb2 ha1 e1 hc1 hc2 ha2 e2 ha3 e3 ha4 e4 ha5 e5 ha6 e6 hk hd h
  go_enter Try.func109, Try.ntmps109
  go_wp2_with fail
  go_ret
  exact ⟨rfl, rfl⟩
theorem countIn_any (x : Nat) (w : World) (h : x < 65536) :
    Calls Try.prog 82 #[.int .i64 x] w (fun e w' => e = .returned (.int .i64 (pop x)) ∧ w = w') := by
  go_enter Try.func82, Try.ntmps82
  go_wp2_with fail
  go_at_call 109; refine (onesCount_any x _ h).mono ?_; rintro e w' ⟨rfl, rfl⟩
  go_wp2_with fail
  go_ret
  exact ⟨rfl, rfl⟩
end Go.Proofs.Ytnakpfbeeekmiaa
/- How many clauses a set of up to 48 holds: the program's side. -/
namespace Go.Proofs.Ytnakpfbeeekmiaa
open Go.RowKit Go.ChangeShapes Go.WideShapes

set_option maxRecDepth 100000 in
theorem onesCount48 (x : Nat) (w : World) (h : x < 281474976710656) :
    Calls Try.prog 109 #[.int .u64 x] w (fun e w' => e = .returned (.int .i64 (popN 48 x)) ∧ w = w') := by
  obtain ⟨k0, k1, k2, k3⟩ := ones48 h
  have kp := popN_leN 48 x
  obtain ⟨b1, hb1⟩ : ∃ b, b = (x / 2) &&& 6148914691236517205 := ⟨_, rfl⟩
  obtain ⟨b2, hb2⟩ : ∃ b, b = x &&& 6148914691236517205 := ⟨_, rfl⟩
  obtain ⟨a1, ha1⟩ : ∃ a, a = ones1 x := ⟨_, rfl⟩
  have e1 : a1 = b1 + b2 := by rw [ha1, hb1, hb2]; unfold ones1; rw [Nat.shiftRight_eq_div_pow]
  obtain ⟨c1, hc1⟩ : ∃ b, b = (a1 / 4) &&& 3689348814741910323 := ⟨_, rfl⟩
  obtain ⟨c2, hc2⟩ : ∃ b, b = a1 &&& 3689348814741910323 := ⟨_, rfl⟩
  obtain ⟨a2, ha2⟩ : ∃ a, a = ones2 a1 := ⟨_, rfl⟩
  have e2 : a2 = c1 + c2 := by rw [ha2, hc1, hc2]; unfold ones2; rw [Nat.shiftRight_eq_div_pow]
  obtain ⟨a3, ha3⟩ : ∃ a, a = ones3 a2 := ⟨_, rfl⟩
  have e3 : a3 = (a2 / 16 + a2) &&& 1085102592571150095 := by rw [ha3]; unfold ones3; rw [Nat.shiftRight_eq_div_pow]
  obtain ⟨a4, ha4⟩ : ∃ a, a = ones4 a3 := ⟨_, rfl⟩
  have e4 : a4 = a3 + a3 / 256 := by rw [ha4]; unfold ones4; rw [Nat.shiftRight_eq_div_pow]
  obtain ⟨a5, ha5⟩ : ∃ a, a = ones5 a4 := ⟨_, rfl⟩
  have e5 : a5 = a4 + a4 / 65536 := by rw [ha5]; unfold ones5; rw [Nat.shiftRight_eq_div_pow]
  obtain ⟨a6, ha6⟩ : ∃ a, a = ones6 a5 := ⟨_, rfl⟩
  have e6 : a6 = a5 + a5 / 4294967296 := by rw [ha6]; unfold ones6; rw [Nat.shiftRight_eq_div_pow]
  have hk : a6 &&& 127 = popN 48 x := by rw [ha6, ha5, ha4, ha3, ha2, ha1]; exact k0
  rw [← ha1] at k1
  rw [← ha1, ← ha2] at k2
  rw [← ha1, ← ha2, ← ha3] at k3
  have f1 : bits .and .u64 ((x : Int) / 2) 6148914691236517205 = (b1 : Int) := by
    have := u64_and_nat (x / 2) 6148914691236517205 (by omega) (by omega)
    rw [← hb1] at this
    simpa using this
  have f2 : bits .and .u64 (x : Int) 6148914691236517205 = (b2 : Int) := by
    have := u64_and_nat x 6148914691236517205 (by omega) (by omega)
    rw [← hb2] at this
    simpa using this
  have f3 : IntKind.u64.wrap ((b1 : Int) + (b2 : Int)) = (a1 : Int) := by rw [u64_small _ (by omega) (by omega)]; omega
  have f4 : bits .and .u64 ((a1 : Int) / 4) 3689348814741910323 = (c1 : Int) := by
    have := u64_and_nat (a1 / 4) 3689348814741910323 (by omega) (by omega)
    rw [← hc1] at this
    simpa using this
  have f5 : bits .and .u64 (a1 : Int) 3689348814741910323 = (c2 : Int) := by
    have := u64_and_nat a1 3689348814741910323 (by omega) (by omega)
    rw [← hc2] at this
    simpa using this
  have f6 : IntKind.u64.wrap ((c1 : Int) + (c2 : Int)) = (a2 : Int) := by rw [u64_small _ (by omega) (by omega)]; omega
  obtain ⟨d, hd⟩ : ∃ d, d = a2 / 16 + a2 := ⟨_, rfl⟩
  have f7 : IntKind.u64.wrap ((a2 : Int) / 16 + (a2 : Int)) = (d : Int) := by rw [u64_small _ (by omega) (by omega)]; omega
  have f8 : bits .and .u64 (d : Int) 1085102592571150095 = (a3 : Int) := by
    have := u64_and_nat d 1085102592571150095 (by omega) (by omega)
    rw [hd, ← e3, ← hd] at this
    simpa using this
  have f9 : IntKind.u64.wrap ((a3 : Int) + (a3 : Int) / 256) = (a4 : Int) := by rw [u64_small _ (by omega) (by omega)]; omega
  have f10 : IntKind.u64.wrap ((a4 : Int) + (a4 : Int) / 65536) = (a5 : Int) := by rw [u64_small _ (by omega) (by omega)]; omega
  have f11 : IntKind.u64.wrap ((a5 : Int) + (a5 : Int) / 4294967296) = (a6 : Int) := by rw [u64_small _ (by omega) (by omega)]; omega
  have b6 : a6 < 1125899906842624 := by omega
  have f12 : IntKind.i64.wrap (a6 : Int) = (a6 : Int) := IntWalk.i64_in _ (by omega)
  have f13 : bits .and .i64 (a6 : Int) 127 = (popN 48 x : Int) := by
    show IntKind.i64.wrap ((BitVec.ofInt 64 (a6 : Int) &&& BitVec.ofInt 64 ((127 : Nat) : Int)).toNat : Int) = _
    rw [BitVec.toNat_and, ofInt_u64 a6 (by omega), ofInt_u64 127 (by omega), hk]
    exact IntWalk.i64_in _ (by omega)
  generalize popN 48 x = p at f13 kp
  clear k0 k1 k2 k3 hb1 hb2 ha1 e1 hc1 hc2 ha2 e2 ha3 e3 ha4 e4 ha5 e5 ha6 e6 hk hd h
  go_enter Try.func109, Try.ntmps109
  go_wp2_with fail
  go_ret
  exact ⟨rfl, rfl⟩
theorem countIn48 (x : Nat) (w : World) (h : x < 281474976710656) :
    Calls Try.prog 82 #[.int .i64 x] w (fun e w' => e = .returned (.int .i64 (popN 48 x)) ∧ w = w') := by
  go_enter Try.func82, Try.ntmps82
  go_wp2_with fail
  go_at_call 109; refine (onesCount48 x _ h).mono ?_; rintro e w' ⟨rfl, rfl⟩
  go_wp2_with fail
  go_ret
  exact ⟨rfl, rfl⟩
end Go.Proofs.Ytnakpfbeeekmiaa
/- The form of at most some letters: the program. -/
namespace Go.Proofs.Ytnakpfbeeekmiaa
open Go.RowKit Go.ChangeShapes Go.WideShapes

attribute [local irreducible] popN
theorem Try.infoLA : (Try.prog.info? 25).map (fun i => (i.zero, i.size, i.bytes)) = some (some (.slice none 0 0), 1, 24) := by kernel_rfl
theorem setOfAll10 (L : Nat) (w : World) (h2 : L ≤ 10) :
    Calls Try.prog 81 #[.int .i64 (L : Int)] w (fun e w' => e = .returned (.int .i64 ((2 ^ L - 1 : Nat) : Int)) ∧ w = w') := by
  obtain ⟨p1, p2⟩ := pow10 h2
  have q1 : (1 : Int) ≤ 2 ^ L := by rw [← pow_cast]; omega
  have q2 : (2 : Int) ^ L ≤ 1024 := by rw [← pow_cast]; omega
  have HE : Hid ((2 : Int) ^ L - 1 = ((2 ^ L - 1 : Nat) : Int)) := Lib.hid (by rw [← pow_cast]; omega)
  clear p1 p2
  go_enter Try.func81, Try.ntmps81
  go_wp2
  go_ret
  exact ⟨ret_int HE.out, rfl⟩
theorem opp_up {T : List Int} {k : Nat} (h : k < T.length) : opp (T.take (k + 1)) = opp (T.take k) ++ [-(T.getD k 0)] := by
  have e : T.take (k + 1) = T.take k ++ [T.getD k 0] := by
    rw [List.take_succ_eq_append_getElem h]; simp [List.getD, h]
  unfold opp
  rw [e, List.map_append]; rfl
set_option maxHeartbeats 1000000 in
theorem oppositesOf_any (v : Value) (c : List Int) (w : World) (hv : IL w v c) (hc : c.length ≤ 64) (hr : ∀ i, i < c.length → -1000 ≤ c.getD i 0 ∧ c.getD i 0 ≤ 1000) :
    Calls Try.prog 59 #[v] w (GrownI (opp c) w) := by
  obtain ⟨i0, hi, hz0, hz1, hz2⟩ := info_parts Try.infoI
  have HR := Lib.hid hr
  have HC : Hid (∀ W, Below w.heap.size w W → ∀ k, k < c.length → ∃ b off cap, v = .slice (some ⟨b, off, none⟩) c.length (c.length + cap) ∧ W.cell? ⟨b, off + k, none⟩ = some (.int .i64 (c.getD k 0))) := Lib.hid fun W h k hk => by
    rcases hv with ⟨hz, -⟩ | ⟨b, off, cap, e, hpos, hbl, hcell⟩
    · rw [hz] at hk; simp at hk
    · exact ⟨b, off, cap, e, by rw [h.cell (p := ⟨b, off + k, none⟩) hbl]; exact hcell k hk⟩
  obtain ⟨ao, cp, e0⟩ := hv.long
  subst e0
  clear hv hr
  go_enter Try.func59, Try.ntmps59
  go_wp2_with fail
  go_loopg [3, 8] c.length (fun gk s i wr => ∃ k : Nat, k ≤ c.length ∧ gk + k = c.length ∧ i = .int .i64 k ∧ Grows (Value.int .i64) 2 w.heap.size s (opp (c.take k)) wr ∧ Below w.heap.size w wr)
  case atStart => exact ⟨0, Nat.zero_le _, by omega, rfl, Grows.nil _ _ _ _, Below.refl _ _⟩
  case round =>
    obtain ⟨k, hk, hgk, rfl, hG, hB⟩ := hrel
    have HG := Lib.hid hG
    have HB := Lib.hid hB
    clear hG hB
    by_cases hlt : k < c.length
    · obtain ⟨b, off, cap, e, cx⟩ := HC.out _ HB.out k hlt
      injection e with e1 _ e3
      subst e1
      obtain ⟨x1, x2⟩ := HR.out k hlt
      have HN := Lib.hid (opp_up hlt)
      have hl : (opp (c.take k)).length = (c.take k).length := opp_len _
      have htl : (c.take k).length = k := by simp; omega
      rw [htl] at hl
      have hl2 : (opp (c.take k)).length ≤ 64 := by omega
      generalize opp (c.take k) = T at HG HN hl2
      generalize c.getD k 0 = x at cx x1 x2 HN
      have wx : IntKind.i64.wrap (-x) = -x := IntWalk.i64_in _ (by omega)
      clear e3 htl hl
      go_wp2_with (at_builtin; (refine wpList_append_own _ rfl _ _ 25 rfl w.heap.size 2 i0 (.int .i64 0) 1 8 Try.underlying25 hi hz0 hz1 hz2 rfl (by decide) _ _ _ rfl (Grows.alloc HG.out _) ⟨wr.heap.size, 0, none⟩ 1 1 [.int .i64 (-x)] rfl rfl one_new (by intro u hu; simp at hu; subst hu; rfl) (by unfold maxLen; omega) (by omega) (by have := HB.out.size; simp; omega) ?_); intro v' w8 hown hgrow _; (have G8 : Hid (Grows (Value.int .i64) 2 w.heap.size v' (T ++ [-x]) w8) := Lib.hid (Grows.more rfl hown)); (have B8 : Hid (Below w.heap.size w w8) := Lib.hid ((HB.out.alloc HB.out.size _).grown hgrow (by have := HB.out.size; simp; omega) (fun q hq => (World.ownsRow.lt HG.out q hq).1))); clear hown hgrow)
      go_roundg (gk - 1)
      case measure => omega
      case rel => exact ⟨k + 1, by omega, by omega, by go_num, by rw [HN.out]; exact G8.out, B8.out⟩
    · obtain rfl : k = c.length := by omega
      have HG2 : Hid (Grows (Value.int .i64) 2 w.heap.size u3 (opp c) wr) := Lib.hid (by have h := HG.out; rwa [List.take_length] at h)
      go_wp2_with fail
      refine bodyPost_ret (results_tmp rfl _ _ _) rfl ?_
      exact ⟨_, rfl, HG2.out, HB.out⟩
theorem true_rng {L m : Nat} (hL : L ≤ 10) : ∀ i, i < (trueK L m L).length → 1 ≤ (trueK L m L).getD i 0 ∧ (trueK L m L).getD i 0 ≤ 10 := fun i hi => by
  rw [show (trueK L m L).getD i 0 = (trueK L m L)[i] by simp [List.getD, hi]]
  obtain ⟨j, h1, -, h3⟩ := trueK_mem.1 (List.getElem_mem hi)
  rw [h3]; omega
end Go.Proofs.Ytnakpfbeeekmiaa
/- Where lists of integers lie. -/
namespace Go.Proofs.Ytnakpfbeeekmiaa
open Go.RowKit Go.ChangeShapes Go.WideShapes

/-- Where a list of numbers lies, also an empty one, but nil. -/
def LiesI (w : World) (ad : Addr) (Z : List Int) : Prop := ∀ (o : Obj) j u, (Z.map (Value.int .i64))[j]? = some u → (w.alloc o).cell? (ad.add j) = some u
theorem IL.lies {w : World} {v : Value} {Z : List Int} (h : IL w v Z) : (Z = [] ∧ ∃ cap, v = .slice none 0 cap) ∨ ∃ ad cap, v = .slice (some ad) Z.length cap ∧ LiesI w ad Z := by
  rcases h with ⟨rfl, ao, cap, rfl⟩ | ⟨b, off, cap, rfl, hpos, hbl, hcell⟩
  · cases ao with
    | none => exact Or.inl ⟨rfl, cap, rfl⟩
    | some ad => exact Or.inr ⟨ad, cap, rfl, fun o j u hu => by simp at hu⟩
  · refine Or.inr ⟨_, _, rfl, fun o j u hu => ?_⟩
    have hj : j < Z.length := by
      have := (List.getElem?_eq_some_iff.1 hu).1
      simpa using this
    rw [Go.WideShapes.add_plain, (below_alloc w o).cell (p := ⟨b, off + j, none⟩) hbl, hcell j hj]
    rw [← hu]
    simp [List.getD, hj]
theorem map_oneI (Z : List Int) : ∀ u ∈ Z.map (Value.int .i64), u.oneCell' = true := by
  intro u hu
  obtain ⟨x, -, rfl⟩ := List.mem_map.1 hu
  rfl
end Go.Proofs.Ytnakpfbeeekmiaa
/- Lists of integers that are made room for, and joined. -/
namespace Go.Proofs.Ytnakpfbeeekmiaa
open Go.RowKit Go.ChangeShapes Go.WideShapes

theorem grown_own (w : World) (n B : Nat) (h0 : n ≤ 1048576) (hB : B ≤ w.heap.size) : Grows (Value.int .i64) 2 B (.slice (some ⟨w.heap.size, 0, none⟩) 0 (grownCap w n 0 2)) [] (w.drew.alloc (.cells (Builtin.zeroCells (Value.int .i64 0).cells n ++ Builtin.zeroCells (Value.int .i64 0).cells (grownCap w n 0 2 - n)) 2)) := by
  have hge := grownCap_ge w n 0 2
  have hcm : grownCap w n 0 2 ≤ maxLen := grownCap_le_maxLen w n 0 2 (by unfold maxLen; omega)
  refine ⟨rfl, Or.inr ⟨w.heap.size, _, _, rfl, hB, heap_alloc_new w.drew _, Nat.zero_le _, hcm, ?_, rfl⟩⟩
  simp only [Array.size_append, size_zeroCells]
  have : (Value.int .i64 0).cells.size = 1 := rfl
  rw [this]
  omega
set_option maxHeartbeats 1000000 in
theorem growI_any (n : Nat) (w : World) (h0 : 0 < n) (hn : n ≤ 1048576) :
    Calls Try.prog 124 #[.slice none 0 0, .int .i64 n] w (fun e w' => ∃ g cap, e = .returned (.slice (some ⟨g, 0, none⟩) 0 cap) ∧ Grows (Value.int .i64) 2 w.heap.size (.slice (some ⟨g, 0, none⟩) 0 cap) [] w' ∧ Below w.heap.size w w') := by
  obtain ⟨i0, hi, hz0, hz1, hz2⟩ := info_parts Try.infoI
  have hr := fun (W : World) (ty : TypeId) => Lib.run_append_nil_zeros (P := Try.prog) W 25 3 ty 2 i0 (.int .i64 0) .i64 .i64 Try.underlying25 Try.underlying3 hi hz0 n h0 (by omega) (by omega) (by rw [hz2]; omega)
  have hw1 : IntKind.i64.wrap (n : Int) = n := by rw [IntKind.wrap_i64]; omega
  have hpos : (0 : Int) < (n : Int) := by omega
  have hng : ¬ ((n : Int) < 0) := by omega
  have HG := Lib.hid (grown_own w n w.heap.size hn (Nat.le_refl _))
  go_enter Try.func124, Try.ntmps124
  go_wp2_with (at_builtin; refine Lib.wpList_append_run _ rfl _ _ _ _ rfl _ _ rfl rfl _ _ (hr _ _) ?_)
  go_wp2_with fail
  refine bodyPost_ret (results_tmp rfl _ _ _) rfl ?_
  exact ⟨_, _, rfl, HG.out, ((Below.refl _ _).drew).alloc (Nat.le_refl _) _⟩
/-- Where a list lies, in all worlds from here on. -/
def LiesC (w : World) (ad : Addr) (Z : List Int) : Prop := ∀ w', Below w.heap.size w w' → ∀ j u, (Z.map (Value.int .i64))[j]? = some u → w'.cell? (ad.add j) = some u
theorem IL.liesC {w : World} {v : Value} {Z : List Int} (h : IL w v Z) (h0 : 0 < Z.length) : ∃ ad cap, v = .slice (some ad) Z.length cap ∧ LiesC w ad Z := by
  rcases h with ⟨rfl, ao, cap, rfl⟩ | ⟨b, off, cap, rfl, hpos, hbl, hcell⟩
  · exact absurd h0 (by simp)
  · refine ⟨_, _, rfl, fun w' hb j u hu => ?_⟩
    have hj : j < Z.length := by
      have := (List.getElem?_eq_some_iff.1 hu).1
      simpa using this
    rw [Go.WideShapes.add_plain, hb.cell (p := ⟨b, off + j, none⟩) hbl, hcell j hj]
    rw [← hu]
    simp [List.getD, hj]
def partOf (Y Z : List Int) : Nat → List Int
  | 0 => []
  | 1 => Y
  | _ + 2 => Y ++ Z
def sizeAt (Y Z : List Int) : Nat → Nat
  | 0 => 0
  | 1 => Y.length
  | _ + 2 => Y.length + Z.length
theorem growI_is (m : Int) (n : Nat) (w : World) (hm : m = n) (h0 : 0 < n) (hn : n ≤ 1048576) :
    Calls Try.prog 124 #[.slice none 0 0, .int .i64 m] w (fun e w' => ∃ g cap, e = .returned (.slice (some ⟨g, 0, none⟩) 0 cap) ∧ Grows (Value.int .i64) 2 w.heap.size (.slice (some ⟨g, 0, none⟩) 0 cap) [] w' ∧ Below w.heap.size w w') := by
  subst hm
  exact growI_any n w h0 hn
set_option maxRecDepth 100000 in
set_option maxHeartbeats 4000000 in
theorem concatI_any (g : Nat) (ad1 ad2 : Addr) (cap1 cap2 : Nat) (Y Z : List Int) (w : World) (h : Box2 w g (.slice (some ad1) Y.length cap1) (.slice (some ad2) Z.length cap2)) (hY : LiesC w ad1 Y) (hZ : LiesC w ad2 Z) (nY : Y.length ≤ 524288) (nZ : Z.length ≤ 524288) (hp : 0 < Y.length + Z.length) :
    Calls Try.prog 102 #[.slice (some ⟨g, 0, none⟩) 2 2] w (Made (Value.int .i64) (0 : Int) (Y ++ Z) w) := by
  obtain ⟨i0, hi, hz0, hz1, hz2⟩ := info_parts Try.infoI
  have L1 := Lib.hid hY
  have L2 := Lib.hid hZ
  have HX := Lib.hid h
  have hg := cell_block h.c0
  clear h hY hZ
  go_enter Try.func102, Try.ntmps102
  go_wp2_with fail
  go_loopg [3, 11] 2 (fun gk sz i wr => ∃ k : Nat, k ≤ 2 ∧ gk + k = 2 ∧ i = .int .i64 k ∧ sz = .int .i64 (sizeAt Y Z k) ∧ w = wr)
  case atStart => exact ⟨0, by omega, by omega, rfl, rfl, rfl⟩
  case round =>
    obtain ⟨k, hk, hgk, rfl, rfl, rfl⟩ := hrel
    obtain ⟨c0, c1⟩ := HX.out
    match k, hk with
    | 0, _ =>
      have w1 : IntKind.i64.wrap (Y.length : Int) = (Y.length : Int) := by rw [IntKind.wrap_i64]; omega
      have w2 : ¬ ((Y.length : Int) < 0) := by omega
      simp only [sizeAt]
      go_wp2_with fail
      go_roundg (gk - 1)
      case measure => omega
      case rel => exact ⟨1, by omega, by omega, rfl, by simp [sizeAt], rfl⟩
    | 1, _ =>
      have w1 : IntKind.i64.wrap ((Y.length : Int) + Z.length) = (Y.length : Int) + Z.length := by rw [IntKind.wrap_i64]; omega
      have w2 : ¬ ((Y.length : Int) + Z.length < 0) := by omega
      simp only [sizeAt]
      go_wp2_with fail
      go_roundg (gk - 1)
      case measure => omega
      case rel => exact ⟨2, by omega, by omega, rfl, by simp [sizeAt], rfl⟩
    | 2, _ =>
      simp only [sizeAt]
      go_wp2_with fail
      go_at_call 124; refine (growI_is _ (Y.length + Z.length) _ (by simp) hp (by omega)).mono ?_; rintro e W ⟨g1, gc1, rfl, hG1, hB1⟩
      have HG1 := Lib.hid hG1
      have HB1 := Lib.hid hB1
      clear hG1 hB1
      go_wp2_with fail
      go_loopg [6, 27] 2 (fun gk vo i wo => ∃ k : Nat, k ≤ 2 ∧ gk + k = 2 ∧ i = .int .i64 k ∧ Grows (Value.int .i64) 2 w.heap.size vo (partOf Y Z k) wo ∧ Below w.heap.size w wo)
      case atStart => exact ⟨0, by omega, by omega, rfl, HG1.out, HB1.out⟩
      case round =>
        obtain ⟨k, hk, hgk, rfl, hG, hB⟩ := hrel
        have HGR := Lib.hid hG
        have HBR := Lib.hid hB
        obtain ⟨c0, c1⟩ := HX.out.keep hB hg
        clear hG hB
        match k, hk with
        | 0, _ =>
          go_wp2_with (at_builtin; refine wpList_append_own _ rfl _ _ 25 rfl w.heap.size 2 i0 (.int .i64 0) 1 8 Try.underlying25 hi hz0 hz1 hz2 rfl (by decide) _ _ _ rfl HGR.out ad1 Y.length cap1 (Y.map (Value.int .i64)) rfl (by simp) (L1.out _ HBR.out) (map_oneI Y) (by simp [partOf]; unfold maxLen; omega) (by simp [partOf]; omega) HBR.out.size ?_)
          intro v2 W2 hown2 hgrow2 _
          have HN := Lib.hid (show Grows (Value.int .i64) 2 w.heap.size v2 (partOf Y Z 1) W2 from Grows.more (Z := partOf Y Z 0) (news := Y) (m := Y.length) rfl hown2)
          have HB2 := Lib.hid (HBR.out.grown hgrow2 HBR.out.size (fun q hq => HGR.out.block q hq))
          clear hown2 hgrow2
          go_wp2_with fail
          go_roundg (gk - 1)
          case measure => omega
          case rel => exact ⟨1, by omega, by omega, rfl, HN.out, HB2.out⟩
        | 1, _ =>
          go_wp2_with (at_builtin; refine wpList_append_own _ rfl _ _ 25 rfl w.heap.size 2 i0 (.int .i64 0) 1 8 Try.underlying25 hi hz0 hz1 hz2 rfl (by decide) _ _ _ rfl HGR.out ad2 Z.length cap2 (Z.map (Value.int .i64)) rfl (by simp) (L2.out _ HBR.out) (map_oneI Z) (by simp [partOf]; unfold maxLen; omega) (by simp [partOf]; omega) HBR.out.size ?_)
          intro v2 W2 hown2 hgrow2 _
          have HN := Lib.hid (show Grows (Value.int .i64) 2 w.heap.size v2 (partOf Y Z 2) W2 from Grows.more (Z := partOf Y Z 1) (news := Z) (m := Z.length) rfl hown2)
          have HB2 := Lib.hid (HBR.out.grown hgrow2 HBR.out.size (fun q hq => HGR.out.block q hq))
          clear hown2 hgrow2
          go_wp2_with fail
          go_roundg (gk - 1)
          case measure => omega
          case rel => exact ⟨2, by omega, by omega, rfl, HN.out, HB2.out⟩
        | 2, _ =>
          go_wp2_with fail
          refine bodyPost_ret (results_tmp rfl _ _ _) rfl ?_
          exact ⟨_, rfl, HGR.out.si, HBR.out⟩
end Go.Proofs.Ytnakpfbeeekmiaa
/- Lists of integers that are joined to nil. -/
namespace Go.Proofs.Ytnakpfbeeekmiaa
open Go.RowKit Go.ChangeShapes Go.WideShapes

/-- Nothing is put behind a list of the call's own: the source is nil, of whatever capacity. -/
theorem run_append_nilc {P : Program} {w : World} (base : Nat) (t ty e : TypeId) (i : TypeInfo) (size c : Nat) (ht : P.underlying t = some (.slice e)) (hi : P.info? e = some i)
    (v : Value) (n : Nat) (xs : List Value) (hown : w.ownsRow base e size v n xs) : (Builtin.append_ #[t, t] ty #[v, .slice none 0 c]).run P w = .ok v w := by
  rcases hown.2 with ⟨rfl, rfl⟩ | ⟨g, cap, cur, rfl, _, _, hnc, _⟩
  · simp [Builtin.append_, run_underlying ht, sizeOf, typeInfo, hi, Builtin.lenOf, Builtin.firstCells]
  · simp [Builtin.append_, run_underlying ht, sizeOf, typeInfo, hi, Builtin.lenOf, Builtin.firstCells, hnc, storeCells]
theorem wpList_append_nilc {P : Program} {w : World} {ops : Array Oper} {rest : List Oper} {o : Oper} {a : Act} {Q : Exit → Act → World → Prop} (hgd : o.guard = none) (s x : Operand) (t : TypeId)
    (ho : o.op = .call { callee := .builtin .append, args := #[s, x], argTypes := #[t, t] })
    (base : Nat) (e : TypeId) (i : TypeInfo) (size c : Nat) (ht : P.underlying t = some (.slice e)) (hi : P.info? e = some i)
    (v : Value) (n : Nat) (xs : List Value) (hs : a.eval s = v) (hown : w.ownsRow base e size v n xs) (hx : a.eval x = .slice none 0 c)
    (h : wpList P ops Q rest (a.put o.dst v) w) : wpList P ops Q (o :: rest) a w := by
  refine wpList_plain hgd fun K hK => ?_
  have hrun := run_append_nilc (P := P) (w := w) base t o.type e i size c ht hi v n xs hown
  unfold Oper.wp
  simp [execOp, ho, resolve, invoke, builtin, hs, hx, hrun, Result.andThen]
  exact hK _ _ h
def partZ (Z : List Int) : Nat → List Int
  | 0 => []
  | 1 => []
  | _ + 2 => Z
def sizeZ (Z : List Int) : Nat → Nat
  | 0 => 0
  | 1 => 0
  | _ + 2 => Z.length
set_option maxRecDepth 100000 in
set_option maxHeartbeats 4000000 in
theorem concatZ_any (g c0 : Nat) (ad2 : Addr) (cap2 : Nat) (Z : List Int) (w : World) (h : Box2 w g (.slice none 0 c0) (.slice (some ad2) Z.length cap2)) (hZ : LiesC w ad2 Z) (nZ : Z.length ≤ 524288) (hp : 0 < Z.length) :
    Calls Try.prog 102 #[.slice (some ⟨g, 0, none⟩) 2 2] w (Made (Value.int .i64) (0 : Int) Z w) := by
  obtain ⟨i0, hi, hz0, hz1, hz2⟩ := info_parts Try.infoI
  have L2 := Lib.hid hZ
  have HX := Lib.hid h
  have hg := cell_block h.c0
  clear h hZ
  go_enter Try.func102, Try.ntmps102
  go_wp2_with fail
  go_loopg [3, 11] 2 (fun gk sz i wr => ∃ k : Nat, k ≤ 2 ∧ gk + k = 2 ∧ i = .int .i64 k ∧ sz = .int .i64 (sizeZ Z k) ∧ w = wr)
  case atStart => exact ⟨0, by omega, by omega, rfl, rfl, rfl⟩
  case round =>
    obtain ⟨k, hk, hgk, rfl, rfl, rfl⟩ := hrel
    obtain ⟨c0', c1⟩ := HX.out
    match k, hk with
    | 0, _ =>
      simp only [sizeZ]
      go_wp2_with fail
      go_roundg (gk - 1)
      case measure => omega
      case rel => exact ⟨1, by omega, by omega, rfl, by simp [sizeZ], rfl⟩
    | 1, _ =>
      have w1 : IntKind.i64.wrap (Z.length : Int) = (Z.length : Int) := by rw [IntKind.wrap_i64]; omega
      have w2 : ¬ ((Z.length : Int) < 0) := by omega
      simp only [sizeZ]
      go_wp2_with fail
      go_roundg (gk - 1)
      case measure => omega
      case rel => exact ⟨2, by omega, by omega, rfl, by simp [sizeZ], rfl⟩
    | 2, _ =>
      simp only [sizeZ]
      go_wp2_with fail
      go_at_call 124; refine (growI_is _ Z.length _ (by simp) hp (by omega)).mono ?_; rintro e W ⟨g1, gc1, rfl, hG1, hB1⟩
      have HG1 := Lib.hid hG1
      have HB1 := Lib.hid hB1
      clear hG1 hB1
      go_wp2_with fail
      go_loopg [6, 27] 2 (fun gk vo i wo => ∃ k : Nat, k ≤ 2 ∧ gk + k = 2 ∧ i = .int .i64 k ∧ Grows (Value.int .i64) 2 w.heap.size vo (partZ Z k) wo ∧ Below w.heap.size w wo)
      case atStart => exact ⟨0, by omega, by omega, rfl, HG1.out, HB1.out⟩
      case round =>
        obtain ⟨k, hk, hgk, rfl, hG, hB⟩ := hrel
        have HGR := Lib.hid hG
        have HBR := Lib.hid hB
        obtain ⟨c0', c1⟩ := HX.out.keep hB hg
        clear hG hB
        match k, hk with
        | 0, _ =>
          go_wp2_with (at_builtin; refine wpList_append_nilc rfl _ _ 25 rfl w.heap.size 2 i0 1 c0 Try.underlying25 hi _ _ _ rfl HGR.out rfl ?_)
          go_roundg (gk - 1)
          case measure => omega
          case rel => exact ⟨1, by omega, by omega, rfl, HGR.out, HBR.out⟩
        | 1, _ =>
          go_wp2_with (at_builtin; refine wpList_append_own _ rfl _ _ 25 rfl w.heap.size 2 i0 (.int .i64 0) 1 8 Try.underlying25 hi hz0 hz1 hz2 rfl (by decide) _ _ _ rfl HGR.out ad2 Z.length cap2 (Z.map (Value.int .i64)) rfl (by simp) (L2.out _ HBR.out) (map_oneI Z) (by simp [partZ]; unfold maxLen; omega) (by simp [partZ]; omega) HBR.out.size ?_; intro v2 W2 hown2 hgrow2 _; have HN := Lib.hid (show Grows (Value.int .i64) 2 w.heap.size v2 (partZ Z 2) W2 from Grows.more (Z := partZ Z 1) (news := Z) (m := Z.length) rfl hown2); have HB2 := Lib.hid (HBR.out.grown hgrow2 HBR.out.size (fun q hq => HGR.out.block q hq)); clear hown2 hgrow2)
          go_roundg (gk - 1)
          case measure => omega
          case rel => exact ⟨2, by omega, by omega, rfl, HN.out, HB2.out⟩
        | 2, _ =>
          go_wp2_with fail
          refine bodyPost_ret (results_tmp rfl _ _ _) rfl ?_
          exact ⟨_, rfl, HGR.out.si, HBR.out⟩
end Go.Proofs.Ytnakpfbeeekmiaa
/- Two lists of lists that are joined. -/
namespace Go.Proofs.Ytnakpfbeeekmiaa
open Go.RowKit Go.ChangeShapes Go.WideShapes

/-- All are values of one cell. -/
def AllS (Z : List Value) : Prop := ∀ u ∈ Z.map (id : Value → Value), u.oneCell' = true
/-- Where values lie, in all worlds from here on. -/
def LiesV (w : World) (ad : Addr) (Z : List Value) : Prop := ∀ w', Below w.heap.size w w' → ∀ j u, (Z.map (id : Value → Value))[j]? = some u → w'.cell? (ad.add j) = some u
theorem grown_ownL (w : World) (n B : Nat) (h0 : n ≤ 1048576) (hB : B ≤ w.heap.size) : Grows (id : Value → Value) 25 B (.slice (some ⟨w.heap.size, 0, none⟩) 0 (grownCap w n 0 25)) [] (w.drew.alloc (.cells (Builtin.zeroCells (Value.slice none 0 0).cells n ++ Builtin.zeroCells (Value.slice none 0 0).cells (grownCap w n 0 25 - n)) 25)) := by
  have hge := grownCap_ge w n 0 25
  have hcm : grownCap w n 0 25 ≤ maxLen := grownCap_le_maxLen w n 0 25 (by unfold maxLen; omega)
  refine ⟨rfl, Or.inr ⟨w.heap.size, _, _, rfl, hB, heap_alloc_new w.drew _, Nat.zero_le _, hcm, ?_, rfl⟩⟩
  simp only [Array.size_append, size_zeroCells]
  have : (Value.slice none 0 0).cells.size = 1 := rfl
  rw [this]
  omega
set_option maxHeartbeats 1000000 in
theorem growL_any (n : Nat) (w : World) (h0 : 0 < n) (hn : n ≤ 1048576) :
    Calls Try.prog 97 #[.slice none 0 0, .int .i64 n] w (fun e w' => ∃ g cap, e = .returned (.slice (some ⟨g, 0, none⟩) 0 cap) ∧ Grows (id : Value → Value) 25 w.heap.size (.slice (some ⟨g, 0, none⟩) 0 cap) [] w' ∧ Below w.heap.size w w') := by
  obtain ⟨i0, hi, hz0, hz1, hz2⟩ := info_parts Try.infoL
  have hr := fun (W : World) (ty : TypeId) => Lib.run_append_nil_zeros (P := Try.prog) W 22 3 ty 25 i0 (.slice none 0 0) .i64 .i64 Try.underlying22 Try.underlying3 hi hz0 n h0 (by omega) (by omega) (by rw [hz2]; omega)
  have hw1 : IntKind.i64.wrap (n : Int) = n := by rw [IntKind.wrap_i64]; omega
  have hpos : (0 : Int) < (n : Int) := by omega
  have hng : ¬ ((n : Int) < 0) := by omega
  have HG := Lib.hid (grown_ownL w n w.heap.size hn (Nat.le_refl _))
  go_enter Try.func97, Try.ntmps97
  go_wp2_with (at_builtin; refine Lib.wpList_append_run _ rfl _ _ _ _ rfl _ _ rfl rfl _ _ (hr _ _) ?_)
  go_wp2_with fail
  refine bodyPost_ret (results_tmp rfl _ _ _) rfl ?_
  exact ⟨_, _, rfl, HG.out, ((Below.refl _ _).drew).alloc (Nat.le_refl _) _⟩
def partOfL (Y Z : List Value) : Nat → List Value
  | 0 => []
  | 1 => Y
  | _ + 2 => Y ++ Z
def sizeAtL (Y Z : List Value) : Nat → Nat
  | 0 => 0
  | 1 => Y.length
  | _ + 2 => Y.length + Z.length
theorem growL_is (m : Int) (n : Nat) (w : World) (hm : m = n) (h0 : 0 < n) (hn : n ≤ 1048576) :
    Calls Try.prog 97 #[.slice none 0 0, .int .i64 m] w (fun e w' => ∃ g cap, e = .returned (.slice (some ⟨g, 0, none⟩) 0 cap) ∧ Grows (id : Value → Value) 25 w.heap.size (.slice (some ⟨g, 0, none⟩) 0 cap) [] w' ∧ Below w.heap.size w w') := by
  subst hm
  exact growL_any n w h0 hn
set_option maxRecDepth 100000 in
set_option maxHeartbeats 4000000 in
theorem concatL_any (g : Nat) (ad1 ad2 : Addr) (cap1 cap2 : Nat) (Y Z : List Value) (w : World) (h : Box2 w g (.slice (some ad1) Y.length cap1) (.slice (some ad2) Z.length cap2)) (hY : LiesV w ad1 Y) (hZ : LiesV w ad2 Z) (oY : AllS Y) (oZ : AllS Z) (nY : Y.length ≤ 524288) (nZ : Z.length ≤ 524288) (hp : 0 < Y.length + Z.length) :
    Calls Try.prog 58 #[.slice (some ⟨g, 0, none⟩) 2 2] w (Made (id : Value → Value) vnil (Y ++ Z) w) := by
  obtain ⟨i0, hi, hz0, hz1, hz2⟩ := info_parts Try.infoL
  have L1 := Lib.hid hY
  have HY1 := Lib.hid oY
  have HZ1 := Lib.hid oZ
  have L2 := Lib.hid hZ
  have HX := Lib.hid h
  have hg := cell_block h.c0
  clear h hY hZ oY oZ
  go_enter Try.func58, Try.ntmps58
  go_wp2_with fail
  go_loopg [3, 11] 2 (fun gk sz i wr => ∃ k : Nat, k ≤ 2 ∧ gk + k = 2 ∧ i = .int .i64 k ∧ sz = .int .i64 (sizeAtL Y Z k) ∧ w = wr)
  case atStart => exact ⟨0, by omega, by omega, rfl, rfl, rfl⟩
  case round =>
    obtain ⟨k, hk, hgk, rfl, rfl, rfl⟩ := hrel
    obtain ⟨c0, c1⟩ := HX.out
    match k, hk with
    | 0, _ =>
      have w1 : IntKind.i64.wrap (Y.length : Int) = (Y.length : Int) := by rw [IntKind.wrap_i64]; omega
      have w2 : ¬ ((Y.length : Int) < 0) := by omega
      simp only [sizeAtL]
      go_wp2_with fail
      go_roundg (gk - 1)
      case measure => omega
      case rel => exact ⟨1, by omega, by omega, rfl, by simp [sizeAtL], rfl⟩
    | 1, _ =>
      have w1 : IntKind.i64.wrap ((Y.length : Int) + Z.length) = (Y.length : Int) + Z.length := by rw [IntKind.wrap_i64]; omega
      have w2 : ¬ ((Y.length : Int) + Z.length < 0) := by omega
      simp only [sizeAtL]
      go_wp2_with fail
      go_roundg (gk - 1)
      case measure => omega
      case rel => exact ⟨2, by omega, by omega, rfl, by simp [sizeAtL], rfl⟩
    | 2, _ =>
      simp only [sizeAtL]
      go_wp2_with fail
      go_at_call 97; refine (growL_is _ (Y.length + Z.length) _ (by simp) hp (by omega)).mono ?_; rintro e W ⟨g1, gc1, rfl, hG1, hB1⟩
      have HG1 := Lib.hid hG1
      have HB1 := Lib.hid hB1
      clear hG1 hB1
      go_wp2_with fail
      go_loopg [6, 27] 2 (fun gk vo i wo => ∃ k : Nat, k ≤ 2 ∧ gk + k = 2 ∧ i = .int .i64 k ∧ Grows (id : Value → Value) 25 w.heap.size vo (partOfL Y Z k) wo ∧ Below w.heap.size w wo)
      case atStart => exact ⟨0, by omega, by omega, rfl, HG1.out, HB1.out⟩
      case round =>
        obtain ⟨k, hk, hgk, rfl, hG, hB⟩ := hrel
        have HGR := Lib.hid hG
        have HBR := Lib.hid hB
        obtain ⟨c0, c1⟩ := HX.out.keep hB hg
        clear hG hB
        match k, hk with
        | 0, _ =>
          go_wp2_with (at_builtin; refine wpList_append_own _ rfl _ _ 22 rfl w.heap.size 25 i0 (.slice none 0 0) 1 24 Try.underlying22 hi hz0 hz1 hz2 rfl (by decide) _ _ _ rfl HGR.out ad1 Y.length cap1 (Y.map (id : Value → Value)) rfl (by simp) (L1.out _ HBR.out) HY1.out (by simp [partOfL]; unfold maxLen; omega) (by simp [partOfL]; omega) HBR.out.size ?_)
          intro v2 W2 hown2 hgrow2 _
          have HN := Lib.hid (show Grows (id : Value → Value) 25 w.heap.size v2 (partOfL Y Z 1) W2 from Grows.more (Z := partOfL Y Z 0) (news := Y) (m := Y.length) rfl (by first | exact hown2 | (rw [List.map_id, List.map_id]; exact hown2)))
          have HB2 := Lib.hid (HBR.out.grown hgrow2 HBR.out.size (fun q hq => HGR.out.block q hq))
          clear hown2 hgrow2
          go_wp2_with fail
          go_roundg (gk - 1)
          case measure => omega
          case rel => exact ⟨1, by omega, by omega, rfl, HN.out, HB2.out⟩
        | 1, _ =>
          go_wp2_with (at_builtin; refine wpList_append_own _ rfl _ _ 22 rfl w.heap.size 25 i0 (.slice none 0 0) 1 24 Try.underlying22 hi hz0 hz1 hz2 rfl (by decide) _ _ _ rfl HGR.out ad2 Z.length cap2 (Z.map (id : Value → Value)) rfl (by simp) (L2.out _ HBR.out) HZ1.out (by simp [partOfL]; unfold maxLen; omega) (by simp [partOfL]; omega) HBR.out.size ?_)
          intro v2 W2 hown2 hgrow2 _
          have HN := Lib.hid (show Grows (id : Value → Value) 25 w.heap.size v2 (partOfL Y Z 2) W2 from Grows.more (Z := partOfL Y Z 1) (news := Z) (m := Z.length) rfl (by first | exact hown2 | (rw [List.map_id, List.map_id]; exact hown2)))
          have HB2 := Lib.hid (HBR.out.grown hgrow2 HBR.out.size (fun q hq => HGR.out.block q hq))
          clear hown2 hgrow2
          go_wp2_with fail
          go_roundg (gk - 1)
          case measure => omega
          case rel => exact ⟨2, by omega, by omega, rfl, HN.out, HB2.out⟩
        | 2, _ =>
          go_wp2_with fail
          refine bodyPost_ret (results_tmp rfl _ _ _) rfl ?_
          exact ⟨_, rfl, HGR.out.si, HBR.out⟩
def partZL (Z : List Value) : Nat → List Value
  | 0 => []
  | 1 => []
  | _ + 2 => Z
def sizeZL (Z : List Value) : Nat → Nat
  | 0 => 0
  | 1 => 0
  | _ + 2 => Z.length
set_option maxRecDepth 100000 in
set_option maxHeartbeats 4000000 in
theorem concatLZ_any (g c0 : Nat) (ad2 : Addr) (cap2 : Nat) (Z : List Value) (w : World) (h : Box2 w g (.slice none 0 c0) (.slice (some ad2) Z.length cap2)) (hZ : LiesV w ad2 Z) (oZ : AllS Z) (nZ : Z.length ≤ 524288) (hp : 0 < Z.length) :
    Calls Try.prog 58 #[.slice (some ⟨g, 0, none⟩) 2 2] w (Made (id : Value → Value) vnil Z w) := by
  obtain ⟨i0, hi, hz0, hz1, hz2⟩ := info_parts Try.infoL
  have L2 := Lib.hid hZ
  have HZ1 := Lib.hid oZ
  have HX := Lib.hid h
  have hg := cell_block h.c0
  clear h hZ oZ
  go_enter Try.func58, Try.ntmps58
  go_wp2_with fail
  go_loopg [3, 11] 2 (fun gk sz i wr => ∃ k : Nat, k ≤ 2 ∧ gk + k = 2 ∧ i = .int .i64 k ∧ sz = .int .i64 (sizeZL Z k) ∧ w = wr)
  case atStart => exact ⟨0, by omega, by omega, rfl, rfl, rfl⟩
  case round =>
    obtain ⟨k, hk, hgk, rfl, rfl, rfl⟩ := hrel
    obtain ⟨c0', c1⟩ := HX.out
    match k, hk with
    | 0, _ =>
      simp only [sizeZL]
      go_wp2_with fail
      go_roundg (gk - 1)
      case measure => omega
      case rel => exact ⟨1, by omega, by omega, rfl, by simp [sizeZL], rfl⟩
    | 1, _ =>
      have w1 : IntKind.i64.wrap (Z.length : Int) = (Z.length : Int) := by rw [IntKind.wrap_i64]; omega
      have w2 : ¬ ((Z.length : Int) < 0) := by omega
      simp only [sizeZL]
      go_wp2_with fail
      go_roundg (gk - 1)
      case measure => omega
      case rel => exact ⟨2, by omega, by omega, rfl, by simp [sizeZL], rfl⟩
    | 2, _ =>
      simp only [sizeZL]
      go_wp2_with fail
      go_at_call 97; refine (growL_is _ Z.length _ (by simp) hp (by omega)).mono ?_; rintro e W ⟨g1, gc1, rfl, hG1, hB1⟩
      have HG1 := Lib.hid hG1
      have HB1 := Lib.hid hB1
      clear hG1 hB1
      go_wp2_with fail
      go_loopg [6, 27] 2 (fun gk vo i wo => ∃ k : Nat, k ≤ 2 ∧ gk + k = 2 ∧ i = .int .i64 k ∧ Grows (id : Value → Value) 25 w.heap.size vo (partZL Z k) wo ∧ Below w.heap.size w wo)
      case atStart => exact ⟨0, by omega, by omega, rfl, HG1.out, HB1.out⟩
      case round =>
        obtain ⟨k, hk, hgk, rfl, hG, hB⟩ := hrel
        have HGR := Lib.hid hG
        have HBR := Lib.hid hB
        obtain ⟨c0', c1⟩ := HX.out.keep hB hg
        clear hG hB
        match k, hk with
        | 0, _ =>
          go_wp2_with (at_builtin; refine wpList_append_nilc rfl _ _ 22 rfl w.heap.size 25 i0 1 c0 Try.underlying22 hi _ _ _ rfl HGR.out rfl ?_)
          go_roundg (gk - 1)
          case measure => omega
          case rel => exact ⟨1, by omega, by omega, rfl, HGR.out, HBR.out⟩
        | 1, _ =>
          go_wp2_with (at_builtin; refine wpList_append_own _ rfl _ _ 22 rfl w.heap.size 25 i0 (.slice none 0 0) 1 24 Try.underlying22 hi hz0 hz1 hz2 rfl (by decide) _ _ _ rfl HGR.out ad2 Z.length cap2 (Z.map (id : Value → Value)) rfl (by simp) (L2.out _ HBR.out) HZ1.out (by simp [partZL]; unfold maxLen; omega) (by simp [partZL]; omega) HBR.out.size ?_; intro v2 W2 hown2 hgrow2 _; have HN := Lib.hid (show Grows (id : Value → Value) 25 w.heap.size v2 (partZL Z 2) W2 from Grows.more (Z := partZL Z 1) (news := Z) (m := Z.length) rfl (by first | exact hown2 | (rw [List.map_id, List.map_id]; exact hown2))); have HB2 := Lib.hid (HBR.out.grown hgrow2 HBR.out.size (fun q hq => HGR.out.block q hq)); clear hown2 hgrow2)
          go_roundg (gk - 1)
          case measure => omega
          case rel => exact ⟨2, by omega, by omega, rfl, HN.out, HB2.out⟩
        | 2, _ =>
          go_wp2_with fail
          refine bodyPost_ret (results_tmp rfl _ _ _) rfl ?_
          exact ⟨_, rfl, HGR.out.si, HBR.out⟩
/-- The values of a list of lists. -/
def valsOf (U : Nat → Value) (n : Nat) : List Value := (List.range n).map U
theorem valsOf_len (U : Nat → Value) (n : Nat) : (valsOf U n).length = n := by simp [valsOf]
theorem valsOf_at {U : Nat → Value} {n i : Nat} (h : i < n) : (valsOf U n).getD i vnil = U i := by simp [valsOf, List.getD, h]
theorem LV.split {w : World} {v : Value} {C : List (List Int)} (h : LV w v C) : ∃ U : Nat → Value, (∀ i, i < C.length → IL w (U i) (C.getD i [])) ∧ ((C = [] ∧ ∃ cap, v = .slice none 0 cap) ∨ ∃ ad cap, v = .slice (some ad) (valsOf U C.length).length cap ∧ LiesV w ad (valsOf U C.length) ∧ AllS (valsOf U C.length)) := by
  rcases h with ⟨rfl, ao, cap, rfl⟩ | ⟨b, off, cap, U, rfl, hp, hb, hc⟩
  · refine ⟨fun _ => vnil, fun i hi => absurd hi (by simp), ?_⟩
    cases ao with
    | none => exact Or.inl ⟨rfl, cap, rfl⟩
    | some ad => exact Or.inr ⟨ad, cap, rfl, fun w' _ j u hu => by simp [valsOf] at hu, fun u hu => by simp [valsOf] at hu⟩
  · refine ⟨U, fun i hi => (hc i hi).2, Or.inr ⟨_, _, by rw [valsOf_len], fun w' hbw j u hu => ?_, fun u hu => ?_⟩⟩
    · have hj : j < C.length := by
        have := (List.getElem?_eq_some_iff.1 hu).1
        simpa [valsOf] using this
      have hu : U j = u := by simpa [valsOf, hj] using hu
      rw [Go.WideShapes.add_plain, hbw.cell (p := ⟨b, off + j, none⟩) hb, (hc j hj).1, hu]
    · rw [List.map_id] at hu
      obtain ⟨i, hi, rfl⟩ := List.mem_map.1 hu
      obtain ⟨ao, c2, e⟩ := ((hc i (List.mem_range.1 hi)).2).long
      rw [e]; rfl
/-- Lists of lists by their values. -/
theorem lv_of_si {B H : Nat} {w : World} {v : Value} {C : List (List Int)} {L : List Value} (h : SI (id : Value → Value) vnil B H w v L) (hl : L.length = C.length) (hi : ∀ i, i < C.length → IL w (L.getD i vnil) (C.getD i [])) : LV w v C := by
  rcases h.2 with ⟨rfl, ao, cap, rfl⟩ | ⟨b, off, cap, rfl, hp, h1, h2, h3, h4⟩
  · exact Or.inl ⟨List.eq_nil_of_length_eq_zero (by rw [← hl]; rfl), ao, cap, rfl⟩
  · refine Or.inr ⟨b, off, cap, fun i => L.getD i vnil, by rw [hl], by omega, by have := h.1; omega, fun i hi2 => ⟨h4 i (by omega), hi i hi2⟩⟩
/-- What a call answers: a new list of lists, or one whose lists are old. -/
def MadeV (C : List (List Int)) (w : World) (e : Ending) (w' : World) : Prop := ∃ v, e = .returned v ∧ LV w' v C ∧ Below w.heap.size w w'
theorem concatLL_any (g : Nat) (v u : Value) (C P : List (List Int)) (w : World) (h : Box2 w g v u) (hv : LV w v C) (hu : LV w u P) (nC : C.length ≤ 524288) (nP : P.length ≤ 524288) (hp : 0 < P.length) :
    Calls Try.prog 58 #[.slice (some ⟨g, 0, none⟩) 2 2] w (MadeV (C ++ P) w) := by
  obtain ⟨U, hU, h1⟩ := hv.split
  obtain ⟨V, hV, h2⟩ := hu.split
  rcases h2 with ⟨rfl, -⟩ | ⟨ad2, cap2, rfl, l2, s2⟩
  · simp at hp
  have fin : ∀ (L : List Value), L = valsOf U C.length ++ valsOf V P.length → ∀ e w', Made (id : Value → Value) vnil L w e w' → MadeV (C ++ P) w e w' := by
    rintro L rfl e w' ⟨r, rfl, si, b⟩
    refine ⟨r, rfl, lv_of_si si (by simp [valsOf]) (fun i hi => ?_), b⟩
    rw [List.length_append] at hi
    by_cases q : i < C.length
    · have e1 : (valsOf U C.length ++ valsOf V P.length).getD i vnil = U i := by
        simp [valsOf, List.getD, List.getElem?_append_left (show i < ((List.range C.length).map U).length by simpa using q), q]
      have e2 : (C ++ P).getD i [] = C.getD i [] := by simp [List.getD, List.getElem?_append_left q]
      rw [e1, e2]; exact (hU i q).below b (Nat.le_refl _)
    · have e1 : (valsOf U C.length ++ valsOf V P.length).getD i vnil = V (i - C.length) := by
        have hh : i - C.length < P.length := by omega
        simp [valsOf, List.getD, List.getElem?_append_right (show ((List.range C.length).map U).length ≤ i by simpa using (by omega : C.length ≤ i)), hh]
      have e2 : (C ++ P).getD i [] = P.getD (i - C.length) [] := by simp [List.getD, List.getElem?_append_right (show C.length ≤ i by omega)]
      rw [e1, e2]; exact (hV _ (by omega)).below b (Nat.le_refl _)
  rcases h1 with ⟨rfl, cap1, rfl⟩ | ⟨ad1, cap1, rfl, l1, s1⟩
  · exact (concatLZ_any g cap1 ad2 cap2 _ w h l2 s2 (by rw [valsOf_len]; exact nP) (by rw [valsOf_len]; exact hp)).mono fun e w' hm => fin _ (by simp [valsOf]) e w' hm
  · exact (concatL_any g ad1 ad2 cap1 cap2 _ _ w h l1 l2 s1 s2 (by rw [valsOf_len]; exact nC) (by rw [valsOf_len]; exact nP) (by rw [valsOf_len, valsOf_len]; omega)).mono fun e w' hm => fin _ rfl e w' hm
end Go.Proofs.Ytnakpfbeeekmiaa
/- Lists of lists: what the laws' walks ask (sizes, how one comes in). -/
namespace Go.Proofs.Ytnakpfbeeekmiaa
open Go.RowKit Go.ChangeShapes Go.WideShapes

theorem szSS_yes2 (v : Value) (C : List (List Int)) (m : Int) (w : World) (hv : LV w v C) (hm : (szL C : Int) ≤ m) (hb : m ≤ 1048576) :
    Calls Try.prog 23 #[v, .int .i64 m] w fun e w' => e = .returned (.int .i64 (m - szL C)) ∧ Below w.heap.size w w' :=
  (szSS_yes v C m w hv hm hb).mono fun _ _ ⟨h1, h2⟩ => ⟨h1, by rw [← h2]; exact Below.refl _ _⟩
theorem szSS_no2 (v : Value) (C : List (List Int)) (m : Int) (w : World) (hv : LV w v C) (hm : m < (szL C : Int)) (h0 : 0 ≤ m) (hb : m ≤ 1048576) (hf : FitL C) :
    Calls Try.prog 23 #[v, .int .i64 m] w fun e w' => e = .returned (.int .i64 (-1)) ∧ Below w.heap.size w w' :=
  (szSS_no v C m w hv hm h0 hb hf).mono fun _ _ ⟨h1, h2⟩ => ⟨h1, by rw [← h2]; exact Below.refl _ _⟩
set_option maxRecDepth 100000 in
theorem open_lvs {H : Type} {enc : TypeId × Value → H} {w : World} {v : Value} {d : DataW H} {ps : List MemPlace} {b0 : Nat}
    (hval : Value.okWide Try.prog w .any b0 22 v) (hd : DataW.Trod enc Try.prog w 0 (fun _ => true) true 22 v d ps) : ∃ C : List (List Int), LV w v C ∧ FitL C := by
  obtain ⟨a0, len, cap, rfl⟩ := okWide_slice Try.underlying22 hval
  obtain ⟨fuel, hf⟩ := hd
  exact open_lv hf
end Go.Proofs.Ytnakpfbeeekmiaa
/- A law that returns true and lets the old memory be: its row, from its walk. -/
namespace Go.Proofs.Ytnakpfbeeekmiaa.Frame
open Go.ChangeShapes Go.WideShapes Go.ChangeAt Go.RowKit

theorem trodAll_below {H : Type} {enc : TypeId × Value → H} {P : Program} (hl : laidOutB P = true) {W W' : World} (hb : Below W.heap.size W W') :
    ∀ {ts : List TypeId} {vs : List Value} {ds : List (DataW H)} {ps : List MemPlace}, (∀ t ∈ ts, P.readableRec t = true ∧ t < P.types.size) →
      DataW.TrodAll enc P W 0 (fun _ => true) true ts vs ds ps → (∀ x ∈ ps, x.block < W.heap.size) →
      DataW.TrodAll enc P W' 0 (fun b => decide (b < W.heap.size)) true ts vs ds ps
  | [], [], [], ps, _, h, _ => h
  | t :: ts, v :: vs, d :: ds, ps, hr, h, hlt => by
    obtain ⟨p, q, h1, h2, rfl⟩ := h
    exact ⟨p, q, Below.trod hl (hr t (by simp)).1 (hr t (by simp)).2 h1 hb (fun x hx => hlt x (by simp [hx])), trodAll_below hl hb (fun t' ht' => hr t' (by simp [ht'])) h2 (fun x hx => hlt x (by simp [hx])), rfl⟩
  | [], _ :: _, _, _, _, h, _ => h.elim
  | [], [], _ :: _, _, _, h, _ => h.elim
  | _ :: _, [], _, _, _, h, _ => h.elim
  | _ :: _, _ :: _, [], _, _, h, _ => h.elim

section
variable {H : Type} {enc : TypeId × Value → H} {P : Program}
/-- The end of a law's proof: it returned true, and below the old heap nothing has turned. -/
theorem law_post {f : Func} {s : ChangeSpec} {W W' : World} {args : Array Value} {ds gs : List (DataW H)} {before : List MemPlace} {tb : TypeId}
    (hW : DataW.Whole enc P f.params.toList s.vars false W args.toList ds gs before)
    (hl : laidOutB P = true) (hread : ∀ t ∈ f.params.toList, P.readableRec t = true ∧ t < P.types.size)
    (hvars : s.vars = []) (hres : f.resultTypes = #[tb]) (htb : P.underlying tb = some .bool)
    (hspec : (s.fn H (ds ++ [])).results = [.lit (.bool true)] ∧ (s.fn H (ds ++ [])).args = ds ∧ (s.fn H (ds ++ [])).vars = [])
    (hb : Below W.heap.size W W') : s.post enc P f false true false false W args (.bool true) W' := by
  have hlt : ∀ p ∈ before, p.block < W.heap.size := fun p hp => hW.lt p hp
  have hW0 := hW
  obtain ⟨p, q, hA, hV, hpq, hz, hn⟩ := hW
  rw [hvars] at hV
  obtain ⟨rfl, rfl⟩ := trodVars_none hV
  rw [List.append_nil] at hpq
  subst hpq
  refine ⟨ds, [], before, [], before, [], hW0, ?_, ?_, ?_, World.keptBut_mono (fun p hp => ⟨hp, ?_⟩) (hb.frame (· ∈ before)), fun hg => by cases hg⟩
  · rw [hspec.1, hres]
    exact trodAll_mk1 (shut_bool htb _)
  · rw [hspec.2.1]
    exact trodAll_below hl hb hread hA hlt
  · rw [hspec.2.2, hvars]; exact rfl
  · simpa using hp
end

theorem length_of_trodAll {H : Type} {enc : TypeId × Value → H} {P : Program} {W : World} {base : Nat} {sp : Nat → Bool} {hd : Bool} : ∀ {ts : List TypeId} {vs : List Value} {ds : List (DataW H)} {ps : List MemPlace}, DataW.TrodAll enc P W base sp hd ts vs ds ps → ds.length = ts.length
  | [], [], [], _, _ => rfl
  | _ :: ts, _ :: vs, _ :: ds, _, ⟨_, _, _, h, _⟩ => by simp [length_of_trodAll h]
  | [], _ :: _, _, _, h => h.elim
  | [], [], _ :: _, _, h => h.elim
  | _ :: _, [], _, _, h => h.elim
  | _ :: _, _ :: _, [], _, h => h.elim

/-- A LAW's ROW, FROM ITS WALK. 'n': how many parameters. -/
theorem law_lifted {H : Type} {enc : TypeId × Value → H} {C : Checked} {os : Os} {f : FuncId} {fn : Func} {s : ChangeSpec} {tb : TypeId}
    (own : ownKnob C.prog.godebug = none) (started : os.Started) (noInit : C.prog.inits.idxOf? f = none) (hfn : C.prog.funcs[f]? = some fn)
    (witness : ∃ (w : World) (tape : Tape) (i : Input), w.os = os ∧ (w.forCall tape i).Shaped C.prog ∧ i.vars = [] ∧ Input.okWide C.prog (w.forCall tape i) .any w.heap.size f i ∧
      s.pre6 enc C.prog fn [] false (w.forCall tape i).memory i.args ∧ ({} : Assume).holds C.prog (lone (Frame.enter C.prog f i.args .normal) [] (w.forCall tape i)))
    (hl : laidOutB C.prog = true) (hread : (fn.params.toList.all fun t => C.prog.readableRec t && decide (t < C.prog.types.size)) = true)
    (hvars : s.vars = []) (hres : fn.resultTypes = #[tb]) (htb : C.prog.underlying tb = some .bool)
    (hspec : ∀ ds : List (DataW H), ds.length = fn.params.toList.length → (s.fn H (ds ++ [])).results = [.lit (.bool true)] ∧ (s.fn H (ds ++ [])).args = ds ∧ (s.fn H (ds ++ [])).vars = [])
    (walk : ∀ (W : World) (base : Nat) (args : Array Value) (ds : List (DataW H)) (p : List MemPlace),
      (∀ (j : Nat) t v, fn.params[j]? = some t → args[j]? = some v → Value.okWide C.prog W .any base t v) →
      DataW.TrodAll enc C.prog W 0 (fun _ => true) true fn.params.toList args.toList ds p → (∀ x ∈ p, x.block < W.heap.size) →
      (DataW.weightsEach C.prog fn.params.toList ds).all (· ≤ reachBytes) = true →
      Calls C.prog f args W fun e W' => e = .returned (.bool true) ∧ Below W.heap.size W W') :
    ReturnsInHanded {} C os f .any (s.pre6 enc C.prog fn [] false) (s.post enc C.prog fn false true false false) := by
  refine returnsInHanded_of_change_sized own started noInit hfn witness ?_
  intro W base args ds gs before hval hW _ hsz _
  have hlt : ∀ x ∈ before, x.block < W.heap.size := fun x hx => hW.lt x hx
  have hW0 := hW
  obtain ⟨p, q, hA, hV, hpq, hz, hn⟩ := hW
  have hgs : gs = [] := by
    rw [hvars] at hV
    exact (trodVars_none hV).1
  have hq : q = [] := by
    rw [hvars] at hV
    exact (trodVars_none hV).2
  subst hgs; subst hq
  rw [List.append_nil] at hpq
  subst hpq
  have hty : s.plain.varTypes C.prog = [] := by
    have : s.plain.vars = [] := hvars
    unfold DataSpec.varTypes
    rw [this]; rfl
  rw [hty, List.append_nil, List.append_nil] at hsz
  refine (walk W base args ds before hval hA hlt hsz).mono fun e W' ⟨he, hb⟩ => ⟨_, he, ?_⟩
  refine law_post hW0 hl (fun t ht => ?_) hvars hres htb (hspec ds (length_of_trodAll hA)) hb
  have := List.all_eq_true.1 hread t ht
  simpa using this
end Go.Proofs.Ytnakpfbeeekmiaa.Frame
