/- The parts of a text between marks: the model. -/
import Derived.Test.YtcgdkjbbdpmmhaaDoorStL
import Derived.Test.YtcgdkjbbdpmmhaaDoorOwn
import Derived.Test.YtcgdkjbbdpmmhaaDoorGrw
import Derived.Deep.LoopGhost
namespace Go.Proofs.YtcgdkjbbdpmmhaaDoor
open Go.RowKit Go.ChangeShapes Go.WideShapes

/-- Does a part end at place i? -/
def cutE (s : ByteArray) (m : UInt8) (i : Nat) : Bool := decide (i = s.size) || (decide (s.data.toList[i]? = some m))
/-- The parts that end before place i, and where the next one begins. -/
def cutB (s : ByteArray) (m : UInt8) : Nat → List ByteArray × Nat
  | 0 => ([], 0)
  | i + 1 => if cutE s m i then ((cutB s m i).1 ++ [s.extract (cutB s m i).2 i], i + 1) else cutB s m i
theorem cutB_le (s : ByteArray) (m : UInt8) : ∀ i, (cutB s m i).2 ≤ i ∧ (cutB s m i).1.length ≤ i
  | 0 => ⟨Nat.le_refl _, Nat.le_refl _⟩
  | i + 1 => by
    have h := cutB_le s m i
    unfold cutB
    split
    · refine ⟨Nat.le_refl _, ?_⟩
      rw [List.length_append]
      show _ + 1 ≤ _
      omega
    · omega
theorem cutE_end (s : ByteArray) (m : UInt8) : cutE s m s.size = true := by unfold cutE; simp
theorem cutE_at {s : ByteArray} {m : UInt8} {i : Nat} (h : i < s.size) : cutE s m i = ((s[i]'h).toNat == m.toNat) := by
  unfold cutE
  rw [decide_eq_false (by omega), Bool.false_or, List.getElem?_eq_getElem (by rw [Array.length_toList]; exact h)]
  have e : s.data.toList[i]'(by rw [Array.length_toList]; exact h) = s[i]'h := rfl
  rw [e, Bool.eq_iff_iff, decide_eq_true_eq, beq_iff_eq]
  constructor
  · intro q; injection q with q; rw [q]
  · intro q; congr 1; exact UInt8.toNat_inj.1 q
theorem Tryd.infoCut : (Tryd.prog.info? 9).map (fun i => (i.zero, i.size, i.bytes)) = some (some (.string (bsOf [])), 1, 16) := by kernel_rfl
/-- A list of strings of the call's own, that may grow. -/
def MadeT (Z : List ByteArray) (w : World) (e : Ending) (w' : World) : Prop := ∃ v, e = .returned v ∧ Grows Value.string 9 w.heap.size v Z w' ∧ Below w.heap.size w w'
set_option maxRecDepth 100000 in
set_option maxHeartbeats 4000000 in
theorem l01Cut_any (s : ByteArray) (m : UInt8) (w : World) (hs : s.size ≤ 1048576) :
    Calls Tryd.prog 81 #[.string s, .int .u8 (m.toNat : Int)] w (MadeT (cutB s m (s.size + 1)).1 w) := by
  obtain ⟨i0, hi, hz0, hz1, hz2⟩ := info_parts Tryd.infoCut
  have HLE := Lib.hid (cutB_le s m)
  have G0 : Hid (Grows Value.string 9 w.heap.size (.slice (some ⟨w.heap.size, 0, none⟩) 0 0) (cutB s m 0).1 (w.alloc (.cells #[] 9))) := Lib.hid (Grows.empty Value.string _ _ w (Nat.le_refl _))
  have B0 := Lib.hid (below_alloc w (.cells #[] 9))
  have F0 : Hid ((cutB s m 0).2 = 0) := Lib.hid rfl
  go_enter Tryd.func81, Tryd.ntmps81
  go_wp2_with fail
  go_loopg [5, 6, 7] (s.size + 1) (fun gk v f i wr => ∃ k : Nat, k ≤ s.size + 1 ∧ gk + k = s.size + 1 ∧ i = .int .i64 k ∧ f = .int .i64 (((cutB s m k).2 : Nat) : Int) ∧ Grows Value.string 9 w.heap.size v (cutB s m k).1 wr ∧ Below w.heap.size w wr)
  case atStart => exact ⟨0, Nat.zero_le _, by omega, rfl, by rw [F0.out]; rfl, G0.out, B0.out⟩
  case round =>
    obtain ⟨k, hk, hgk, rfl, rfl, hG, hB⟩ := hrel
    clear G0 B0 F0
    have HB := Lib.hid hB
    have HG := Lib.hid hG
    have HGK := Lib.hid hgk
    have hle := HLE.out k
    have UY := Lib.hid (fun (h : cutE s m k = true) => (show cutB s m (k + 1) = ((cutB s m k).1 ++ [s.extract (cutB s m k).2 k], k + 1) from by rw [cutB, if_pos h]))
    have UN := Lib.hid (fun (h : cutE s m k = false) => (show cutB s m (k + 1) = cutB s m k from by rw [cutB, h]; rfl))
    have CE : Hid (k = s.size → cutE s m k = true) := Lib.hid (fun h => by subst h; exact cutE_end s m)
    have CA := Lib.hid (fun (h : k < s.size) => cutE_at (s := s) (m := m) h)
    clear hgk
    by_cases hlt : k ≤ s.size
    · generalize hP : cutB s m k = P at *
      obtain ⟨Y, f⟩ := P
      dsimp only at *
      have hsz := HB.out.size
      have hYl : Y.length ≤ 1048577 := by omega
      have hf1 : (0 : Int) ≤ (f : Int) := by omega
      have hf2 : (f : Int) ≤ (k : Int) := by omega
      have hf3 : (k : Int) ≤ (s.size : Int) := by omega
      have HYL := Lib.hid hYl
      obtain ⟨x, hx⟩ : ∃ x, x = s.extract f k := ⟨_, rfl⟩
      have HX := Lib.hid hx
      clear hP hG hB hYl hx
      by_cases hke : k = s.size
      · have E1 := Lib.hid (UY.out (CE.out hke))
        have d1 : ((k : Int) == (s.size : Int)) = true := by rw [beq_iff_eq]; omega
        clear hke
        go_wp2_with (at_builtin; refine wpList_append_own _ rfl _ _ 22 rfl w.heap.size 9 i0 (.string (bsOf [])) 1 16 Tryd.underlying22 hi hz0 hz1 hz2 rfl (by decide) _ _ _ rfl (Grows.alloc HG.out _) ⟨wr.heap.size, 0, none⟩ 1 1 [.string (s.extract f k)] rfl rfl ?c1 ?c2 ?c3 ?c4 ?c5 ?_)
        case c1 => exact one_new
        case c2 => intro u hu; simp at hu; subst hu; rfl
        case c3 => have := HYL.out; unfold maxLen; omega
        case c4 => have := HYL.out; omega
        case c5 => simp; omega
        intro v' w' hown hgrow _
        have GN : Hid (Grows Value.string 9 w.heap.size v' (cutB s m (k + 1)).1 w') := Lib.hid (by rw [E1.out]; exact Grows.more (news := [s.extract f k]) rfl hown)
        have BN : Hid (Below w.heap.size w w') := Lib.hid ((HB.out.alloc HB.out.size _).grown hgrow (by simp; omega) (fun g hg => HG.out.block g hg))
        clear hown hgrow
        go_wp2_with fail
        go_roundg (gk - 1)
        case measure => have := HGK.out; omega
        case rel => exact ⟨k + 1, by omega, by have := HGK.out; omega, by go_num, by (rw [E1.out]; go_num), GN.out, BN.out⟩
      · have hks : k < s.size := by omega
        have d1 : ((k : Int) == (s.size : Int)) = false := by rw [beq_eq_false_iff_ne]; omega
        have CA2 := Lib.hid (CA.out hks)
        by_cases hm : (s[k]'hks).toNat = m.toNat
        · have E1 := Lib.hid (UY.out (by rw [CA2.out, beq_iff_eq]; exact hm))
          have d2 : (((s[k]'hks).toNat : Int) == (m.toNat : Int)) = true := by rw [beq_iff_eq]; omega
          clear hke hm
          go_wp2_with (at_builtin; refine wpList_append_own _ rfl _ _ 22 rfl w.heap.size 9 i0 (.string (bsOf [])) 1 16 Tryd.underlying22 hi hz0 hz1 hz2 rfl (by decide) _ _ _ rfl (Grows.alloc HG.out _) ⟨wr.heap.size, 0, none⟩ 1 1 [.string (s.extract f k)] rfl rfl ?c1 ?c2 ?c3 ?c4 ?c5 ?_)
          case c1 => exact one_new
          case c2 => intro u hu; simp at hu; subst hu; rfl
          case c3 => have := HYL.out; unfold maxLen; omega
          case c4 => have := HYL.out; omega
          case c5 => simp; omega
          intro v' w' hown hgrow _
          have GN : Hid (Grows Value.string 9 w.heap.size v' (cutB s m (k + 1)).1 w') := Lib.hid (by rw [E1.out]; exact Grows.more (news := [s.extract f k]) rfl hown)
          have BN : Hid (Below w.heap.size w w') := Lib.hid ((HB.out.alloc HB.out.size _).grown hgrow (by simp; omega) (fun g hg => HG.out.block g hg))
          clear hown hgrow
          go_wp2_with fail
          go_roundg (gk - 1)
          case measure => have := HGK.out; omega
          case rel => exact ⟨k + 1, by omega, by have := HGK.out; omega, by go_num, by (rw [E1.out]; go_num), GN.out, BN.out⟩
        · have E1 := Lib.hid (UN.out (by rw [CA2.out, beq_eq_false_iff_ne]; exact hm))
          have d2 : (((s[k]'hks).toNat : Int) == (m.toNat : Int)) = false := by rw [beq_eq_false_iff_ne]; omega
          clear hke hm
          go_wp2_with fail
          go_roundg (gk - 1)
          case measure => have := HGK.out; omega
          case rel => exact ⟨k + 1, by omega, by have := HGK.out; omega, by go_num, by rw [E1.out], by rw [E1.out]; exact HG.out, HB.out⟩
    · obtain rfl : k = s.size + 1 := by omega
      clear hG hB
      go_wp2_with fail
      refine bodyPost_ret (results_tmp rfl _ _ _) rfl ?_
      exact ⟨_, rfl, HG.out, HB.out⟩
end Go.Proofs.YtcgdkjbbdpmmhaaDoor
