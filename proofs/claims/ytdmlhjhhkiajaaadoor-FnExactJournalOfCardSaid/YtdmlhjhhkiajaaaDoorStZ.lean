/- Lists of strings: as they come in; how great they are. -/
import Derived.Test.YtdmlhjhhkiajaaaDoorStL
import Derived.Deep.LoopGhost
namespace Go.Proofs.YtdmlhjhhkiajaaaDoor
open Go.RowKit Go.ChangeShapes Go.WideShapes

theorem one_str {H : Type} {enc : TypeId × Value → H} {P : Program} {w : World} {base : Nat} {held : Bool} {e : TypeId} (he : P.underlying e = some .string) :
    ∀ n u z, DataW.trod enc P w base (fun _ => true) held n e [u] = some z → ∃ x, u = Value.string x ∧ x.size ≤ maxLen := by
  intro n u z h
  obtain ⟨s, h1, _, hs⟩ := DataW.trod_string he h
  exact ⟨s, by simpa using h1, hs⟩
/-- A list of strings as it comes in. -/
def FitT (Z : List ByteArray) : Prop := Z.length ≤ maxLen ∧ ∀ x ∈ Z, x.size ≤ maxLen
set_option maxRecDepth 100000 in
theorem open_strl {H : Type} {enc : TypeId × Value → H} {w : World} {v : Value} {d : DataW H} {ps : List MemPlace} {b0 : Nat}
    (hval : Value.okWide Tryd.prog w .any b0 38 v) (hd : DataW.Trod enc Tryd.prog w 0 (fun _ => true) true 38 v d ps) : ∃ Z : List ByteArray, TL w v Z ∧ FitT Z := by
  have hc : Tryd.prog.cellsOf 9 = 1 := by kernel_rfl
  obtain ⟨a0, len, cap, rfl⟩ := okWide_slice Tryd.underlying38 hval
  obtain ⟨fuel, hf⟩ := hd
  obtain ⟨Z, hZ, lZ, fZ⟩ := open_vl (d := bsOf []) Tryd.underlying38 hc _ (one_str Tryd.underlying9) hf
  exact ⟨Z, hZ, lZ, fZ⟩
/-- The sizes of the first k together. -/
def szT (L : List ByteArray) : Nat → Nat
  | 0 => 0
  | k + 1 => szT L k + (L.getD k (bsOf [])).size
theorem szT_mono (L : List ByteArray) (k : Nat) : ∀ d, szT L k ≤ szT L (k + d)
  | 0 => Nat.le_refl _
  | d + 1 => by
    have h := szT_mono L k d
    show _ ≤ szT L (k + d) + _
    omega
theorem szT_each {L : List ByteArray} {k : Nat} (hk : k < L.length) : (L.getD k (bsOf [])).size ≤ szT L L.length := by
  have h := szT_mono L (k + 1) (L.length - (k + 1))
  rw [show k + 1 + (L.length - (k + 1)) = L.length by omega] at h
  have : szT L (k + 1) = szT L k + (L.getD k (bsOf [])).size := rfl
  omega
def szOk (L : List ByteArray) : Prop := L.length + szT L L.length ≤ 1048576
theorem szT_le {L : List ByteArray} {k : Nat} (hk : k ≤ L.length) : szT L k ≤ szT L L.length := by
  have h := szT_mono L k (L.length - k)
  rwa [show k + (L.length - k) = L.length by omega] at h
set_option maxRecDepth 100000 in
set_option maxHeartbeats 4000000 in
theorem szStr_yes (v : Value) (L : List ByteArray) (w : World) (hv : TL w v L) (h : szOk L) :
    Calls Tryd.prog 29 #[v, .int .i64 1048576] w fun e w' => e = .returned (.int .i64 (1048576 - (L.length : Int) - (szT L L.length : Int))) ∧ w = w' := by
  unfold szOk at h
  rcases hv with ⟨rfl, ao, cap, rfl⟩ | ⟨b, off, cap, rfl, hpos, hbl, hcell⟩
  · go_enter Tryd.func29, Tryd.ntmps29
    go_wp2
    refine wp_loop_rounds 1 ?_
    rw [rounds_succ]
    go_wp2
    go_ret
    exact ⟨rfl, rfl⟩
  · have HC := Lib.hid hcell
    have HM := Lib.hid (fun k (hk : k ≤ L.length) => szT_le (L := L) hk)
    have S0 : Hid (szT L 0 = 0) := Lib.hid rfl
    have w0 : IntKind.i64.wrap (1048576 - (L.length : Int)) = 1048576 - (L.length : Int) := by rw [IntKind.wrap_i64]; omega
    have d0 : decide (1048576 - (L.length : Int) < 0) = false := by simp; omega
    clear hcell
    go_enter Tryd.func29, Tryd.ntmps29
    go_wp2_with fail
    go_loopg [1, 5] L.length (fun gk t i wr => ∃ k : Nat, k ≤ L.length ∧ gk + k = L.length ∧ i = .int .i64 k ∧ t = .int .i64 (1048576 - (L.length : Int) - (szT L k : Int)) ∧ w = wr)
    case atStart => exact ⟨0, Nat.zero_le _, by omega, rfl, by rw [S0.out]; go_num, rfl⟩
    case round =>
      obtain ⟨k, hk, hgk, rfl, rfl, rfl⟩ := hrel
      have HGK := Lib.hid hgk
      clear hgk w0 d0
      by_cases hlt : k < L.length
      · have c1 := HC.out k hlt
        have m1 := HM.out (k + 1) (by omega)
        have SE : Hid (szT L (k + 1) = szT L k + (L.getD k (bsOf [])).size) := Lib.hid rfl
        rw [SE.out] at m1
        generalize L.getD k (bsOf []) = s at *
        generalize szT L k = x at *
        have w1 : IntKind.i64.wrap (1048576 - (L.length : Int) - (x : Int) - (s.size : Int)) = 1048576 - (L.length : Int) - (x : Int) - (s.size : Int) := by rw [IntKind.wrap_i64]; omega
        have d1 : decide (1048576 - (L.length : Int) - (x : Int) - (s.size : Int) < 0) = false := by simp; omega
        go_wp2_with fail
        go_roundg (gk - 1)
        case measure => have := HGK.out; omega
        case rel => exact ⟨k + 1, by omega, by have := HGK.out; omega, by go_num, by (rw [SE.out]; go_num), rfl⟩
      · obtain rfl : k = L.length := by omega
        go_wp2_with fail
        go_ret
        exact ⟨rfl, rfl⟩
set_option maxRecDepth 100000 in
set_option maxHeartbeats 4000000 in
theorem szStr_no (v : Value) (L : List ByteArray) (w : World) (hv : TL w v L) (hf : FitT L) (h : ¬ szOk L) :
    Calls Tryd.prog 29 #[v, .int .i64 1048576] w fun e w' => e = .returned (.int .i64 (-1)) ∧ w = w' := by
  unfold szOk at h
  have hlm := hf.1
  unfold maxLen at hlm
  have HF : Hid (∀ k, k < L.length → (L.getD k (bsOf [])).size ≤ 9223372036854775807) := Lib.hid fun k hk => by
    have := hf.2 (L.getD k (bsOf [])) (by rw [show L.getD k (bsOf []) = L[k] by simp [List.getD, hk]]; exact List.getElem_mem _)
    unfold maxLen at this; omega
  clear hf
  rcases hv with ⟨rfl, ao, cap, rfl⟩ | ⟨b, off, cap, rfl, hpos, hbl, hcell⟩
  · exfalso; exact h (by simp [szT])
  · have HC := Lib.hid hcell
    have S0 : Hid (szT L 0 = 0) := Lib.hid rfl
    clear hcell
    by_cases hl : 1048576 < L.length
    · have w0 : IntKind.i64.wrap (1048576 - (L.length : Int)) = 1048576 - (L.length : Int) := by rw [IntKind.wrap_i64]; omega
      have d0 : decide (1048576 - (L.length : Int) < 0) = true := by simp; omega
      go_enter Tryd.func29, Tryd.ntmps29
      go_wp2_with fail
      go_ret
      exact ⟨rfl, rfl⟩
    · have w0 : IntKind.i64.wrap (1048576 - (L.length : Int)) = 1048576 - (L.length : Int) := by rw [IntKind.wrap_i64]; omega
      have d0 : decide (1048576 - (L.length : Int) < 0) = false := by simp; omega
      go_enter Tryd.func29, Tryd.ntmps29
      go_wp2_with fail
      go_loopg [1, 5] L.length (fun gk t i wr => ∃ k : Nat, k ≤ L.length ∧ gk + k = L.length ∧ i = .int .i64 k ∧ t = .int .i64 (1048576 - (L.length : Int) - (szT L k : Int)) ∧ w = wr ∧ L.length + szT L k ≤ 1048576)
      case atStart => exact ⟨0, Nat.zero_le _, by omega, rfl, by rw [S0.out]; go_num, rfl, by rw [S0.out]; omega⟩
      case round =>
        obtain ⟨k, hk, hgk, rfl, rfl, rfl, hle⟩ := hrel
        have HGK := Lib.hid hgk
        clear hgk w0 d0
        by_cases hlt : k < L.length
        · have c1 := HC.out k hlt
          have m1 := HF.out k hlt
          have SE : Hid (szT L (k + 1) = szT L k + (L.getD k (bsOf [])).size) := Lib.hid rfl
          have HN := Lib.hid h
          clear h
          generalize L.getD k (bsOf []) = s at *
          generalize szT L k = x at *
          have w1 : IntKind.i64.wrap (1048576 - (L.length : Int) - (x : Int) - (s.size : Int)) = 1048576 - (L.length : Int) - (x : Int) - (s.size : Int) := by rw [IntKind.wrap_i64]; omega
          by_cases hov : L.length + (x + s.size) ≤ 1048576
          · have d1 : decide (1048576 - (L.length : Int) - (x : Int) - (s.size : Int) < 0) = false := by simp; omega
            go_wp2_with fail
            go_roundg (gk - 1)
            case measure => have := HGK.out; omega
            case rel => exact ⟨k + 1, by omega, by have := HGK.out; omega, by go_num, by (rw [SE.out]; go_num), rfl, by rw [SE.out]; exact hov⟩
          · have d1 : decide (1048576 - (L.length : Int) - (x : Int) - (s.size : Int) < 0) = true := by simp; omega
            go_wp2_with fail
            go_ret
            exact ⟨rfl, rfl⟩
        · obtain rfl : k = L.length := by omega
          exact absurd hle h
end Go.Proofs.YtdmlhjhhkiajaaaDoor
