/- The texts of lists of numbers with digits of bits: both sides, for all lists. -/
import Derived.Test.YtcgdkjbbdpmmhaaDoorNxS
import Derived.Test.YtcgdkjbbdpmmhaaDoorFrameP
import Derived.Test.YtcgdkjbbdpmmhaaDoorVl
import Derived.Lib.TrailingZeros
import Derived.Deep.QuietTactic
import Derived.BigQuiet
namespace Go.Proofs.YtcgdkjbbdpmmhaaDoor
open Go.RowKit Go.ChangeShapes Go.WideShapes Go.ChangeAt

theorem SL.longN {w : World} {v : Value} {Z : List Nat} (h : SL w v Z) : ∃ ao cap, v = .slice ao Z.length cap := VL.len (mk := Value.float .f32) (d := (0 : Nat)) h
theorem tz_data : (Rows.laid_math_bits_deBruijn64tab : DataW Unit) = Lib.tabData .u8 (Lib.deBruijn64tab.map Int.ofNat) := by kernel_rfl
theorem tabz_of_laid {W : World} (h : laidMetH Tryd.prog laid3 W) : TabZ W := by
  rw [MakeChecks.laidMetH_plain _ _ _ (by kernel_rfl)] at h
  have h2 := h.tail
  rw [tz_data] at h2
  have h3 := Lib.tabIs_of_head (g := 8) (t := 186) (e := 5) (n := 64) (by kernel_rfl) (by kernel_rfl) Tryd.underlying186 Tryd.underlying5 (by kernel_rfl) (by kernel_rfl) h2
  exact h3.cell (by kernel_rfl) 15 (by decide)
def SaysTB (D : List UInt8) (b : Bool) (w : World) (e : Ending) (w' : World) : Prop := e = .returned (.tuple #[.string ⟨D.toArray⟩, .bool b]) ∧ Below w.heap.size w w'
def ntOk (L : List Nat) : Bool := decide (L.length ≤ 256)
def ntD (L : List Nat) : List UInt8 := if ntOk L then nxtL L else []
theorem implNumbersText_any (v : Value) (L : List Nat) (w : World) (hv : SL w v L) (hs : L.length ≤ 1048576) (hF : Few32 L) (hp : TabZ w) :
    Calls Tryd.prog 16 #[v] w (SaysTB (ntD L) (ntOk L) w) := by
  have HP := Lib.hid hp
  have HV := Lib.hid hv
  obtain ⟨ao, cap, rfl⟩ := SL.longN hv
  clear hp hv
  by_cases hl : L.length ≤ 256
  · have TX := Lib.hid (fun W hv hp => textOfListN_any (.slice ao L.length cap) L W hv hl hF hp)
    have e1 : ntOk L = true := by unfold ntOk; simp [hl]
    have e2 : ntD L = nxtL L := by unfold ntD; rw [e1]; rfl
    rw [e1, e2]
    have d0 : decide ((L.length : Int) > 256) = false := by simp; omega
    generalize nxtL L = D at *
    clear e1 e2 hF
    go_enter Tryd.func16, Tryd.ntmps16
    go_wp2_with fail
    go_at_call 45; refine (TX.out _ HV.out HP.out).mono ?_; rintro e w3 ⟨rfl, b⟩
    have B := Lib.hid b
    clear b
    go_wp2_with fail
    go_ret2
    exact ⟨rfl, B.out⟩
  · have e1 : ntOk L = false := by unfold ntOk; simp; omega
    have e2 : ntD L = [] := by unfold ntD; rw [e1]; rfl
    rw [e1, e2]
    have d0 : decide ((L.length : Int) > 256) = true := by simp; omega
    clear e1 e2 hF
    go_enter Tryd.func16, Tryd.ntmps16
    go_wp2_with fail
    go_ret2
    exact ⟨rfl, Below.refl _ _⟩
theorem specNumbersText_any (v : Value) (L : List Nat) (w : World) (hv : SL w v L) (hs : L.length ≤ 1048576) (hF : Few32 L) :
    Calls Tryd.prog 14 #[v] w (SaysTB (ntD L) (ntOk L) w) := by
  have HV := Lib.hid hv
  obtain ⟨ao, cap, rfl⟩ := SL.longN hv
  clear hv
  have FW : Hid (∀ W, Calls Tryd.prog 43 #[.slice ao L.length cap] W fun e w' => e = .returned (.bool (ntOk L)) ∧ w' = W) := Lib.hid fun W => by
    obtain ⟨t, ht⟩ : ∃ t, decide ((L.length : Int) ≤ 256) = t := ⟨_, rfl⟩
    have hk : ntOk L = t := by
      rw [← ht]; unfold ntOk
      by_cases h : L.length ≤ 256
      · have h2 : (L.length : Int) ≤ 256 := by omega
        simp [h, h2]
      · have h2 : ¬ (L.length : Int) ≤ 256 := by omega
        simp [h, h2]
    rw [hk]
    go_enter Tryd.func43, Tryd.ntmps43
    go_wp2_with fail
    go_ret
    exact ⟨rfl, rfl⟩
  by_cases hl : L.length ≤ 256
  · have TX := Lib.hid (fun W hv => l01NText_any (.slice ao L.length cap) L W hv hl hF)
    have e1 : ntOk L = true := by unfold ntOk; simp [hl]
    have e2 : ntD L = nxtL L := by unfold ntD; rw [e1]; rfl
    rw [e1] at FW
    rw [e1, e2]
    generalize nxtL L = D at *
    clear e1 e2 hF
    go_enter Tryd.func14, Tryd.ntmps14
    go_wp2_with fail
    go_at_call 43; refine (FW.out _).mono ?_; rintro e w2 ⟨rfl, rfl⟩
    go_wp2_with fail
    go_at_call 44; refine (TX.out _ HV.out).mono ?_; rintro e w3 ⟨rfl, b⟩
    have B := Lib.hid b
    clear b
    go_wp2_with fail
    go_ret2
    exact ⟨rfl, B.out⟩
  · have e1 : ntOk L = false := by unfold ntOk; simp; omega
    have e2 : ntD L = [] := by unfold ntD; rw [e1]; rfl
    rw [e1] at FW
    rw [e1, e2]
    clear e1 e2 hF
    go_enter Tryd.func14, Tryd.ntmps14
    go_wp2_with fail
    go_at_call 43; refine (FW.out _).mono ?_; rintro e w2 ⟨rfl, rfl⟩
    go_wp2_with fail
    go_ret2
    exact ⟨rfl, Below.refl _ _⟩
end Go.Proofs.YtcgdkjbbdpmmhaaDoor
