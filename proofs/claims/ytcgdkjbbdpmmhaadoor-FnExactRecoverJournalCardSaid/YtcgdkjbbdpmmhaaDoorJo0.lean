/- Journals of lines: what they are (plain). -/
import Derived.Test.YtcgdkjbbdpmmhaaDoorTx0
import Derived.Test.YtcgdkjbbdpmmhaaDoorChkC
import Derived.Lib.Bytealg
namespace Go.Proofs.YtcgdkjbbdpmmhaaDoor
open Go

def nlB (s : ByteArray) : Bool := decide (0 ≤ Lib.indexByte s.data.toList 10)
/-- The entry of a line. -/
def jEnt (c : Int) (s : ByteArray) : List UInt8 := Lib.itoa c ++ [32] ++ s.data.toList ++ [10]
/-- The check number behind k lines. -/
def jChk (L : List ByteArray) : Nat → Int
  | 0 => 0
  | k + 1 => chkTo (jChk L k) (L.getD k (bsOf [])) (L.getD k (bsOf [])).size
/-- The journal of the first k lines. -/
def jTxt (L : List ByteArray) : Nat → List UInt8
  | 0 => []
  | k + 1 => jTxt L k ++ jEnt (jChk L (k + 1)) (L.getD k (bsOf []))
theorem jChk_in (L : List ByteArray) : ∀ k, 0 ≤ jChk L k ∧ jChk L k < 65003
  | 0 => by unfold jChk; omega
  | k + 1 => chkTo_in _ _ (jChk_in L k).1 (jChk_in L k).2 _ (Nat.le_refl _)
def jNo (L : List ByteArray) : Bool := (List.range L.length).all fun i => !nlB (L.getD i (bsOf []))
def jB (L : List ByteArray) : Bool := jNo L && decide ((jTxt L L.length).length ≤ 16000)
def jD (L : List ByteArray) : List UInt8 := if jB L then jTxt L L.length else []
theorem jTxt_le (L : List ByteArray) (k : Nat) : ∀ d, (jTxt L k).length ≤ (jTxt L (k + d)).length
  | 0 => Nat.le_refl _
  | d + 1 => by
    have h := jTxt_le L k d
    show _ ≤ (jTxt L (k + d) ++ _).length
    rw [List.length_append]; omega
theorem jB_nl {L : List ByteArray} {k : Nat} (hk : k < L.length) (h : nlB (L.getD k (bsOf [])) = true) : jB L = false := by
  have : jNo L = false := by
    unfold jNo
    rw [Bool.eq_false_iff]
    intro hc
    have := List.all_eq_true.1 hc k (List.mem_range.2 hk)
    rw [h] at this; cases this
  unfold jB; rw [this]; rfl
theorem jB_long {L : List ByteArray} {k : Nat} (hk : k ≤ L.length) (h : 16000 < (jTxt L k).length) : jB L = false := by
  have h1 := jTxt_le L k (L.length - k)
  rw [show k + (L.length - k) = L.length by omega] at h1
  unfold jB
  rw [decide_eq_false (by omega), Bool.and_false]
theorem jB_yes {L : List ByteArray} (h : ∀ k, k < L.length → nlB (L.getD k (bsOf [])) = false) (h2 : (jTxt L L.length).length ≤ 16000) : jB L = true := by
  unfold jB jNo
  rw [decide_eq_true h2, Bool.and_true, List.all_eq_true]
  intro k hk
  rw [h k (List.mem_range.1 hk)]; rfl
theorem jD_no {L : List ByteArray} (h : jB L = false) : jD L = [] := by unfold jD; rw [h]; rfl
theorem jD_yes {L : List ByteArray} (h : jB L = true) : jD L = jTxt L L.length := by unfold jD; rw [if_pos h]
theorem jEnt_len {c : Int} {s : ByteArray} (h : 0 ≤ c ∧ c < 65003) : s.size + 3 ≤ (jEnt c s).length ∧ (jEnt c s).length ≤ s.size + 22 := by
  have h1 := itoa_len (n := c) (by omega)
  have h2 : 1 ≤ (Lib.itoa c).length := by
    rw [itoa_pos (by omega), Lib.decDigits_eq, List.length_map, List.length_range]
    exact Lib.nDigits_pos _
  have h3 : s.data.toList.length = s.size := Array.length_toList
  have e1 : ([32] : List UInt8).length = 1 := rfl
  have e2 : ([10] : List UInt8).length = 1 := rfl
  unfold jEnt
  rw [List.length_append, List.length_append, List.length_append, e1, e2, h3]
  omega
/-- What the lines take at least. -/
def jLen (L : List ByteArray) : Nat → Nat
  | 0 => 0
  | k + 1 => jLen L k + ((L.getD k (bsOf [])).size + 3)
theorem jLen_le (L : List ByteArray) : ∀ k, jLen L k ≤ (jTxt L k).length
  | 0 => Nat.le_refl _
  | k + 1 => by
    have h := jLen_le L k
    have h2 := (jEnt_len (s := L.getD k (bsOf [])) (jChk_in L (k + 1))).1
    show jLen L k + _ ≤ (jTxt L k ++ _).length
    rw [List.length_append]; omega
end Go.Proofs.YtcgdkjbbdpmmhaaDoor
