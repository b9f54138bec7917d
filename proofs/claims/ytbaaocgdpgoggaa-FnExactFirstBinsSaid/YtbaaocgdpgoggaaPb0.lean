/- Packs by quotients: what they are (plain). -/
import Derived.Test.YtbaaocgdpgoggaaOrdQ
import Derived.Test.YtbaaocgdpgoggaaCmp
namespace Go.Proofs.Ytbaaocgdpgoggaa

def szN (S : List Int) (i : Nat) : Nat := (S.getD i 0).toNat
/-- The things in descending order of the quotients of gain and size. -/
def thO (S G : List Int) : List Nat := ordN (ltQ (fun i => S.getD i 0) (fun i => G.getD i 0)) S.length
theorem thO_len (S G : List Int) : (thO S G).length = S.length := ordN_len _ _
theorem thO_lt {S G : List Int} {k : Nat} (h : k < S.length) : (thO S G).getD k 0 < S.length := ordN_lt _ h
/-- The bound: gains of those that have room, and a part of the first one that has none. -/
def pbL (S G : List Int) : List Nat → Nat → Nat → Nat
  | [], s, _ => s
  | i :: Y, s, l => if l < szN S i then s + szN G i * l / szN S i else pbL S G Y (s + szN G i) (l - szN S i)
theorem pbL_end {S G : List Int} {Y : List Nat} {k s l : Nat} (h : k = Y.length) : pbL S G (Y.drop k) s l = s := by
  subst h; rw [List.drop_length]; rfl
theorem drop_cons {Y : List Nat} {k : Nat} (h : k < Y.length) : Y.drop k = Y.getD k 0 :: Y.drop (k + 1) := by
  rw [List.drop_eq_getElem_cons h]; simp [List.getD, h]
theorem pbL_stop {S G : List Int} {Y : List Nat} {k s l : Nat} (h : k < Y.length) (hl : l < szN S (Y.getD k 0)) : pbL S G (Y.drop k) s l = s + szN G (Y.getD k 0) * l / szN S (Y.getD k 0) := by
  rw [drop_cons h]; exact if_pos hl
theorem pbL_on {S G : List Int} {Y : List Nat} {k s l : Nat} (h : k < Y.length) (hl : ¬ l < szN S (Y.getD k 0)) : pbL S G (Y.drop k) s l = pbL S G (Y.drop (k + 1)) (s + szN G (Y.getD k 0)) (l - szN S (Y.getD k 0)) := by
  rw [drop_cons h]; exact if_neg hl
def pbI (S G : List Int) (r : Int) : Int := if canB S G r then (pbL S G (thO S G) 0 r.toNat : Nat) else 0
theorem pbI_no {S G : List Int} {r : Int} (h : canB S G r = false) : pbI S G r = 0 := by unfold pbI; rw [h]; rfl
theorem pbI_yes {S G : List Int} {r : Int} (h : canB S G r = true) : pbI S G r = (pbL S G (thO S G) 0 r.toNat : Nat) := by unfold pbI; rw [if_pos h]
structure SzOk (S G : List Int) (i : Nat) : Prop where
  s : S.getD i 0 = (szN S i : Int)
  s1 : 1 ≤ szN S i
  s2 : szN S i ≤ 1000
  g : G.getD i 0 = (szN G i : Int)
  g2 : szN G i ≤ 1000
theorem CanOk.at {S G : List Int} {r : Int} (h : CanOk S G r) {i : Nat} (hi : i < S.length) : SzOk S G i := by
  have h1 := h.s.a i hi
  have h2 := h.g i (by rw [h.l]; exact hi)
  exact ⟨by unfold szN; omega, by unfold szN; omega, by unfold szN; omega, by unfold szN; omega, by unfold szN; omega⟩
theorem CanOk.sAll {S G : List Int} {r : Int} (h : CanOk S G r) (i : Nat) : 0 ≤ S.getD i 0 ∧ S.getD i 0 ≤ 1000 := by
  by_cases hi : i < S.length
  · have := h.s.a i hi; omega
  · rw [List.getD, List.getElem?_eq_none (by omega)]; simp
theorem CanOk.gAll {S G : List Int} {r : Int} (h : CanOk S G r) (i : Nat) : 0 ≤ G.getD i 0 ∧ G.getD i 0 ≤ 1000 := by
  by_cases hi : i < G.length
  · exact h.g i hi
  · rw [List.getD, List.getElem?_eq_none (by omega)]; simp
/-- What the program compares. -/
def quoC (S G : List Int) (x y : Nat) : Int := cmpI (G.getD y 0 * S.getD x 0) (G.getD x 0 * S.getD y 0)
theorem quoC_lt (S G : List Int) : ltC (quoC S G) = ltQ (fun i => S.getD i 0) (fun i => G.getD i 0) := by funext x y; exact cmpI_neg _ _
end Go.Proofs.Ytbaaocgdpgoggaa
