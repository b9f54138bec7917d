/- Things on two machines: what it is, plainly. -/
import Derived.Test.YtcnfmphokobgiaaOrdT
import Derived.Test.YtcnfmphokobgiaaSz
import Derived.Test.YtcnfmphokobgiaaNumB
namespace Go.Proofs.Ytcnfmphokobgiaa
open Go.RowKit Go.ChangeShapes Go.WideShapes

def lonB (L : List Int) : Bool := sizesB L && decide ((L.length : Int) ≤ 12)
def stgB (F S : List Int) : Bool := lonB F && (lonB S && decide ((F.length : Int) = (S.length : Int)))
theorem stgB_eq (F S : List Int) : stgB F S = ((decide ((1 : Int) ≤ (F.length : Int)) && decide ((F.length : Int) ≤ 12)) && (decide ((S.length : Int) = (F.length : Int)) && (allIn F 1 1000 && allIn S 1 1000))) := by
  unfold stgB lonB sizesB fewB
  rw [Bool.eq_iff_iff]
  simp only [Bool.and_eq_true, decide_eq_true_eq]
  constructor
  · rintro ⟨⟨⟨a, b, c⟩, d⟩, ⟨⟨e, f, g⟩, h⟩, i⟩
    exact ⟨⟨b, d⟩, i.symm, a, e⟩
  · rintro ⟨⟨a, b⟩, c, d, e⟩
    exact ⟨⟨⟨d, a, by omega⟩, b⟩, ⟨⟨e, by omega, by omega⟩, by omega⟩, by omega⟩
structure StgOk (F S : List Int) : Prop where
  n1 : 1 ≤ F.length
  n2 : F.length ≤ 12
  l : S.length = F.length
  f : ∀ i, i < F.length → 1 ≤ F.getD i 0 ∧ F.getD i 0 ≤ 1000
  s : ∀ i, i < F.length → 1 ≤ S.getD i 0 ∧ S.getD i 0 ≤ 1000
theorem stgB_ok {F S : List Int} (h : stgB F S = true) : StgOk F S := by
  rw [stgB_eq] at h
  simp only [Bool.and_eq_true, decide_eq_true_eq] at h
  obtain ⟨⟨a, b⟩, c, d, e⟩ := h
  exact ⟨by omega, by omega, by omega, fun i hi => allIn_at d hi, fun i hi => allIn_at e (by omega)⟩
/-- Which ones go early, and the key by which all go. -/
def earB (F S : List Int) (i : Nat) : Bool := decide (F.getD i 0 ≤ S.getD i 0)
def tsKey (F S : List Int) (i : Nat) : Int := if F.getD i 0 ≤ S.getD i 0 then F.getD i 0 else 10000 - S.getD i 0
def tsO (F S : List Int) : List Nat := ordN (ltK (tsKey F S)) F.length
theorem tsO_len (F S : List Int) : (tsO F S).length = F.length := ordN_len _ _
theorem tsO_in {F S : List Int} {k : Nat} (h : k < F.length) : (tsO F S).getD k 0 < F.length := ordN_lt _ h
theorem ordN_same {K K' : Nat → Int} {n : Nat} (h : ∀ x, x < n → K x = K' x) : ordN (ltK K) n = ordN (ltK K') n := by
  refine sorted_same (key := K') ?_ (ordN_sorted K' n) fun x => by rw [ordN_mem, ordN_mem]
  refine List.Pairwise.imp_of_mem ?_ (ordN_sorted K n)
  intro a b ha hb hab
  rw [ordN_mem] at ha hb
  have e1 := h a ha
  have e2 := h b hb
  unfold Bef at *
  omega
/-- The program's two lists are the one order. -/
theorem ts_join {F S : List Int} (h : StgOk F S) :
    (ordN (ltK fun i => F.getD i 0) F.length).filter (earB F S) ++ (ordN (ltK fun i => - S.getD i 0) F.length).filter (fun x => !earB F S x) = tsO F S := by
  refine ordN_join (fun x hx hp => ?_) (fun x y hx hy hp hq => ?_) (fun x y hx hy hp hq => ?_)
  · unfold earB at hp
    unfold tsKey
    rw [if_pos (of_decide_eq_true hp)]
  · unfold earB at hp hq
    unfold tsKey
    rw [if_neg (of_decide_eq_false hp), if_neg (of_decide_eq_false hq)]
    omega
  · have hf := h.f x hx
    have hs := h.s y hy
    unfold earB at hp hq
    unfold tsKey
    rw [if_pos (of_decide_eq_true hp), if_neg (of_decide_eq_false hq)]
    omega
/-- When the machines are free behind k things. -/
def tsA (F : List Int) (Y : List Nat) : Nat → Int
  | 0 => 0
  | k + 1 => tsA F Y k + F.getD (Y.getD k 0) 0
def tsB (F S : List Int) (Y : List Nat) : Nat → Int
  | 0 => 0
  | k + 1 => max (tsA F Y k + F.getD (Y.getD k 0) 0) (tsB F S Y k) + S.getD (Y.getD k 0) 0
theorem tsA_in {F S : List Int} (h : StgOk F S) : ∀ k, k ≤ F.length → 0 ≤ tsA F (tsO F S) k ∧ tsA F (tsO F S) k ≤ 1000 * (k : Int)
  | 0, _ => by simp [tsA]
  | k + 1, hk => by
    have ih := tsA_in h k (by omega)
    have := h.f _ (tsO_in (S := S) (k := k) (by omega))
    unfold tsA
    omega
theorem tsB_in {F S : List Int} (h : StgOk F S) : ∀ k, k ≤ F.length → 0 ≤ tsB F S (tsO F S) k ∧ tsB F S (tsO F S) k ≤ 2000 * (k : Int)
  | 0, _ => by simp [tsB]
  | k + 1, hk => by
    have ih := tsB_in h k (by omega)
    have ia := tsA_in h k (by omega)
    have := h.f _ (tsO_in (S := S) (k := k) (by omega))
    have := h.s _ (tsO_in (S := S) (k := k) (by omega))
    unfold tsB
    omega
def tsL (F S : List Int) : List Int := if stgB F S then intsN (tsO F S) else []
def tsI (F S : List Int) : Int := if stgB F S then tsB F S (tsO F S) F.length else 0
theorem ts_no {F S : List Int} (h : stgB F S = false) : tsL F S = [] ∧ tsI F S = 0 := by unfold tsL tsI; rw [h]; exact ⟨rfl, rfl⟩
theorem ts_yes {F S : List Int} (h : stgB F S = true) : tsL F S = intsN (tsO F S) ∧ tsI F S = tsB F S (tsO F S) F.length := by unfold tsL tsI; rw [if_pos h, if_pos h]; exact ⟨rfl, rfl⟩
theorem tsL_len (F S : List Int) : (tsL F S).length ≤ 1048576 := by
  cases h : stgB F S with
  | false => rw [(ts_no h).1]; simp
  | true => rw [(ts_yes h).1, intsN_len, tsO_len]; have := (stgB_ok h).n2; omega
def keyL (F S : List Int) (k : Nat) : List Int := allF (tsKey F S) k
theorem keyL_len (F S : List Int) (k : Nat) : (keyL F S k).length = k := allF_len _ _
theorem keyL_up (F S : List Int) (k : Nat) : keyL F S (k + 1) = keyL F S k ++ [tsKey F S k] := by unfold keyL allF; rw [List.range_succ, List.map_append]; rfl
theorem keyL_order (F S : List Int) : ordN (ltK fun i => (keyL F S F.length).getD i 0) (keyL F S F.length).length = tsO F S := by
  rw [keyL_len]
  exact ordN_same fun x hx => allF_at hx
end Go.Proofs.Ytcnfmphokobgiaa
