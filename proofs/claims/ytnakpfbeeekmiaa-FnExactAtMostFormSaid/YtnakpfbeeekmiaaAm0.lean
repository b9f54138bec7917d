/- The form of at most some letters (plain). -/
import Derived.Test.YtnakpfbeeekmiaaVf
import Derived.Test.YtnakpfbeeekmiaaVa0
import Derived.Test.YtnakpfbeeekmiaaPop48
namespace Go.Proofs.Ytnakpfbeeekmiaa

def opp (T : List Int) : List Int := T.map fun x => -x
theorem opp_len (T : List Int) : (opp T).length = T.length := by simp [opp]
/-- The clauses of c letters out of the last d, in order. -/
def cmb (L : Nat) : Nat → Nat → List (List Int)
  | _, 0 => [[]]
  | 0, _ + 1 => []
  | d + 1, c + 1 => (cmb L d c).map (fun T => (-((L - d : Nat) : Int)) :: T) ++ cmb L d (c + 1)
theorem cmb_zero (L d : Nat) : cmb L d 0 = [[]] := by cases d <;> rfl
theorem cmb_none (L c : Nat) : cmb L 0 (c + 1) = [] := rfl
theorem cmb_step (L d c : Nat) : cmb L (d + 1) (c + 1) = (cmb L d c).map (fun T => (-((L - d : Nat) : Int)) :: T) ++ cmb L d (c + 1) := rfl
/-- The letters of a number among the last d. -/
def low (L d m : Nat) : List Int := ((List.range d).filter fun i => m.testBit (d - (i + 1))).map fun (i : Nat) => ((i + (L - d) : Nat) : Int) + 1
theorem low_step {L d m : Nat} (h : d + 1 ≤ L) : low L (d + 1) m = (if m.testBit d then [((L - d : Nat) : Int)] else []) ++ low L d m := by
  unfold low
  rw [List.range_succ_eq_map, List.filter_cons, List.filter_map]
  have e0 : d + 1 - (0 + 1) = d := by omega
  rw [e0]
  have e1 : (List.filter ((fun i => m.testBit (d + 1 - (i + 1))) ∘ Nat.succ) (List.range d)) = List.filter (fun i => m.testBit (d - (i + 1))) (List.range d) := by
    refine List.filter_congr fun i hi => ?_
    show m.testBit (d + 1 - (i + 1 + 1)) = _
    congr 1; omega
  rw [e1]
  have e2 : ∀ T : List Nat, (List.map Nat.succ T).map (fun (i : Nat) => ((i + (L - (d + 1)) : Nat) : Int) + 1) = T.map (fun (i : Nat) => ((i + (L - d) : Nat) : Int) + 1) := fun T => by
    rw [List.map_map]
    refine List.map_congr_left fun i _ => ?_
    show ((i + 1 + (L - (d + 1)) : Nat) : Int) + 1 = _
    omega
  split
  · rw [List.map_cons, e2]
    show (((0 + (L - (d + 1)) : Nat) : Int) + 1) :: _ = [_] ++ _
    rw [List.singleton_append]
    congr 1
    omega
  · rw [e2]; rfl
theorem low_all (L m : Nat) : low L L m = trueK L m L := by
  unfold low trueK
  refine List.map_congr_left fun i _ => ?_
  omega
theorem low_more {L d m : Nat} : low L d (m + 2 ^ d) = low L d m := by
  unfold low
  congr 1
  refine List.filter_congr fun i hi => ?_
  have := List.mem_range.1 hi
  rw [Nat.add_comm, Nat.testBit_two_pow_add_gt (by omega)]
theorem popN_more {n d m : Nat} (hm : m < 2 ^ d) (hd : d < n) : popN n (m + 2 ^ d) = popN n m + 1 := by
  have h1 := popN_split d (n - d) m 1 hm
  have h0 := popN_split d (n - d) m 0 hm
  rw [Nat.mul_one, show d + (n - d) = n by omega] at h1
  rw [Nat.mul_zero, Nat.add_zero, show d + (n - d) = n by omega] at h0
  rw [h1, h0]
  obtain ⟨q, hq⟩ : ∃ q, n - d = q + 1 := ⟨n - d - 1, by omega⟩
  rw [hq]
  show popN d m + (1 % 2 + popN q (1 / 2)) = popN d m + (0 % 2 + popN q (0 / 2)) + 1
  simp
  omega
theorem popN_0 : ∀ n, popN n 0 = 0
  | 0 => rfl
  | n + 1 => by unfold popN; rw [Nat.zero_div, popN_0 n]
/-- All clauses, the greatest number first. -/
def desc (L d c : Nat) : List (List Int) := ((List.range (2 ^ d)).reverse.filter fun m => popN 48 m == c).map fun m => opp (low L d m)
theorem desc_cmb {L : Nat} (hL : L ≤ 10) : ∀ d c, d ≤ L → desc L d c = cmb L d c
  | 0, 0, _ => by unfold desc; simp [cmb, popN_0, low, opp]
  | 0, c + 1, _ => by unfold desc; simp [cmb, popN_0]
  | d + 1, c, h => by
    have ih := fun c => desc_cmb hL d c (by omega)
    have hr : (List.range (2 ^ (d + 1))).reverse = ((List.range (2 ^ d)).reverse.map fun m => m + 2 ^ d) ++ (List.range (2 ^ d)).reverse := by
      rw [Nat.pow_succ, Nat.mul_two, List.range_add, List.reverse_append, List.map_reverse]
      congr 2
      refine List.map_congr_left fun i _ => Nat.add_comm _ _
    have hlo : ((List.range (2 ^ d)).reverse.filter fun m => popN 48 m == c).map (fun m => opp (low L (d + 1) m)) = desc L d c := by
      unfold desc
      refine List.map_congr_left fun m hm => ?_
      have hm2 : m < 2 ^ d := by
        have := (List.mem_filter.1 hm).1
        rw [List.mem_reverse] at this
        exact List.mem_range.1 this
      rw [low_step h, Nat.testBit_lt_two_pow hm2]; rfl
    have e : desc L (d + 1) c = (((List.range (2 ^ d)).reverse.filter fun m => popN 48 m + 1 == c).map fun m => (-((L - d : Nat) : Int)) :: opp (low L d m)) ++ desc L d c := by
      show ((List.range (2 ^ (d + 1))).reverse.filter fun m => popN 48 m == c).map (fun m => opp (low L (d + 1) m)) = _
      rw [hr, List.filter_append, List.map_append, hlo]
      congr 1
      rw [List.filter_map, List.map_map]
      have hf : (List.range (2 ^ d)).reverse.filter ((fun m => popN 48 m == c) ∘ fun m => m + 2 ^ d) = (List.range (2 ^ d)).reverse.filter fun m => popN 48 m + 1 == c := by
        refine List.filter_congr fun m hm => ?_
        rw [List.mem_reverse] at hm
        show (popN 48 (m + 2 ^ d) == c) = _
        rw [popN_more (List.mem_range.1 hm) (by omega)]
      rw [hf]
      refine List.map_congr_left fun m hm => ?_
      have hm2 : m < 2 ^ d := by
        have := (List.mem_filter.1 hm).1
        rw [List.mem_reverse] at this
        exact List.mem_range.1 this
      show opp (low L (d + 1) (m + 2 ^ d)) = _
      rw [low_step h, low_more, Nat.add_comm, Nat.testBit_two_pow_add_eq, Nat.testBit_lt_two_pow hm2]
      rfl
    rw [e, ih]
    cases c with
    | zero =>
      have : ((List.range (2 ^ d)).reverse.filter fun m => popN 48 m + 1 == 0) = [] := by
        rw [List.filter_eq_nil_iff]; intro m _; simp
      rw [this, cmb_zero, cmb_zero]; rfl
    | succ c =>
      rw [cmb_step, ← ih c]
      congr 1
      unfold desc
      rw [List.map_map]
      have : ((List.range (2 ^ d)).reverse.filter fun m => popN 48 m + 1 == c + 1) = (List.range (2 ^ d)).reverse.filter fun m => popN 48 m == c := by
        refine List.filter_congr fun m _ => ?_
        rw [Bool.eq_iff_iff]; simp
      rw [this]; rfl
/-- What the program has put together behind j numbers. -/
def amK (L c N : Nat) : Nat → List (List Int)
  | 0 => []
  | j + 1 => if popN 48 (N - 1 - j) = c then amK L c N j ++ [opp (trueK L (N - 1 - j) L)] else amK L c N j
theorem amK_yes {L c N j : Nat} (h : popN 48 (N - 1 - j) = c) : amK L c N (j + 1) = amK L c N j ++ [opp (trueK L (N - 1 - j) L)] := by rw [amK, if_pos h]
theorem amK_no {L c N j : Nat} (h : ¬ popN 48 (N - 1 - j) = c) : amK L c N (j + 1) = amK L c N j := by rw [amK, if_neg h]
theorem amK_few (L c N : Nat) : ∀ j, (amK L c N j).length ≤ j
  | 0 => Nat.le_refl _
  | j + 1 => by have := amK_few L c N j; unfold amK; split <;> simp <;> omega
theorem amK_is (L c N : Nat) : ∀ j, amK L c N j = (((List.range j).map fun i => N - 1 - i).filter fun m => popN 48 m == c).map fun m => opp (trueK L m L)
  | 0 => rfl
  | j + 1 => by
    rw [List.range_succ, List.map_append, List.filter_append, List.map_append, ← amK_is L c N j]
    by_cases h : popN 48 (N - 1 - j) = c
    · rw [amK_yes h]; simp [h]
    · rw [amK_no h]; simp [h]
theorem amK_cmb {L c : Nat} (hL : L ≤ 10) (hc : 1 ≤ c) : amK L c (2 ^ L) (2 ^ L - 1) = cmb L L c := by
  rw [← desc_cmb hL L c (Nat.le_refl _)]
  have hN : 0 < 2 ^ L := Nat.two_pow_pos L
  obtain ⟨N, hN2⟩ : ∃ N, N = 2 ^ L := ⟨_, rfl⟩
  rw [← hN2] at hN ⊢
  have hr : (List.range N).reverse = (List.range N).map fun i => N - 1 - i := by
    refine List.ext_getElem (by simp) fun i h1 h2 => ?_
    simp only [List.length_reverse, List.length_range] at h1
    rw [List.getElem_reverse, List.getElem_range, List.getElem_map, List.getElem_range, List.length_range]
  have h2 : amK L c N N = amK L c N (N - 1) := by
    obtain ⟨q, rfl⟩ : ∃ q, N = q + 1 := ⟨N - 1, by omega⟩
    rw [Nat.add_sub_cancel]
    refine amK_no ?_
    rw [Nat.add_sub_cancel, Nat.sub_self, popN_0]; omega
  have h3 : desc L L c = (((List.range (2 ^ L)).reverse).filter fun m => popN 48 m == c).map fun m => opp (trueK L m L) := by
    unfold desc
    refine List.map_congr_left fun m _ => ?_
    rw [low_all]
  rw [← h2, amK_is, ← hr, h3, hN2]
theorem cmb_mem {L : Nat} : ∀ d c T, d ≤ L → T ∈ cmb L d c → (∀ x ∈ T, ((L - d : Nat) : Int) + 1 ≤ -x ∧ -x ≤ (L : Int)) ∧ T.Pairwise (fun a b => -a < -b) ∧ T.length = c
  | d, 0, T, _, h => by
    rw [cmb_zero, List.mem_singleton] at h
    subst h; simp
  | 0, c + 1, T, _, h => by rw [cmb_none] at h; simp at h
  | d + 1, c + 1, T, hd, h => by
    rw [cmb_step, List.mem_append, List.mem_map] at h
    rcases h with ⟨T', h, rfl⟩ | h
    · obtain ⟨h1, h2, h3⟩ := cmb_mem d c T' (by omega) h
      refine ⟨fun x hx => ?_, List.pairwise_cons.2 ⟨fun x hx => ?_, h2⟩, by rw [List.length_cons, h3]⟩
      · rcases List.mem_cons.1 hx with rfl | hx
        · omega
        · have := h1 x hx; omega
      · have := h1 x hx; omega
    · obtain ⟨h1, h2, h3⟩ := cmb_mem d (c + 1) T (by omega) h
      exact ⟨fun x hx => by have := h1 x hx; omega, h2, h3⟩
theorem cmb_cl {L c : Nat} (h1 : 1 ≤ L) (hL : L ≤ 10) {T : List Int} (h : T ∈ cmb L L c) : ClOk (L : Int) T := by
  obtain ⟨a, b, -⟩ := cmb_mem L c T (Nat.le_refl _) h
  have e : ∀ x ∈ T, ltr x = -x := fun x hx => by have := a x hx; unfold ltr; rw [if_pos (by omega)]
  have m : ∀ i, (hi : i < T.length) → T.getD i 0 = T[i] := fun i hi => by simp [List.getD, hi]
  refine ⟨by omega, by omega, fun i hi => ?_, fun i j hij hj => ?_⟩
  · rw [m i hi, e _ (List.getElem_mem _)]
    have := a _ (List.getElem_mem hi)
    omega
  · rw [m i (by omega), m j hj, e _ (List.getElem_mem _), e _ (List.getElem_mem _)]
    exact (List.pairwise_iff_getElem.1 b) i j (by omega) hj hij
theorem getDL {X : List (List Int)} {k : Nat} (hk : k < X.length) : X.getD k [] = X[k] := by simp [List.getD, hk]
theorem cmb_form {L c n : Nat} (h1 : 1 ≤ L) (hL : L ≤ 10) : formB ⟨(L : Int), (cmb L L c).take n⟩ = decide (((cmb L L c).take n).length ≤ 48) := by
  unfold formB
  have a : inB (L : Int) 1 10 = true := by unfold inB; rw [decide_eq_true (by omega), decide_eq_true (by omega)]; rfl
  have b : allCl (L : Int) ((cmb L L c).take n) = true := allCl_yes fun k hk => by
    refine clB_of (cmb_cl (c := c) h1 hL ?_)
    rw [getDL hk]
    exact List.mem_of_mem_take (List.getElem_mem hk)
  show (inB (L : Int) 1 10 && (decide (((cmb L L c).take n).length ≤ 48) && allCl (L : Int) ((cmb L L c).take n))) = _
  rw [a, b, Bool.true_and, Bool.and_true]
def amB (n m : Int) : Bool := inB n 1 10 && (inB m 0 n && decide ((cmb n.toNat n.toNat (m.toNat + 1)).length ≤ 48))
def amF (n m : Int) : Fm := if amB n m then ⟨n, cmb n.toNat n.toNat (m.toNat + 1)⟩ else ⟨0, []⟩
theorem amF_no {n m : Int} (h : amB n m = false) : amF n m = ⟨0, []⟩ := by unfold amF; rw [h]; rfl
theorem amF_yes {n m : Int} (h : amB n m = true) : amF n m = ⟨n, cmb n.toNat n.toNat (m.toNat + 1)⟩ := by unfold amF; rw [if_pos h]
theorem amF_len (n m : Int) : szL (amF n m).cs ≤ 1048576 := by
  unfold amF
  split
  · rename_i h
    unfold amB at h
    simp only [Bool.and_eq_true, decide_eq_true_eq] at h
    have hn := inB_ok h.1
    have hl := h.2.2
    have each : ∀ i, i < (cmb n.toNat n.toNat (m.toNat + 1)).length → ((cmb n.toNat n.toNat (m.toNat + 1)).getD i []).length ≤ 10 := fun i hi => by
      rw [getDL hi]
      have h4 := (cmb_cl (L := n.toNat) (by omega) (by omega) (List.getElem_mem hi)).len
      rw [Int.toNat_natCast] at h4
      omega
    have ht : ∀ k, k ≤ (cmb n.toNat n.toNat (m.toNat + 1)).length → totAt (cmb n.toNat n.toNat (m.toNat + 1)) k ≤ 10 * k := by
      intro k
      induction k with
      | zero => intro _; exact Nat.le_refl _
      | succ k ih =>
        intro hk
        have := ih (by omega)
        have := each k (by omega)
        show totAt _ k + ((cmb n.toNat n.toNat (m.toNat + 1)).getD k []).length ≤ _
        omega
    have := ht _ (Nat.le_refl _)
    show szL (cmb n.toNat n.toNat (m.toNat + 1)) ≤ _
    unfold szL
    omega
  · simp [szL, totAt]
end Go.Proofs.Ytnakpfbeeekmiaa
