/- The journal that is recovered (plain). -/
import Derived.Test.YtcgdkjbbdpmmhaaDoorLn0
import Derived.Test.YtcgdkjbbdpmmhaaDoorJo0
namespace Go.Proofs.YtcgdkjbbdpmmhaaDoor
open Go

theorem dec_no (u : Nat) : ∀ x ∈ Lib.decDigits u, x ≠ 32 ∧ x ≠ 10 := by
  induction u using Nat.strongRecOn with
  | _ u ih =>
    have hn : ∀ q, q < 10 → UInt8.ofNat (48 + q) ≠ 32 ∧ UInt8.ofNat (48 + q) ≠ 10 := fun q hq => by
      have e : (UInt8.ofNat (48 + q)).toNat = 48 + q := by
        rw [UInt8.toNat_ofNat', show (2 ^ 8 : Nat) = 256 from rfl]; omega
      exact ⟨fun h => by rw [h] at e; have e2 : (32 : UInt8).toNat = 32 := rfl; omega, fun h => by rw [h] at e; have e2 : (10 : UInt8).toNat = 10 := rfl; omega⟩
    intro x hx
    by_cases h : u < 10
    · rw [dec_small h] at hx
      rw [List.mem_singleton.1 hx]
      exact hn u h
    · rw [dec_big h] at hx
      rcases List.mem_append.1 hx with hx | hx
      · exact ih (u / 10) (by omega) x hx
      · rw [List.mem_singleton.1 hx]
        exact hn _ (by omega)
theorem itoa_no {c : Int} (h : 0 ≤ c) : ∀ x ∈ Lib.itoa c, x ≠ 32 ∧ x ≠ 10 := by
  rw [itoa_pos (by omega)]
  exact dec_no _
/-- Line k. -/
def lnK (Y : List ByteArray) (k : Nat) : ByteArray := Y.getD k (bsOf [])
/-- The check number behind k lines. -/
def rC (Y : List ByteArray) : Nat → Int
  | 0 => 0
  | k + 1 => chkTo (rC Y k) (aftB (lnK Y k)) (aftB (lnK Y k)).size
theorem rC_in (Y : List ByteArray) : ∀ k, 0 ≤ rC Y k ∧ rC Y k < 65003
  | 0 => by unfold rC; omega
  | k + 1 => chkTo_in _ _ (rC_in Y k).1 (rC_in Y k).2 _ (Nat.le_refl _)
/-- Is line k the entry that it must be? -/
def rG (Y : List ByteArray) (k : Nat) : Bool := decide ((lnK Y k).data.toList ++ [10] = jEnt (rC Y (k + 1)) (aftB (lnK Y k)))
theorem rG_iff (Y : List ByteArray) (k : Nat) : rG Y k = true ↔ 32 ∈ (lnK Y k).data.toList ∧ befL (lnK Y k).data.toList = Lib.itoa (rC Y (k + 1)) := by
  unfold rG jEnt
  rw [decide_eq_true_eq, aftB_data]
  have hno := itoa_no (rC_in Y (k + 1)).1
  generalize (lnK Y k).data.toList = l
  generalize Lib.itoa (rC Y (k + 1)) = I at *
  constructor
  · intro h
    have h1 : l = I ++ [32] ++ aftL l := List.append_inj_left' h rfl
    have hm : 32 ∈ l := by rw [h1]; simp
    refine ⟨hm, ?_⟩
    have h2 := (bef_of (a := I) (aftL l) (fun x hx => (hno x hx).1)).1
    rw [List.append_assoc] at h1
    have h3 : I ++ 32 :: aftL l = l := h1.symm
    rw [h3] at h2
    exact h2
  · rintro ⟨h1, h2⟩
    have h3 := bef_aft h1
    rw [← h2]
    have : befL l ++ [32] ++ aftL l = l := by rw [List.append_assoc]; exact h3.symm
    rw [this]
/-- How many lines are entries, of those from k on. -/
def rF (Y : List ByteArray) : Nat → Nat → Nat
  | 0, k => k
  | f + 1, k => if rG Y k then rF Y f (k + 1) else k
def rN (Y : List ByteArray) : Nat := rF Y (Y.length - 1) 0
theorem rF_of {Y : List ByteArray} : ∀ (f k n : Nat), k ≤ n → n ≤ k + f → (∀ j, k ≤ j → j < n → rG Y j = true) → (n = k + f ∨ rG Y n = false) → rF Y f k = n
  | 0, k, n, h1, h2, _, _ => by unfold rF; omega
  | f + 1, k, n, h1, h2, h3, h4 => by
    unfold rF
    by_cases e : n = k
    · subst e
      rcases h4 with h4 | h4
      · omega
      · rw [h4]; rfl
    · rw [if_pos (h3 k (Nat.le_refl _) (by omega))]
      exact rF_of f (k + 1) n (by omega) (by omega) (fun j a b => h3 j (by omega) b) (h4.imp (fun h => by omega) id)
theorem rN_of {Y : List ByteArray} {M n : Nat} (hM : M + 1 = Y.length) (hn : n ≤ M) (h : ∀ j, j < n → rG Y j = true) (h2 : n = M ∨ rG Y n = false) : rN Y = n := by
  unfold rN
  rw [show Y.length - 1 = M by omega]
  exact rF_of M 0 n (Nat.zero_le _) (by omega) (fun j _ hj => h j hj) (h2.imp (fun h => by omega) id)
/-- The lines of the first k entries. -/
def rL (Y : List ByteArray) (k : Nat) : List ByteArray := (List.range k).map fun i => aftB (lnK Y i)
theorem rL_len (Y : List ByteArray) (k : Nat) : (rL Y k).length = k := by simp [rL]
theorem rL_succ (Y : List ByteArray) (k : Nat) : rL Y (k + 1) = rL Y k ++ [aftB (lnK Y k)] := by simp [rL, List.range_succ]
theorem rL_at {Y : List ByteArray} {k i : Nat} (h : i < k) : (rL Y k).getD i (bsOf []) = aftB (lnK Y i) := by simp [rL, List.getD, h]
/-- How long they are. -/
def rS (Y : List ByteArray) : Nat → Nat
  | 0 => 0
  | k + 1 => rS Y k + ((lnK Y k).size + 1)
theorem rS_le {Y : List ByteArray} {S : Nat} (h : ∀ k, (lnK Y k).size ≤ S) : ∀ k, rS Y k ≤ k * (S + 1)
  | 0 => by simp [rS]
  | k + 1 => by
    have h1 := rS_le h k
    have h2 := h k
    unfold rS
    rw [Nat.succ_mul]
    omega
theorem aftL_len : ∀ l : List UInt8, (aftL l).length ≤ l.length
  | [] => by simp [aftL]
  | c :: r => by
    unfold aftL
    split
    · simp
    · exact Nat.le_trans (aftL_len r) (by simp)
theorem aftB_size (s : ByteArray) : (aftB s).size ≤ s.size := by
  unfold aftB
  rw [bs_size]
  exact Nat.le_trans (aftL_len _) (by rw [Array.length_toList]; exact Nat.le_refl _)
theorem spl_part : ∀ (l : List UInt8) (p : List UInt8), p ∈ spl l → p.length ≤ l.length ∧ ∀ x ∈ p, x ≠ 10
  | [], p, h => by simp [spl] at h; subst h; simp
  | c :: r, p, h => by
    unfold spl at h
    split at h
    · rcases List.mem_cons.1 h with e | e
      · subst e; simp
      · obtain ⟨h1, h2⟩ := spl_part r p e
        exact ⟨by rw [List.length_cons]; omega, h2⟩
    · rename_i hc
      obtain ⟨q, qs, hq⟩ : ∃ q qs, spl r = q :: qs := by
        cases hb : spl r with
        | nil => exact absurd hb (spl_ne r)
        | cons q qs => exact ⟨q, qs, rfl⟩
      rw [hq] at h
      simp only at h
      rcases List.mem_cons.1 h with e | e
      · obtain ⟨h1, h2⟩ := spl_part r q (by rw [hq]; simp)
        subst e
        refine ⟨by rw [List.length_cons, List.length_cons]; omega, fun x hx => ?_⟩
        rcases List.mem_cons.1 hx with e2 | e2
        · rw [e2]; exact hc
        · exact h2 x e2
      · obtain ⟨h1, h2⟩ := spl_part r p (by rw [hq]; simp [e])
        exact ⟨by rw [List.length_cons]; omega, h2⟩
theorem lnK_data {s : ByteArray} (k : Nat) : (lnK (lnY s) k).data.toList = (spl s.data.toList).getD k [] := by
  rw [← lnY_spl]
  unfold lnK
  by_cases hk : k < (lnY s).length
  · simp [List.getD, hk]
  · simp [List.getD, Nat.not_lt.1 hk, bsOf]
theorem lnK_in (s : ByteArray) (k : Nat) : (lnK (lnY s) k).size ≤ s.size ∧ ∀ x ∈ (lnK (lnY s) k).data.toList, x ≠ 10 := by
  have e : (lnK (lnY s) k).size = (lnK (lnY s) k).data.toList.length := Array.length_toList.symm
  have e2 : s.size = s.data.toList.length := Array.length_toList.symm
  rw [e, e2, lnK_data]
  by_cases hk : k < (spl s.data.toList).length
  · rw [show (spl s.data.toList).getD k [] = (spl s.data.toList)[k] by simp [List.getD, hk]]
    exact spl_part _ _ (List.getElem_mem _)
  · simp [List.getD, Nat.not_lt.1 hk]
/-- What is told of the lines, one after another. -/
def toldY (s : ByteArray) : List (List UInt8) := lins s.data.toList
theorem toldY_at {s : ByteArray} {M k : Nat} {C : List UInt8} {pre : List (List UInt8)} (hM : M + 1 = (lnY s).length) (h : pre ++ [C] <+: toldY s) (hk : pre.length = k) (hkM : k ≤ M) :
    (k < M ∧ C = (lnK (lnY s) k).data.toList ++ [10]) ∨ (k = M ∧ C = (lnK (lnY s) k).data.toList ∧ C ≠ []) := by
  have hMl : (spl s.data.toList).length = M + 1 := by rw [← lnY_spl, List.length_map, hM]
  have hC : (toldY s)[k]? = some C := by
    obtain ⟨t, ht⟩ := h
    rw [← ht, List.append_assoc, List.getElem?_append_right (by omega), hk, Nat.sub_self]
    rfl
  unfold toldY lins at hC
  rw [hMl, Nat.add_sub_cancel] at hC
  rw [lnK_data]
  rcases Nat.lt_or_ge k M with hlt | hge
  · refine Or.inl ⟨hlt, ?_⟩
    rw [List.getElem?_append_left (by rw [List.length_map, List.length_take]; omega), List.getElem?_map, List.getElem?_take_of_lt hlt, List.getElem?_eq_getElem (by omega)] at hC
    injection hC with hC
    rw [← hC]
    simp [List.getD, show k < (spl s.data.toList).length by omega]
  · obtain rfl : k = M := by omega
    refine Or.inr ⟨rfl, ?_⟩
    rw [List.getElem?_append_right (by rw [List.length_map, List.length_take]; omega), List.length_map, List.length_take, Nat.min_eq_left (by omega), Nat.sub_self] at hC
    split at hC
    · simp at hC
    · rename_i hne
      simp only [List.getElem?_cons_zero] at hC
      injection hC with hC
      rw [← hC]
      exact ⟨rfl, hne⟩
theorem toldY_end {s : ByteArray} {M : Nat} (hM : M + 1 = (lnY s).length) : M ≤ (toldY s).length := by
  have hMl : (spl s.data.toList).length = M + 1 := by rw [← lnY_spl, List.length_map, hM]
  unfold toldY lins
  rw [List.length_append, List.length_map, List.length_take, hMl]
  omega
end Go.Proofs.YtcgdkjbbdpmmhaaDoor
