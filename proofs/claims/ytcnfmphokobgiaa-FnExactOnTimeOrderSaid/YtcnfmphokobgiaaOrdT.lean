/- Orders by a key, the first of equal ones first: what they are, plainly. -/
import Derived.Test.YtcnfmphokobgiaaIns1
namespace Go.Proofs.Ytcnfmphokobgiaa
open Go.RowKit Go.ChangeShapes Go.WideShapes

/-- x comes before y: by the key, then by the index. -/
def Bef (key : Nat → Int) (x y : Nat) : Prop := key x < key y ∨ (key x = key y ∧ x < y)
theorem Bef.trans {key : Nat → Int} {x y z : Nat} (h : Bef key x y) (k : Bef key y z) : Bef key x z := by
  unfold Bef at *; omega
theorem Bef.asymm {key : Nat → Int} {x y : Nat} (h : Bef key x y) (k : Bef key y x) : False := by
  unfold Bef at *; omega
/-- The insertion, told of lists: x goes behind all that are not greater. -/
def put (key : Nat → Int) (x : Nat) : List Nat → List Nat
  | [] => [x]
  | y :: l => if key x < key y then x :: y :: l else y :: put key x l
theorem put_mem {key : Nat → Int} {x z : Nat} : ∀ l, z ∈ put key x l ↔ z = x ∨ z ∈ l
  | [] => by simp [put]
  | y :: l => by
    unfold put
    split
    · simp
    · simp only [List.mem_cons, put_mem l]; grind
theorem put_sorted {key : Nat → Int} {x : Nat} : ∀ l, l.Pairwise (Bef key) → (∀ y ∈ l, y < x) → (put key x l).Pairwise (Bef key)
  | [], _, _ => by simp [put]
  | y :: l, h, hx => by
    rw [List.pairwise_cons] at h
    unfold put
    split
    · rename_i hlt
      rw [List.pairwise_cons, List.pairwise_cons]
      refine ⟨fun z hz => ?_, h.1, h.2⟩
      rcases List.mem_cons.1 hz with rfl | hz
      · exact Or.inl hlt
      · exact Bef.trans (Or.inl hlt) (h.1 z hz)
    · rename_i hlt
      rw [List.pairwise_cons]
      refine ⟨fun z hz => ?_, put_sorted l h.2 fun z hz => hx z (List.mem_cons_of_mem _ hz)⟩
      rcases (put_mem l).1 hz with rfl | hz
      · have := hx y List.mem_cons_self
        unfold Bef; omega
      · exact h.1 z hz
/-- Two lists in order that hold the same are the same. -/
theorem sorted_same {key : Nat → Int} {A B : List Nat} (hA : A.Pairwise (Bef key)) (hB : B.Pairwise (Bef key)) (h : ∀ x, x ∈ A ↔ x ∈ B) : A = B := by
  induction A generalizing B with
  | nil =>
    cases B with
    | nil => rfl
    | cons b B => have := (h b).2 List.mem_cons_self; simp at this
  | cons a A ih =>
    cases B with
    | nil => have := (h a).1 List.mem_cons_self; simp at this
    | cons b B =>
      rw [List.pairwise_cons] at hA hB
      have hab : a = b := by
        have h1 := (h a).1 List.mem_cons_self
        have h2 := (h b).2 List.mem_cons_self
        rcases List.mem_cons.1 h1 with e | h1
        · exact e
        · rcases List.mem_cons.1 h2 with e | h2
          · exact e.symm
          · exact (Bef.asymm (hA.1 b h2) (hB.1 a h1)).elim
      subst hab
      congr 1
      refine ih hA.2 hB.2 fun x => ⟨fun hx => ?_, fun hx => ?_⟩
      · rcases List.mem_cons.1 ((h x).1 (List.mem_cons_of_mem _ hx)) with rfl | hx'
        · exact (Bef.asymm (hA.1 x hx) (hA.1 x hx)).elim
        · exact hx'
      · rcases List.mem_cons.1 ((h x).2 (List.mem_cons_of_mem _ hx)) with rfl | hx'
        · exact (Bef.asymm (hB.1 x hx) (hB.1 x hx)).elim
        · exact hx'

/-! ### insI is that insertion -/
/-- Places of a list that swN turns. -/
def ordB (key : Nat → Int) : Nat → List Nat
  | 0 => []
  | i + 1 => put key i (ordB key i)
theorem ordB_mem {key : Nat → Int} {x : Nat} : ∀ n, x ∈ ordB key n ↔ x < n
  | 0 => by simp [ordB]
  | n + 1 => by unfold ordB; rw [put_mem, ordB_mem n]; omega
theorem ordB_sorted (key : Nat → Int) : ∀ n, (ordB key n).Pairwise (Bef key)
  | 0 => List.Pairwise.nil
  | n + 1 => put_sorted _ (ordB_sorted key n) fun _ hy => (ordB_mem n).1 hy
theorem put_snoc {key : Nat → Int} {x y : Nat} : ∀ l, (∀ z ∈ l, ¬ key y < key z) → put key x (l ++ [y]) = if key x < key y then put key x l ++ [y] else l ++ [y, x]
  | [], _ => by simp only [List.nil_append, put]; split <;> rfl
  | z :: l, h => by
    have hz := h z List.mem_cons_self
    have ih := put_snoc (key := key) (x := x) (y := y) l fun u hu => h u (List.mem_cons_of_mem _ hu)
    show (if key x < key z then x :: z :: (l ++ [y]) else z :: put key x (l ++ [y])) = _
    by_cases h1 : key x < key z
    · rw [if_pos h1, if_pos (by omega)]
      show _ = (if key x < key z then x :: z :: l else z :: put key x l) ++ [y]
      rw [if_pos h1]; rfl
    · rw [if_neg h1, ih]
      by_cases h2 : key x < key y
      · rw [if_pos h2, if_pos h2]
        show _ = (if key x < key z then x :: z :: l else z :: put key x l) ++ [y]
        rw [if_neg h1]; rfl
      · rw [if_neg h2, if_neg h2]; rfl
theorem insI_app (key : Nat → Int) : ∀ (A : List Nat) (x : Nat) (T : List Nat), A.Pairwise (fun a b => ¬ key b < key a) → insI (ltK key) A.length (A ++ x :: T) = put key x A ++ T := by
  intro A
  obtain ⟨n, hn⟩ : ∃ n, A.length = n := ⟨_, rfl⟩
  induction n generalizing A with
  | zero =>
    intro x T _
    obtain rfl := List.eq_nil_of_length_eq_zero hn
    rfl
  | succ n ih =>
    intro x T hp
    obtain ⟨B, y, rfl⟩ : ∃ B y, A = B ++ [y] := ⟨A.dropLast, A.getLast (by intro e; rw [e] at hn; simp at hn), (List.dropLast_concat_getLast _).symm⟩
    have hB : B.length = n := by simpa using hn
    rw [List.pairwise_append] at hp
    have g1 : (B ++ [y] ++ x :: T).getD (n + 1) 0 = x := by simp [List.getD, ← hB]
    have g0 : (B ++ [y] ++ x :: T).getD n 0 = y := by simp [List.getD, ← hB]
    rw [hn]
    rw [put_snoc B fun z hz => hp.2.2 z hz y (by simp)]
    show (if ltK key ((B ++ [y] ++ x :: T).getD (n + 1) 0) ((B ++ [y] ++ x :: T).getD n 0) then insI (ltK key) n (swN (B ++ [y] ++ x :: T) (n + 1)) else B ++ [y] ++ x :: T) = _
    rw [g1, g0]
    have hk : (ltK key x y = true) ↔ key x < key y := by unfold ltK; simp
    by_cases h : key x < key y
    · rw [if_pos (hk.2 h), if_pos h]
      have hs : swN (B ++ [y] ++ x :: T) (n + 1) = B ++ x :: (y :: T) := by
        unfold swN
        rw [g1, show n + 1 - 1 = n from rfl, g0]
        subst hB
        simp
      rw [hs, ← hB]
      have := ih B hB x (y :: T) hp.1
      rw [this]
      simp
    · rw [if_neg (fun e => h (hk.1 e)), if_neg h]
      simp
theorem insS_is (key : Nat → Int) (n : Nat) : ∀ i, i ≤ n → insS (ltK key) n i = ordB key i ++ (List.range n).drop i
  | 0, _ => by simp [insS, ordB]
  | i + 1, h => by
    have ih := insS_is key n i (by omega)
    have hl : (ordB key i).length = i := by
      have a := insS_len (ltK key) n i
      rw [ih, List.length_append, List.length_drop, List.length_range] at a
      omega
    show insI (ltK key) i (insS (ltK key) n i) = _
    have hd : (List.range n).drop i = i :: (List.range n).drop (i + 1) := by
      rw [List.drop_eq_getElem_cons (by simp; omega)]
      simp
    rw [ih, hd]
    have hp : (ordB key i).Pairwise (fun a b => ¬ key b < key a) := (ordB_sorted key i).imp fun {a b} hab => by unfold Bef at hab; omega
    have := insI_app key (ordB key i) i ((List.range n).drop (i + 1)) hp
    rw [hl] at this
    exact this
theorem ordN_is (key : Nat → Int) (n : Nat) : ordN (ltK key) n = ordB key n := by
  have := insS_is key n n (Nat.le_refl n)
  rw [List.drop_eq_nil_of_le (by simp), List.append_nil] at this
  exact this
theorem ordN_mem {key : Nat → Int} {n x : Nat} : x ∈ ordN (ltK key) n ↔ x < n := by rw [ordN_is]; exact ordB_mem n
theorem ordN_sorted (key : Nat → Int) (n : Nat) : (ordN (ltK key) n).Pairwise (Bef key) := by rw [ordN_is]; exact ordB_sorted key n
/-- What is first in order, and then the others in theirs, is in order. -/
theorem ordN_join {key k1 k2 : Nat → Int} {p : Nat → Bool} {n : Nat} (h1 : ∀ x, x < n → p x = true → key x = k1 x)
    (s2 : ∀ x y, x < n → y < n → p x = false → p y = false → (k2 x < k2 y ↔ key x < key y) ∧ (k2 x = k2 y ↔ key x = key y))
    (s12 : ∀ x y, x < n → y < n → p x = true → p y = false → key x < key y) :
    (ordN (ltK k1) n).filter p ++ (ordN (ltK k2) n).filter (fun x => !p x) = ordN (ltK key) n := by
  refine sorted_same (key := key) ?_ (ordN_sorted key n) fun x => ?_
  · rw [List.pairwise_append]
    refine ⟨?_, ?_, fun x hx y hy => ?_⟩
    · refine List.Pairwise.imp_of_mem ?_ ((ordN_sorted k1 n).filter p)
      intro a b ha hb hab
      rw [List.mem_filter, ordN_mem] at ha hb
      have e1 := h1 a ha.1 ha.2
      have e2 := h1 b hb.1 hb.2
      unfold Bef at *
      omega
    · refine List.Pairwise.imp_of_mem ?_ ((ordN_sorted k2 n).filter _)
      intro a b ha hb hab
      rw [List.mem_filter, ordN_mem] at ha hb
      have e1 := s2 a b ha.1 hb.1 (by simpa using ha.2) (by simpa using hb.2)
      unfold Bef at *
      rcases hab with h | ⟨h, h'⟩
      · exact Or.inl (e1.1.1 h)
      · exact Or.inr ⟨e1.2.1 h, h'⟩
    · rw [List.mem_filter, ordN_mem] at hx hy
      exact Or.inl (s12 x y hx.1 hy.1 hx.2 (by simpa using hy.2))
  · rw [List.mem_append, List.mem_filter, List.mem_filter, ordN_mem, ordN_mem, ordN_mem]
    cases p x <;> simp
end Go.Proofs.Ytcnfmphokobgiaa
