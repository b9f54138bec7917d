/- Bins by the first fit: what they are (plain). -/
import Derived.Test.YtbaaocgdpgoggaaPb0
import Derived.Test.YtbaaocgdpgoggaaFits
namespace Go.Proofs.Ytbaaocgdpgoggaa

/-- The first bin with so much room, or their number. -/
def fiB (q : Nat) : List Nat → Nat
  | [] => 0
  | x :: L => if q ≤ x then 0 else fiB q L + 1
theorem fiB_le (q : Nat) : ∀ L, fiB q L ≤ L.length
  | [] => Nat.le_refl _
  | x :: L => by
    unfold fiB
    split
    · exact Nat.zero_le _
    · have := fiB_le q L; simp; omega
theorem fiB_is {q : Nat} : ∀ {L : List Nat} {k : Nat}, k < L.length → q ≤ L.getD k 0 → (∀ j, j < k → L.getD j 0 < q) → fiB q L = k
  | [], _, h, _, _ => by simp at h
  | x :: L, 0, _, h, _ => by
    have : q ≤ x := by simpa using h
    exact if_pos this
  | x :: L, k + 1, hk, h, hn => by
    have h0 := hn 0 (by omega)
    have h1 : ¬ q ≤ x := by simp at h0; omega
    have := fiB_is (L := L) (k := k) (by simpa using hk) (by simpa using h) (fun j hj => by have := hn (j + 1) (by omega); simpa using this)
    show (if q ≤ x then 0 else fiB q L + 1) = k + 1
    rw [if_neg h1, this]
theorem fiB_none {q : Nat} : ∀ {L : List Nat}, (∀ j, j < L.length → L.getD j 0 < q) → fiB q L = L.length
  | [], _ => rfl
  | x :: L, hn => by
    have h0 := hn 0 (by simp)
    have h1 : ¬ q ≤ x := by simp at h0; omega
    have := fiB_none (L := L) (fun j hj => by have := hn (j + 1) (by simpa using hj); simpa using this)
    show (if q ≤ x then 0 else fiB q L + 1) = L.length + 1
    rw [if_neg h1, this]
theorem fiB_room {q : Nat} : ∀ {L : List Nat}, fiB q L < L.length → q ≤ L.getD (fiB q L) 0
  | [], h => by simp [fiB] at h
  | x :: L, h => by
    by_cases hx : q ≤ x
    · have : fiB q (x :: L) = 0 := if_pos hx
      rw [this]; simpa using hx
    · have e : fiB q (x :: L) = fiB q L + 1 := if_neg hx
      rw [e] at h ⊢
      have := fiB_room (L := L) (by simpa using h)
      simpa using this
/-- The bins, one more if none has room. -/
def wideL (r q : Nat) (L : List Nat) : List Nat := if fiB q L < L.length then L else L ++ [r]
theorem wideL_in (r q : Nat) (L : List Nat) : fiB q L < (wideL r q L).length := by
  unfold wideL
  split
  · assumption
  · have := fiB_le q L; simp; omega
theorem wideL_room {r q : Nat} {L : List Nat} (h : q ≤ r) : q ≤ (wideL r q L).getD (fiB q L) 0 := by
  unfold wideL
  split
  · rename_i h1; exact fiB_room h1
  · rename_i h1
    have : fiB q L = L.length := by have := fiB_le q L; omega
    rw [this]; simpa using h
theorem wideL_most {r q : Nat} {L : List Nat} (h : ∀ j, j < L.length → L.getD j 0 ≤ r) : ∀ j, j < (wideL r q L).length → (wideL r q L).getD j 0 ≤ r := by
  unfold wideL
  split
  · exact h
  · intro j hj
    by_cases e : j < L.length
    · have := h j e
      simpa [List.getD, e, List.getElem?_append_left e] using this
    · have : j = L.length := by simp at hj; omega
      subst this; simp
theorem wideL_len (r q : Nat) (L : List Nat) : (wideL r q L).length ≤ L.length + 1 := by
  unfold wideL
  split <;> simp
def putB (r q : Nat) (L : List Nat) : List Nat := (wideL r q L).set (fiB q L) ((wideL r q L).getD (fiB q L) 0 - q)
theorem putB_len (r q : Nat) (L : List Nat) : (putB r q L).length ≤ L.length + 1 := by unfold putB; rw [List.length_set]; exact wideL_len r q L
theorem set_at {L : List Nat} {k x : Nat} (h : k < L.length) (j : Nat) : (L.set k x).getD j 0 = if j = k then x else L.getD j 0 := by
  simp only [List.getD, List.getElem?_set]
  by_cases e : k = j
  · subst e; simp [h]
  · rw [if_neg e, if_neg (fun q => e q.symm)]
theorem putB_most {r q : Nat} {L : List Nat} (h : ∀ j, j < L.length → L.getD j 0 ≤ r) : ∀ j, j < (putB r q L).length → (putB r q L).getD j 0 ≤ r := by
  intro j hj
  unfold putB at hj ⊢
  rw [List.length_set] at hj
  have hw := wideL_most (q := q) h
  rw [set_at (wideL_in r q L)]
  split
  · have := hw _ (wideL_in r q L); omega
  · exact hw j hj
/-- The room that is left in the bins behind a list of things. -/
def fbL (S : List Int) (r : Nat) : List Nat → List Nat → List Nat
  | [], L => L
  | i :: Y, L => fbL S r Y (putB r (szN S i) L)
/-- The things' bins. -/
def fbZ (S : List Int) (r : Nat) : List Nat → List Nat → List Int → List Int
  | [], _, Z => Z
  | i :: Y, L, Z => fbZ S r Y (putB r (szN S i) L) (Z.set i (fiB (szN S i) L : Nat))
theorem fbL_end {S : List Int} {r k : Nat} {Y L : List Nat} (h : k = Y.length) : fbL S r (Y.drop k) L = L := by subst h; rw [List.drop_length]; rfl
theorem fbZ_end {S : List Int} {r k : Nat} {Y L : List Nat} {Z : List Int} (h : k = Y.length) : fbZ S r (Y.drop k) L Z = Z := by subst h; rw [List.drop_length]; rfl
theorem fbL_on {S : List Int} {r k : Nat} {Y L : List Nat} (h : k < Y.length) : fbL S r (Y.drop k) L = fbL S r (Y.drop (k + 1)) (putB r (szN S (Y.getD k 0)) L) := by rw [drop_cons h]; rfl
theorem fbZ_on {S : List Int} {r k : Nat} {Y L : List Nat} {Z : List Int} (h : k < Y.length) : fbZ S r (Y.drop k) L Z = fbZ S r (Y.drop (k + 1)) (putB r (szN S (Y.getD k 0)) L) (Z.set (Y.getD k 0) (fiB (szN S (Y.getD k 0)) L : Nat)) := by rw [drop_cons h]; rfl
theorem fbZ_len {S : List Int} {r : Nat} : ∀ {Y L : List Nat} {Z : List Int}, (fbZ S r Y L Z).length = Z.length
  | [], _, _ => rfl
  | i :: Y, L, Z => by unfold fbZ; rw [fbZ_len, List.length_set]
/-- The things, the greatest one first. -/
def fbO (S : List Int) : List Nat := ordN (ltC fun x y => cmpI (S.getD y 0) (S.getD x 0)) S.length
theorem fbO_len (S : List Int) : (fbO S).length = S.length := ordN_len _ _
theorem fbO_lt {S : List Int} {k : Nat} (h : k < S.length) : (fbO S).getD k 0 < S.length := ordN_lt _ h
theorem fbO_ones {S K : List Int} (h : ∀ i, i < S.length → K.getD i 0 = 1) : ordN (ltQ (fun i => K.getD i 0) (fun i => S.getD i 0)) S.length = fbO S := by
  unfold fbO
  refine ordN_congr fun x y hx hy => ?_
  show decide (S.getD y 0 * K.getD x 0 < S.getD x 0 * K.getD y 0) = decide (cmpI (S.getD y 0) (S.getD x 0) < 0)
  rw [h x hx, h y hy, cmpI_neg, Int.mul_one, Int.mul_one]
def fbA (S : List Int) (r : Int) : List Int := if fitsB S r then fbZ S r.toNat (fbO S) [] (List.replicate S.length 0) else []
def fbN (S : List Int) (r : Int) : Int := if fitsB S r then ((fbL S r.toNat (fbO S) []).length : Nat) else 0
theorem fbA_no {S : List Int} {r : Int} (h : fitsB S r = false) : fbA S r = [] := by unfold fbA; rw [h]; rfl
theorem fbN_no {S : List Int} {r : Int} (h : fitsB S r = false) : fbN S r = 0 := by unfold fbN; rw [h]; rfl
theorem fbA_yes {S : List Int} {r : Nat} (h : fitsB S r = true) : fbA S r = fbZ S r (fbO S) [] (List.replicate S.length 0) := by unfold fbA; rw [if_pos h, Int.toNat_natCast]
theorem fbN_yes {S : List Int} {r : Nat} (h : fitsB S r = true) : fbN S r = ((fbL S r (fbO S) []).length : Nat) := by unfold fbN; rw [if_pos h, Int.toNat_natCast]
theorem fbA_len (S : List Int) (r : Int) : (fbA S r).length ≤ 1048576 := by
  unfold fbA
  split
  · rename_i h
    have := (sizesB_ok (fits_ok h).1).l2
    rw [fbZ_len, List.length_replicate]; omega
  · simp
structure FbOk (S : List Int) (r : Nat) : Prop where
  n1 : 1 ≤ S.length
  n2 : S.length ≤ 16
  r2 : r ≤ 1000
  s : ∀ i, i < S.length → S.getD i 0 = (szN S i : Int) ∧ 1 ≤ szN S i ∧ szN S i ≤ r
theorem fits_fb {S : List Int} {r : Nat} (h : fitsB S r = true) : FbOk S r := by
  obtain ⟨h1, h2, h3⟩ := fits_ok h
  have k1 := sizesB_ok h1
  have k2 := inB_ok h2
  have k3 := leB_all h3
  refine ⟨k1.l1, k1.l2, by omega, fun i hi => ?_⟩
  have a := k1.a i hi
  have b := k3 i hi
  unfold szN
  exact ⟨by omega, by omega, by omega⟩
theorem FbOk.sAll {S : List Int} {r : Nat} (h : FbOk S r) (i : Nat) : 0 ≤ S.getD i 0 ∧ S.getD i 0 ≤ 1000 := by
  by_cases hi : i < S.length
  · have := h.s i hi
    have := h.r2
    omega
  · rw [List.getD, List.getElem?_eq_none (by omega)]; simp
end Go.Proofs.Ytbaaocgdpgoggaa
