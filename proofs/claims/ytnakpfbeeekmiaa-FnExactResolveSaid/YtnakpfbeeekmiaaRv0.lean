/- What two clauses tell without a letter (plain). -/
import Derived.Test.YtnakpfbeeekmiaaCl0
import Derived.Test.YtnakpfbeeekmiaaInS
import Derived.Test.YtnakpfbeeekmiaaMs
namespace Go.Proofs.Ytnakpfbeeekmiaa

/-- A literal is put into a list in order; none where its opposite is there. -/
def jnL : List Int → Int → Option (List Int)
  | [], y => some [y]
  | t :: T, y => if ltr t < ltr y then (jnL T y).map (fun R => t :: R) else if ltr t = ltr y then (if t = y then some (t :: T) else none) else some (y :: t :: T)
theorem jnL_lt {t y : Int} {T : List Int} (h : ltr t < ltr y) : jnL (t :: T) y = (jnL T y).map (fun R => t :: R) := by
  show (if ltr t < ltr y then _ else _) = _
  rw [if_pos h]
theorem jnL_eq {t y : Int} {T : List Int} (h : ltr t = ltr y) : jnL (t :: T) y = if t = y then some (t :: T) else none := by
  show (if ltr t < ltr y then _ else if ltr t = ltr y then _ else _) = _
  rw [if_neg (by omega), if_pos h]
theorem jnL_gt {t y : Int} {T : List Int} (h : ltr y < ltr t) : jnL (t :: T) y = some (y :: t :: T) := by
  show (if ltr t < ltr y then _ else if ltr t = ltr y then _ else _) = _
  rw [if_neg (by omega), if_neg (by omega)]
theorem jnL_drop {y : Int} : ∀ (k : Nat) (T : List Int), k ≤ T.length → (∀ j, j < k → ltr (T.getD j 0) < ltr y) → jnL T y = (jnL (T.drop k) y).map (fun R => T.take k ++ R)
  | 0, T, _, _ => by simp
  | k + 1, [], h, _ => by simp at h
  | k + 1, t :: T, h, hj => by
    have h0 := hj 0 (by omega)
    rw [jnL_lt (by simpa using h0), jnL_drop k T (by simpa using h) fun j hlt => by simpa using hj (j + 1) (by omega)]
    simp only [List.drop_succ_cons, List.take_succ_cons, Option.map_map]
    rfl
theorem jnL_end {T : List Int} {y : Int} (h : ∀ j, j < T.length → ltr (T.getD j 0) < ltr y) : jnL T y = some (T ++ [y]) := by
  rw [jnL_drop T.length T (Nat.le_refl _) h, List.drop_length, List.take_length]; rfl
theorem drop_at {T : List Int} {k : Nat} (h : k < T.length) : T.drop k = T.getD k 0 :: T.drop (k + 1) := by
  rw [List.drop_eq_getElem_cons h]; simp [List.getD, h]
theorem take_drop' {T : List Int} {k : Nat} (h : k < T.length) : T.take k ++ T.getD k 0 :: T.drop (k + 1) = T := by rw [← drop_at h, List.take_append_drop]
theorem jnL_hit {T : List Int} {y : Int} {k : Nat} (hk : k < T.length) (h : ∀ j, j < k → ltr (T.getD j 0) < ltr y) (e : ltr (T.getD k 0) = ltr y) : jnL T y = if T.getD k 0 = y then some T else none := by
  rw [jnL_drop k T (by omega) h, drop_at hk, jnL_eq e]
  split
  · show some (T.take k ++ T.getD k 0 :: T.drop (k + 1)) = _
    rw [take_drop' hk]
  · rfl
theorem jnL_miss {T : List Int} {y : Int} {k : Nat} (hk : k < T.length) (h : ∀ j, j < k → ltr (T.getD j 0) < ltr y) (e : ltr y < ltr (T.getD k 0)) : jnL T y = some (T.take k ++ [y] ++ T.drop k) := by
  rw [jnL_drop k T (by omega) h, drop_at hk, jnL_gt e]
  simp
abbrev Rise (T : List Int) : Prop := T.Pairwise fun a b => ltr a < ltr b
theorem jnL_some : ∀ (T : List Int) (y : Int) (R : List Int), Rise T → jnL T y = some R → Rise R ∧ ∀ z, z ∈ R ↔ z ∈ T ∨ z = y
  | [], y, R, _, h => by
    injection h with h
    subst h
    exact ⟨List.pairwise_singleton _ _, fun z => by simp⟩
  | t :: T, y, R, hT, h => by
    rw [Rise, List.pairwise_cons] at hT
    by_cases h1 : ltr t < ltr y
    · rw [jnL_lt h1] at h
      cases hq : jnL T y with
      | none => rw [hq] at h; cases h
      | some Q =>
        rw [hq] at h
        injection h with h
        have h : t :: Q = R := h
        subst h
        obtain ⟨r1, r2⟩ := jnL_some T y Q hT.2 hq
        refine ⟨List.pairwise_cons.2 ⟨fun z hz => ?_, r1⟩, fun z => ?_⟩
        · rcases (r2 z).1 hz with h | rfl
          · exact hT.1 z h
          · exact h1
        · rw [List.mem_cons, List.mem_cons, r2 z, or_assoc]
    · by_cases h2 : ltr t = ltr y
      · rw [jnL_eq h2] at h
        split at h
        · rename_i e
          injection h with h
          subst h
          exact ⟨List.pairwise_cons.2 hT, fun z => by rw [← e]; simp; intro q; exact Or.inl q⟩
        · cases h
      · have h3 : ltr y < ltr t := by omega
        rw [jnL_gt h3] at h
        injection h with h
        subst h
        refine ⟨List.pairwise_cons.2 ⟨fun z hz => ?_, List.pairwise_cons.2 hT⟩, fun z => ?_⟩
        · rcases List.mem_cons.1 hz with rfl | hz
          · exact h3
          · have := hT.1 z hz; omega
        · rw [List.mem_cons, or_comm]
theorem ltr_opp {a b : Int} (h : ltr a = ltr b) (h2 : a ≠ b) : a = -b := by
  unfold ltr at h; split at h <;> split at h <;> omega
theorem jnL_none : ∀ (T : List Int) (y : Int), jnL T y = none → -y ∈ T
  | [], y, h => by cases h
  | t :: T, y, h => by
    by_cases h1 : ltr t < ltr y
    · rw [jnL_lt h1] at h
      cases hq : jnL T y with
      | none => exact List.mem_cons_of_mem _ (jnL_none T y hq)
      | some Q => rw [hq] at h; cases h
    · by_cases h2 : ltr t = ltr y
      · rw [jnL_eq h2] at h
        split at h
        · cases h
        · rename_i e
          rw [← ltr_opp h2 e]; exact List.mem_cons_self
      · rw [jnL_gt (by omega)] at h; cases h
/-- The literals of a list are put in, but for a letter. -/
def joins (x : Int) : List Int → List Int → Option (List Int)
  | T, [] => some T
  | T, b :: B => if ltr b = x then joins x T B else (jnL T b).bind fun R => joins x R B
theorem joins_skip {x b : Int} {T B : List Int} (h : ltr b = x) : joins x T (b :: B) = joins x T B := by rw [joins, if_pos h]
theorem joins_go {x b : Int} {T B : List Int} (h : ¬ ltr b = x) : joins x T (b :: B) = (jnL T b).bind fun R => joins x R B := by rw [joins, if_neg h]
theorem joins_some {x : Int} : ∀ (B T R : List Int), Rise T → joins x T B = some R → Rise R ∧ ∀ z, z ∈ R ↔ z ∈ T ∨ (z ∈ B ∧ ltr z ≠ x)
  | [], T, R, hT, h => by
    injection h with h
    subst h
    exact ⟨hT, fun z => by simp⟩
  | b :: B, T, R, hT, h => by
    by_cases e : ltr b = x
    · rw [joins_skip e] at h
      obtain ⟨r1, r2⟩ := joins_some B T R hT h
      refine ⟨r1, fun z => ?_⟩
      rw [r2 z, List.mem_cons]
      constructor
      · rintro (h | ⟨h, h2⟩)
        · exact Or.inl h
        · exact Or.inr ⟨Or.inr h, h2⟩
      · rintro (h | ⟨rfl | h, h2⟩)
        · exact Or.inl h
        · exact absurd e h2
        · exact Or.inr ⟨h, h2⟩
    · rw [joins_go e] at h
      cases hq : jnL T b with
      | none => rw [hq] at h; cases h
      | some Q =>
        rw [hq] at h
        obtain ⟨q1, q2⟩ := jnL_some T b Q hT hq
        obtain ⟨r1, r2⟩ := joins_some B Q R q1 h
        refine ⟨r1, fun z => ?_⟩
        rw [r2 z, q2 z, List.mem_cons]
        constructor
        · rintro ((h | rfl) | ⟨h, h2⟩)
          · exact Or.inl h
          · exact Or.inr ⟨Or.inl rfl, e⟩
          · exact Or.inr ⟨Or.inr h, h2⟩
        · rintro (h | ⟨rfl | h, h2⟩)
          · exact Or.inl (Or.inl h)
          · exact Or.inl (Or.inr rfl)
          · exact Or.inr ⟨h, h2⟩
theorem joins_none {x : Int} : ∀ (B T : List Int), Rise T → joins x T B = none → ∃ b, b ∈ B ∧ ltr b ≠ x ∧ (-b ∈ T ∨ (-b ∈ B ∧ ltr (-b) ≠ x))
  | [], T, _, h => by cases h
  | b :: B, T, hT, h => by
    by_cases e : ltr b = x
    · rw [joins_skip e] at h
      obtain ⟨c, h1, h2, h3⟩ := joins_none B T hT h
      exact ⟨c, List.mem_cons_of_mem _ h1, h2, h3.imp id fun ⟨a, b⟩ => ⟨List.mem_cons_of_mem _ a, b⟩⟩
    · rw [joins_go e] at h
      cases hq : jnL T b with
      | none => exact ⟨b, List.mem_cons_self, e, Or.inl (jnL_none T b hq)⟩
      | some Q =>
        rw [hq] at h
        obtain ⟨q1, q2⟩ := jnL_some T b Q hT hq
        obtain ⟨c, h1, h2, h3⟩ := joins_none B Q q1 h
        refine ⟨c, List.mem_cons_of_mem _ h1, h2, ?_⟩
        rcases h3 with h3 | ⟨h3, h4⟩
        · rcases (q2 _).1 h3 with h3 | h3
          · exact Or.inl h3
          · exact Or.inr ⟨by rw [h3]; exact List.mem_cons_self, by rw [h3]; exact e⟩
        · exact Or.inr ⟨List.mem_cons_of_mem _ h3, h4⟩
/-- A list without a letter. -/
def butL (x : Int) (A : List Int) : List Int := A.filter fun a => !decide (ltr a = x)
theorem butL_up {x : Int} {A : List Int} {k : Nat} (h : k < A.length) : butL x (A.take (k + 1)) = if ltr (A.getD k 0) = x then butL x (A.take k) else butL x (A.take k) ++ [A.getD k 0] := by
  have e : A.take (k + 1) = A.take k ++ [A.getD k 0] := by
    rw [List.take_succ_eq_append_getElem h]; simp [List.getD, h]
  unfold butL
  rw [e, List.filter_append]
  split
  · rename_i q
    rw [List.filter_cons, if_neg (by rw [decide_eq_true q]; simp)]; simp
  · rename_i q
    rw [List.filter_cons, if_pos (by rw [decide_eq_false q]; rfl)]; rfl
theorem butL_len (x : Int) (A : List Int) : (butL x A).length ≤ A.length := List.length_filter_le _ _
def cres (A B : List Int) (x : Int) : Bool := (inS A x && inS B (-x)) || (inS A (-x) && inS B x)
def rsO (n : Int) (A B : List Int) (x : Int) : Option (List Int) := bif clB n A && (clB n B && (inB x 1 n && cres A B x)) then joins x (butL x A) B else none
def rsF (n : Int) (A B : List Int) (x : Int) : List Int := (rsO n A B x).getD []
def rsB (n : Int) (A B : List Int) (x : Int) : Bool := (rsO n A B x).isSome
theorem inS_mem {S : List Int} {x : Int} : inS S x = true ↔ x ∈ S := by
  unfold inS
  rw [List.any_eq_true]
  constructor
  · rintro ⟨i, hi, h⟩
    have hi := List.mem_range.1 hi
    have h := eq_of_beq h
    rw [show S.getD i 0 = S[i] by simp [List.getD, hi]] at h
    rw [← h]; exact List.getElem_mem _
  · intro h
    obtain ⟨i, hi, rfl⟩ := List.getElem_of_mem h
    exact ⟨i, List.mem_range.2 hi, by simp [List.getD, hi]⟩
theorem cl_rise {n : Int} {c : List Int} (h : ClOk n c) : Rise c := by
  rw [Rise, List.pairwise_iff_getElem]
  intro i j hi hj hij
  have := h.up i j hij hj
  simpa [List.getD, hi, hj] using this
theorem cl_mem {n : Int} {c : List Int} (h : ClOk n c) {y : Int} (hy : y ∈ c) : 1 ≤ ltr y ∧ ltr y ≤ n := by
  obtain ⟨i, hi, rfl⟩ := List.getElem_of_mem hy
  have := h.a i hi
  simpa [List.getD, hi] using this
theorem cl_of {n : Int} {c : List Int} (n1 : 1 ≤ n) (n2 : n ≤ 10) (hr : Rise c) (hm : ∀ y ∈ c, 1 ≤ ltr y ∧ ltr y ≤ n) : ClOk n c := by
  refine ⟨n1, n2, fun i hi => ?_, fun i j hij hj => ?_⟩
  · have := hm _ (List.getElem_mem hi)
    simpa [List.getD, hi] using this
  · have := (List.pairwise_iff_getElem.1 hr) i j (by omega) hj hij
    simpa [List.getD, hj, show i < c.length by omega] using this
/-- The set of the program. -/
def rsS (A B : List Int) (x : Int) (y : Int) : Bool := y != -x && (y != x && (inS A y || inS B y))
/-- The set's list is the model's, and is a clause just where the model has one. -/
theorem res_list {n x : Int} {A B : List Int} (hA : ClOk n A) (hB : ClOk n B) (hx : 1 ≤ x) {Y : List Int} (hn : Y.Nodup) (hm : ∀ y, y ∈ Y ↔ InR y ∧ rsS A B x y = true)
    (hu : ∀ i j, i < j → j < Y.length → lw (Y.getD i 0) ≤ lw (Y.getD j 0)) : clB n Y = (joins x (butL x A) B).isSome ∧ (∀ T, joins x (butL x A) B = some T → Y = T) := by
  have n2 := hA.n2
  have hlx : ∀ y : Int, ltr y = x ↔ y = x ∨ y = -x := fun y => by unfold ltr; split <;> omega
  have hS : ∀ y, rsS A B x y = true ↔ ltr y ≠ x ∧ (y ∈ A ∨ y ∈ B) := fun y => by
    unfold rsS
    rw [Bool.and_eq_true, Bool.and_eq_true, Bool.or_eq_true, inS_mem, inS_mem, bne_iff_ne, bne_iff_ne]
    constructor
    · rintro ⟨h1, h2, h3⟩; exact ⟨fun q => ((hlx y).1 q).elim h2 h1, h3⟩
    · rintro ⟨h1, h3⟩; exact ⟨fun q => h1 ((hlx y).2 (Or.inr q)), fun q => h1 ((hlx y).2 (Or.inl q)), h3⟩
  have hin : ∀ y, y ∈ A ∨ y ∈ B → 1 ≤ ltr y ∧ ltr y ≤ n := fun y h => h.elim (cl_mem hA) (cl_mem hB)
  have hY : ∀ y, y ∈ Y ↔ ltr y ≠ x ∧ (y ∈ A ∨ y ∈ B) := fun y => by
    rw [hm y, hS y]
    refine ⟨fun h => h.2, fun h => ⟨?_, h⟩⟩
    have h2 := (hin y h.2).2
    unfold ltr at h2
    unfold InR
    split at h2 <;> omega
  have hT0 : Rise (butL x A) := (cl_rise hA).filter _
  have hM0 : ∀ z, z ∈ butL x A ↔ z ∈ A ∧ ltr z ≠ x := fun z => by unfold butL; rw [List.mem_filter]; simp
  cases hj : joins x (butL x A) B with
  | some T =>
    obtain ⟨r1, r2⟩ := joins_some B _ T hT0 hj
    have hTY : ∀ z, z ∈ Y ↔ z ∈ T := fun z => by
      rw [hY z, r2 z, hM0 z]
      constructor
      · rintro ⟨h1, h2 | h2⟩
        · exact Or.inl ⟨h2, h1⟩
        · exact Or.inr ⟨h2, h1⟩
      · rintro (⟨h1, h2⟩ | ⟨h1, h2⟩)
        · exact ⟨h2, Or.inl h1⟩
        · exact ⟨h2, Or.inr h1⟩
    have hlw : ∀ y, y ∈ Y → lw y = ltr y := fun y hy => by
      have h2 := (hin y ((hY y).1 hy).2).2
      refine lw_ltr fun e => ?_
      rw [e] at h2
      unfold ltr at h2
      rw [if_pos (by decide)] at h2
      omega
    have hapart : ∀ a ∈ T, ∀ b ∈ T, ltr a = ltr b → a = b := fun a ha b hb e => by
      obtain ⟨i, hi, rfl⟩ := List.getElem_of_mem ha
      obtain ⟨j, hj2, rfl⟩ := List.getElem_of_mem hb
      rcases Nat.lt_trichotomy i j with h | h | h
      · have := (List.pairwise_iff_getElem.1 r1) i j hi hj2 h; omega
      · subst h; rfl
      · have := (List.pairwise_iff_getElem.1 r1) j i hj2 hi h; omega
    have hrise : Rise Y := by
      rw [Rise, List.pairwise_iff_getElem]
      intro i j hi hj2 hij
      have h := hu i j hij hj2
      rw [show Y.getD i 0 = Y[i] by simp [List.getD, hi], show Y.getD j 0 = Y[j] by simp [List.getD, hj2], hlw _ (List.getElem_mem hi), hlw _ (List.getElem_mem hj2)] at h
      have hne : Y[i] ≠ Y[j] := (List.pairwise_iff_getElem.1 hn) i j hi hj2 hij
      by_cases e : ltr Y[i] = ltr Y[j]
      · exact absurd (hapart _ ((hTY _).1 (List.getElem_mem hi)) _ ((hTY _).1 (List.getElem_mem hj2)) e) hne
      · omega
    have hn2 : T.Nodup := r1.imp fun h e => by rw [e] at h; omega
    have hperm : Y.Perm T := (List.perm_ext_iff_of_nodup hn hn2).2 hTY
    have he : Y = T := hperm.eq_of_pairwise (le := fun a b => ltr a < ltr b) (fun a b _ _ h1 h2 => by omega) hrise r1
    exact ⟨clB_of (cl_of hA.n1 hA.n2 hrise fun y hy => hin y ((hY y).1 hy).2), fun R h => by injection h with h; rw [← h]; exact he⟩
  | none =>
    refine ⟨?_, fun T h => by cases h⟩
    obtain ⟨b, h1, h2, h3⟩ := joins_none B _ hT0 hj
    cases hc : clB n Y with
    | false => rfl
    | true =>
      exfalso
      have hok := clB_ok hc
      have hb : b ∈ Y := (hY b).2 ⟨h2, Or.inr h1⟩
      have ho : -b ∈ Y := (hY (-b)).2 (by
        rcases h3 with h3 | ⟨h3, h4⟩
        · obtain ⟨q1, q2⟩ := (hM0 _).1 h3
          exact ⟨q2, Or.inl q1⟩
        · exact ⟨h4, Or.inr h3⟩)
      have hl := (hin b (Or.inr h1)).1
      have hr := cl_rise hok
      obtain ⟨i, hi, ei⟩ := List.getElem_of_mem hb
      obtain ⟨j, hj2, ej⟩ := List.getElem_of_mem ho
      have e : ltr (-b) = ltr b := by unfold ltr; split <;> split <;> omega
      rcases Nat.lt_trichotomy i j with h | h | h
      · have := (List.pairwise_iff_getElem.1 hr) i j hi hj2 h; rw [ei, ej] at this; omega
      · subst h
        rw [ei] at ej
        unfold ltr at hl
        split at hl <;> omega
      · have := (List.pairwise_iff_getElem.1 hr) j i hj2 hi h; rw [ei, ej] at this; omega
theorem jnL_len : ∀ (T : List Int) (y : Int) (R : List Int), jnL T y = some R → R.length ≤ T.length + 1
  | [], y, R, h => by injection h with h; subst h; simp
  | t :: T, y, R, h => by
    by_cases h1 : ltr t < ltr y
    · rw [jnL_lt h1] at h
      cases hq : jnL T y with
      | none => rw [hq] at h; cases h
      | some Q =>
        rw [hq] at h
        injection h with h
        have h : t :: Q = R := h
        subst h
        have := jnL_len T y Q hq
        simp; omega
    · by_cases h2 : ltr t = ltr y
      · rw [jnL_eq h2] at h
        split at h
        · injection h with h; subst h; simp
        · cases h
      · rw [jnL_gt (by omega)] at h
        injection h with h; subst h; simp
theorem joins_len {x : Int} : ∀ (B T R : List Int), joins x T B = some R → R.length ≤ T.length + B.length
  | [], T, R, h => by injection h with h; subst h; simp
  | b :: B, T, R, h => by
    by_cases e : ltr b = x
    · rw [joins_skip e] at h
      have := joins_len B T R h
      simp; omega
    · rw [joins_go e] at h
      cases hq : jnL T b with
      | none => rw [hq] at h; cases h
      | some Q =>
        rw [hq] at h
        have := joins_len B Q R h
        have := jnL_len T b Q hq
        simp; omega
theorem jnL_from : ∀ (T : List Int) (y : Int) (R : List Int), jnL T y = some R → ∀ z, z ∈ R → z ∈ T ∨ z = y
  | [], y, R, h => by injection h with h; subst h; intro z hz; exact Or.inr (by simpa using hz)
  | t :: T, y, R, h => by
    by_cases h1 : ltr t < ltr y
    · rw [jnL_lt h1] at h
      cases hq : jnL T y with
      | none => rw [hq] at h; cases h
      | some Q =>
        rw [hq] at h
        injection h with h
        have h : t :: Q = R := h
        subst h
        intro z hz
        rcases List.mem_cons.1 hz with rfl | hz
        · exact Or.inl List.mem_cons_self
        · exact (jnL_from T y Q hq z hz).imp (List.mem_cons_of_mem _) id
    · by_cases h2 : ltr t = ltr y
      · rw [jnL_eq h2] at h
        split at h
        · injection h with h; subst h; intro z hz; exact Or.inl hz
        · cases h
      · rw [jnL_gt (by omega)] at h
        injection h with h; subst h
        intro z hz
        rcases List.mem_cons.1 hz with rfl | hz
        · exact Or.inr rfl
        · exact Or.inl hz
theorem rsF_len (n : Int) (A B : List Int) (x : Int) : (rsF n A B x).length ≤ 1048576 := by
  unfold rsF rsO
  cases h : clB n A && (clB n B && (inB x 1 n && cres A B x)) with
  | false => simp
  | true =>
    simp only [Bool.and_eq_true] at h
    have hA := clB_ok h.1
    have hB := clB_ok h.2.1
    have a1 := hA.len
    have b1 := hB.len
    have a2 := hA.n2
    simp only [cond_true]
    cases hj : joins x (butL x A) B with
    | none => simp
    | some R =>
      have := joins_len B _ R hj
      have := butL_len x A
      simp only [Option.getD_some]
      omega
end Go.Proofs.Ytnakpfbeeekmiaa
