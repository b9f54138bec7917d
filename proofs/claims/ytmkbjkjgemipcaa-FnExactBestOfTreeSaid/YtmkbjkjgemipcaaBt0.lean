/- The worth of the indices of a tree, and the way to the best end (plain). -/
import Derived.Test.YtmkbjkjgemipcaaLk0
namespace Go.Proofs.Ytmkbjkjgemipcaa

def bw (ev : Bool) (x y : Int) : Bool := if ev then decide (y < x) else decide (x < y)
theorem bw_self (ev : Bool) (x : Int) : bw ev x x = false := by unfold bw; cases ev <;> simp
theorem bw_trans {ev : Bool} {x y z : Int} (h : bw ev x y = true) (k : bw ev y z = true) : bw ev x z = true := by
  unfold bw at *; cases ev <;> simp at * <;> omega
theorem bw_not {ev : Bool} {x y z : Int} (h : bw ev x y = true) (k : bw ev z y = false) : bw ev x z = true := by
  unfold bw at *; cases ev <;> simp at * <;> omega
theorem bw_ne {ev : Bool} {x y : Int} (h : bw ev x y = true) : y ≠ x := by
  unfold bw at h; cases ev <;> simp at h <;> omega
/-- The first of the best among b and a list of indices. -/
def bestC (w : Nat → Int) (ev : Bool) : List Int → Nat → Nat
  | [], b => b
  | x :: L, b => if bw ev (w x.toNat) (w b) then bestC w ev L x.toNat else bestC w ev L b
theorem bestC_congr {w w' : Nat → Int} {ev : Bool} : ∀ {L : List Int} {b : Nat}, (∀ x ∈ L, w x.toNat = w' x.toNat) → w b = w' b → bestC w ev L b = bestC w' ev L b
  | [], _, _, _ => rfl
  | x :: L, b, h, hb => by
    unfold bestC
    rw [h x (List.mem_cons_self ..), hb]
    split
    · exact bestC_congr (fun y hy => h y (List.mem_cons_of_mem _ hy)) (h x (List.mem_cons_self ..))
    · exact bestC_congr (fun y hy => h y (List.mem_cons_of_mem _ hy)) hb
theorem bestC_in {w : Nat → Int} {ev : Bool} {p : Nat → Prop} : ∀ {L : List Int} {b : Nat}, (∀ x ∈ L, p x.toNat) → p b → p (bestC w ev L b)
  | [], _, _, hb => hb
  | x :: L, b, h, hb => by
    unfold bestC
    split
    · exact bestC_in (fun y hy => h y (List.mem_cons_of_mem _ hy)) (h x (List.mem_cons_self ..))
    · exact bestC_in (fun y hy => h y (List.mem_cons_of_mem _ hy)) hb
/-- Which one it is, and that those before it are not as good. -/
theorem bestC_at {w : Nat → Int} {ev : Bool} : ∀ {L : List Int} {b : Nat}, bestC w ev L b = b ∨ (bw ev (w (bestC w ev L b)) (w b) = true ∧ ∃ j, j < L.length ∧ (L.getD j 0).toNat = bestC w ev L b ∧ ∀ i, i < j → bw ev (w (bestC w ev L b)) (w (L.getD i 0).toNat) = true)
  | [], _ => Or.inl rfl
  | x :: L, b => by
    unfold bestC
    cases hq : bw ev (w x.toNat) (w b) with
    | true =>
      rw [if_pos rfl]
      right
      rcases bestC_at (w := w) (ev := ev) (L := L) (b := x.toNat) with h | ⟨h1, j, h2, h3, h4⟩
      · rw [h]
        exact ⟨hq, 0, by simp, by simp, fun i hi => by omega⟩
      · refine ⟨bw_trans h1 hq, j + 1, by simp; omega, by simpa using h3, fun i hi => ?_⟩
        cases i with
        | zero => simpa using h1
        | succ i => simpa using h4 i (by omega)
    | false =>
      rw [if_neg (by decide)]
      rcases bestC_at (w := w) (ev := ev) (L := L) (b := b) with h | ⟨h1, j, h2, h3, h4⟩
      · exact Or.inl h
      · refine Or.inr ⟨h1, j + 1, by simp; omega, by simpa using h3, fun i hi => ?_⟩
        cases i with
        | zero => simpa using bw_not h1 hq
        | succ i => simpa using h4 i (by omega)
/-- The first of the best children. -/
def bcW (P : List Int) (w : Nat → Int) (a : Nat) : Nat := bestC w (evB P a) (chL P a) ((chL P a).getD 0 0).toNat
def wF (P V : List Int) : Nat → Nat → Int
  | 0, _ => 0
  | f + 1, a => if (chL P a).length = 0 then V.getD a 0 else wF P V f (bcW P (wF P V f) a)
def wT (P V : List Int) (a : Nat) : Int := wF P V P.length a
def bcT (P V : List Int) (a : Nat) : Nat := bcW P (wT P V) a
theorem chL_mem {P : List Int} (hp : ∀ i, 0 < i → i < P.length → 0 ≤ P.getD i 0 ∧ P.getD i 0 < i) {a : Nat} {x : Int} (h : x ∈ chL P a) : a < x.toNat ∧ x.toNat < P.length := by
  obtain ⟨k, hk, e⟩ := List.getElem_of_mem h
  obtain ⟨c, hc, h1, h2, -⟩ := chL_at hp hk
  have : (chL P a).getD k 0 = x := by simp [List.getD, hk, e]
  rw [this] at hc
  rw [hc, Int.toNat_natCast]
  exact ⟨h1, h2⟩
theorem bcW_in {P : List Int} (hp : ∀ i, 0 < i → i < P.length → 0 ≤ P.getD i 0 ∧ P.getD i 0 < i) {w : Nat → Int} {a : Nat} (h0 : ¬ (chL P a).length = 0) : a < bcW P w a ∧ bcW P w a < P.length := by
  unfold bcW
  refine bestC_in (p := fun c => a < c ∧ c < P.length) (fun x hx => chL_mem hp hx) ?_
  refine chL_mem hp ?_
  have : 0 < (chL P a).length := by omega
  simp [List.getD, this]
theorem wF_same {P V : List Int} (hp : ∀ i, 0 < i → i < P.length → 0 ≤ P.getD i 0 ∧ P.getD i 0 < i) : ∀ (d f g a : Nat), P.length ≤ a + d → a < P.length → P.length ≤ a + f → P.length ≤ a + g → wF P V f a = wF P V g a
  | 0, _, _, a, h, h1, _, _ => by omega
  | d + 1, f, g, a, h, h1, h2, h3 => by
    obtain ⟨f, rfl⟩ : ∃ m, f = m + 1 := ⟨f - 1, by omega⟩
    obtain ⟨g, rfl⟩ : ∃ m, g = m + 1 := ⟨g - 1, by omega⟩
    unfold wF
    by_cases h0 : (chL P a).length = 0
    · rw [if_pos h0, if_pos h0]
    · rw [if_neg h0, if_neg h0]
      have hall : ∀ c, a < c → c < P.length → wF P V f c = wF P V g c := fun c q1 q2 => wF_same hp d f g c (by omega) q2 (by omega) (by omega)
      have hb : bcW P (wF P V f) a = bcW P (wF P V g) a := by
        unfold bcW
        refine bestC_congr (fun x hx => ?_) ?_
        · have := chL_mem hp hx; exact hall _ this.1 this.2
        · have hm : (chL P a).getD 0 0 ∈ chL P a := by
            have : 0 < (chL P a).length := by omega
            simp [List.getD, this]
          have := chL_mem hp hm
          exact hall _ this.1 this.2
      rw [hb]
      have := bcW_in hp (w := wF P V g) h0
      exact hall _ this.1 this.2
theorem wT_end {P V : List Int} {a : Nat} (ha : a < P.length) (h : (chL P a).length = 0) : wT P V a = V.getD a 0 := by
  unfold wT
  obtain ⟨m, hm⟩ : ∃ m, P.length = m + 1 := ⟨P.length - 1, by omega⟩
  rw [hm]
  exact if_pos h
theorem wT_in {P V : List Int} (hp : ∀ i, 0 < i → i < P.length → 0 ≤ P.getD i 0 ∧ P.getD i 0 < i) {a : Nat} (ha : a < P.length) (h : ¬ (chL P a).length = 0) : wT P V a = wT P V (bcT P V a) := by
  have hb := bcW_in hp (w := wT P V) h
  have e : wT P V a = wF P V (P.length + 1) a := wF_same hp P.length _ _ a (by omega) ha (by omega) (by omega)
  rw [e]
  show (if (chL P a).length = 0 then _ else wF P V P.length (bcW P (wF P V P.length) a)) = _
  rw [if_neg h]
  rfl
/-- The way from an index on. -/
def wayF (P V : List Int) : Nat → Nat → List Int
  | 0, _ => []
  | f + 1, a => (a : Int) :: (if (chL P a).length = 0 then [] else wayF P V f (bcT P V a))
theorem wayF_len (P V : List Int) : ∀ f a, (wayF P V f a).length ≤ f
  | 0, _ => by simp [wayF]
  | f + 1, a => by
    unfold wayF
    split
    · simp
    · have := wayF_len P V f (bcT P V a); simp; omega
def btI (P V : List Int) : Int := if treeB P V then wT P V 0 else 0
def btL (P V : List Int) : List Int := if treeB P V then wayF P V P.length 0 else []
theorem btI_no {P V : List Int} (h : treeB P V = false) : btI P V = 0 := by unfold btI; rw [h]; rfl
theorem btL_no {P V : List Int} (h : treeB P V = false) : btL P V = [] := by unfold btL; rw [h]; rfl
theorem btI_yes {P V : List Int} (h : treeB P V = true) : btI P V = wT P V 0 := by unfold btI; rw [if_pos h]
theorem btL_yes {P V : List Int} (h : treeB P V = true) : btL P V = wayF P V P.length 0 := by unfold btL; rw [if_pos h]
theorem btL_len (P V : List Int) : (btL P V).length ≤ 1048576 := by
  unfold btL
  split
  · rename_i h
    have := (treeB_ok h).l2
    have := wayF_len P V P.length 0
    omega
  · simp
/-- Steps of the fold. -/
theorem bestC_yes {w : Nat → Int} {ev : Bool} {L : List Int} {k b c : Nat} (hk : k < L.length) (hc : L.getD k 0 = (c : Int)) (h : bw ev (w c) (w b) = true) : bestC w ev (L.drop k) b = bestC w ev (L.drop (k + 1)) c := by
  rw [dropI hk, hc]
  show (if bw ev (w ((c : Int)).toNat) (w b) then _ else _) = _
  rw [Int.toNat_natCast, if_pos h]
theorem bestC_no {w : Nat → Int} {ev : Bool} {L : List Int} {k b c : Nat} (hk : k < L.length) (hc : L.getD k 0 = (c : Int)) (h : bw ev (w c) (w b) = false) : bestC w ev (L.drop k) b = bestC w ev (L.drop (k + 1)) b := by
  rw [dropI hk, hc]
  show (if bw ev (w ((c : Int)).toNat) (w b) then _ else _) = _
  rw [Int.toNat_natCast, h]
  rfl
theorem bestC_end {w : Nat → Int} {ev : Bool} {L : List Int} {k b : Nat} (h : k = L.length) : bestC w ev (L.drop k) b = b := by subst h; rw [List.drop_length]; rfl
/-- The best child is the first one with its parent's worth. -/
theorem bcT_at {P V : List Int} (hp : ∀ i, 0 < i → i < P.length → 0 ≤ P.getD i 0 ∧ P.getD i 0 < i) {a : Nat} (h : ¬ (chL P a).length = 0) : ∃ j, j < (chL P a).length ∧ (chL P a).getD j 0 = (bcT P V a : Int) ∧ ∀ i, i < j → wT P V ((chL P a).getD i 0).toNat ≠ wT P V (bcT P V a) := by
  have h0 : 0 < (chL P a).length := by omega
  obtain ⟨c, hc, -⟩ := chL_at hp h0
  rcases bestC_at (w := wT P V) (ev := evB P a) (L := chL P a) (b := ((chL P a).getD 0 0).toNat) with e | ⟨-, j, h2, h3, h4⟩
  · refine ⟨0, h0, ?_, fun i hi => by omega⟩
    show _ = ((bestC (wT P V) (evB P a) (chL P a) ((chL P a).getD 0 0).toNat : Nat) : Int)
    rw [e, hc, Int.toNat_natCast]
  · obtain ⟨d, hd, -⟩ := chL_at hp h2
    refine ⟨j, h2, ?_, fun i hi => bw_ne (h4 i hi)⟩
    show _ = ((bestC (wT P V) (evB P a) (chL P a) ((chL P a).getD 0 0).toNat : Nat) : Int)
    rw [← h3, hd, Int.toNat_natCast]
end Go.Proofs.Ytmkbjkjgemipcaa
