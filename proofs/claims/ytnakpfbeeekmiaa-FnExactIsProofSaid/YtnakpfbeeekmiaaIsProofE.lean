/- What IsProof needs: Ms Rv0 Un0 Ip0 IpO UnL UnB UnM. -/
import Derived.Test.YtnakpfbeeekmiaaIsProofA
import Derived.Test.YtnakpfbeeekmiaaIsProofB
import Derived.Maps.Own
import Derived.Maps.OwnOps
import Derived.Maps.OwnSet
import Derived.Maps.AppendAt
import Derived.Lib.SlKeysI
import Derived.Test.YtnakpfbeeekmiaaIsProofC
import Derived.Test.YtnakpfbeeekmiaaIsProofD
import Derived.Lib.Builder
import Derived.Deep.RegionLawGrows
import Derived.Deep.AppendLies
/- Sets of integers: maps of the call's own. -/
namespace Go.Proofs.Ytnakpfbeeekmiaa
open Go.RowKit Go.ChangeShapes Go.WideShapes Go.Maps
set_option maxRecDepth 100000

def InR (x : Int) : Prop := -9223372036854775808 ≤ x ∧ x ≤ 9223372036854775807
theorem wfR {x : Int} (h : InR x) : (Lit.int .i64 x).wf = true := by
  have h1 : IntKind.i64.min = -9223372036854775808 := by decide
  have h2 : IntKind.i64.max = 9223372036854775807 := by decide
  unfold InR at h
  simp only [Lit.wf, Bool.and_eq_true, decide_eq_true_eq, h1, h2]
  omega
theorem inR_wf {x : Int} (h : (Lit.int .i64 x).wf = true) : InR x := by
  have h1 : IntKind.i64.min = -9223372036854775808 := by decide
  have h2 : IntKind.i64.max = 9223372036854775807 := by decide
  simp only [Lit.wf, Bool.and_eq_true, decide_eq_true_eq, h1, h2] at h
  exact h
theorem keyI : Keyed Try.prog 2 := int_keyed Try.underlying2
/-- The map in block b is the set of the numbers with S. -/
structure SetM (S : Int → Bool) (n b : Nat) (w : World) : Prop where
  own : ∃ D : DataW Unit, w.ownsMap Try.prog 2 (plainElem Try.prog 4) b n D ∧ (∀ x, InR x → has D (.int .i64 x) = S x) ∧ (∀ x, InR x → D.atKey (.int .i64 x) (.lit (.bool false)) = .lit (.bool (S x)))
theorem SetM.made (w : World) : SetM (fun _ => false) 0 w.heap.size (w.alloc (.map #[] 0)) := ⟨.map [], World.ownsMap_made _ _ _ _, fun _ _ => rfl, fun _ _ => atKey_of_not_has rfl _⟩
theorem SetM.grown {S : Int → Bool} {n b : Nat} {w w' : World} {row : Option Nat} (h : SetM S n b w) (hg : w.grownBy w' row) (hne : some b ≠ row) : SetM S n b w' := by
  obtain ⟨D, h1, h2⟩ := h.own
  exact ⟨D, h1.kept hg hne, h2⟩
theorem SetM.keep {S : Int → Bool} {n b : Nat} {w w' : World} (h : SetM S n b w) (hb : Below w.heap.size w w') : SetM S n b w' :=
  h.grown (row := none) ⟨hb.os, hb.tape, hb.output, hb.size, fun i hi _ => hb.block i hi⟩ (by simp)
theorem SetM.is {S T : Int → Bool} {n b : Nat} {w : World} (h : SetM S n b w) (e : ∀ x, S x = T x) : SetM T n b w := (funext e : S = T) ▸ h
theorem SetM.map {S : Int → Bool} {n b : Nat} {w : World} (h : SetM S n b w) : ∃ es clock, w.heap[b]? = some (.map es clock) := by
  obtain ⟨D, ⟨es, clock, hb, _⟩, _⟩ := h.own
  exact ⟨es, clock, hb⟩
theorem SetM.lt {S : Int → Bool} {n b : Nat} {w : World} (h : SetM S n b w) : b < w.heap.size := by
  obtain ⟨D, h1, _⟩ := h.own
  exact h1.lt
theorem setM_put {S : Int → Bool} {n b : Nat} {x : Int} {D : DataW Unit} {w' : World} (hD : IsMap D) (h1 : ∀ y, InR y → has D (.int .i64 y) = S y) (h2 : ∀ y, InR y → D.atKey (.int .i64 y) (.lit (.bool false)) = .lit (.bool (S y)))
    (hw : w'.ownsMap Try.prog 2 (plainElem Try.prog 4) b (n + 1) (D.put (.int .i64 x) (.lit (.bool true)))) : SetM (fun y => y == x || S y) (n + 1) b w' := by
  have hk : WideAt.IsKeyLit (Lit.int .i64 x) := by trivial
  refine ⟨_, hw, fun y hy => ?_, fun y hy => ?_⟩
  · by_cases e : y = x
    · subst e; rw [has_put_same hD hk]; simp
    · rw [has_put_other (by intro h; injection h with _ h2; exact e h2), h1 y hy]
      simp [e]
  · by_cases e : y = x
    · subst e; rw [atKey_put_same hD hk]; simp
    · rw [atKey_put_other (by intro h; injection h with _ h2; exact e h2), h2 y hy]
      simp [e]
theorem setM_del {S : Int → Bool} {n b : Nat} {x : Int} {D : DataW Unit} {w' : World} (h1 : ∀ y, InR y → has D (.int .i64 y) = S y) (h2 : ∀ y, InR y → D.atKey (.int .i64 y) (.lit (.bool false)) = .lit (.bool (S y)))
    (hw : w'.ownsMap Try.prog 2 (plainElem Try.prog 4) b n (D.del (.int .i64 x))) : SetM (fun y => y != x && S y) n b w' := by
  refine ⟨_, hw, fun y hy => ?_, fun y hy => ?_⟩
  · by_cases e : y = x
    · subst e; rw [has_del_same]; simp
    · rw [has_del_other (by intro h; injection h with _ h2; exact e h2), h1 y hy]
      simp [e]
  · by_cases e : y = x
    · subst e; rw [atKey_del_same]; simp
    · rw [atKey_del_other (by intro h; injection h with _ h2; exact e h2), h2 y hy]
      simp [e]
/-- What the set has of a number. -/
theorem SetM.look {S : Int → Bool} {n b : Nat} {w : World} (h : SetM S n b w) {x : Int} (hx : InR x) : (Instr.lookup 79 (.map (some b)) (.int .i64 x) false).run Try.prog w = .ok (.bool (S x)) w := by
  obtain ⟨D, h1, -, h3⟩ := h.own
  obtain ⟨v, ps, hrun, hv⟩ := h1.lookup keyI Try.underlying79 (Try.zeroValue4 w) (plainElem_bool Try.underlying4 false) (keyOf_int_mk Try.underlying2 (wfR hx))
  rw [h3 x hx] at hv
  unfold plainElem at hv
  rw [Try.underlying4] at hv
  rw [hrun]
  cases v <;> simp at hv
  rw [hv.1]
/-- A list that is read stands while the map turns. -/
theorem IL.map {w w' : World} {v : Value} {c : List Int} {b : Nat} (h : IL w v c) (hb : ∃ es clock, w.heap[b]? = some (.map es clock)) (hg : w.grownBy w' (some b)) : IL w' v c := by
  rcases h with ⟨hz, e⟩ | ⟨g, off, cap, e, hpos, hbl, hcell⟩
  · exact Or.inl ⟨hz, e⟩
  · have hne : some g ≠ some b := by
      intro q
      injection q with q
      subst q
      obtain ⟨es, clock, hm⟩ := hb
      have := hcell 0 hpos
      simp [World.cell?, hm] at this
    refine Or.inr ⟨g, off, cap, e, hpos, Nat.lt_of_lt_of_le hbl hg.size, fun i hi => ?_⟩
    rw [World.cell?_of_block (a := ⟨g, off + i, none⟩) (hg.block g hbl hne)]
    exact hcell i hi
def addK (S : Int → Bool) (c : List Int) (k : Nat) (y : Int) : Bool := S y || (List.range k).any fun i => c.getD i 0 == y
theorem addK_up (S : Int → Bool) (c : List Int) (k : Nat) (y : Int) : (y == c.getD k 0 || addK S c k y) = addK S c (k + 1) y := by
  unfold addK
  rw [List.range_succ, List.any_append]
  have : (y == c.getD k 0) = (c.getD k 0 == y) := Bool.eq_iff_iff.2 ⟨fun h => beq_iff_eq.2 (eq_of_beq h).symm, fun h => beq_iff_eq.2 (eq_of_beq h).symm⟩
  rw [this]
  cases S y <;> cases ((List.range k).any fun i => c.getD i 0 == y) <;> simp
theorem addK_all (S : Int → Bool) (c : List Int) (y : Int) : addK S c c.length y = (S y || inS c y) := rfl
/-- The call has changed the map alone. -/
def SetDone (S : Int → Bool) (n b : Nat) (w : World) (e : Ending) (w' : World) : Prop := e = .returned (.tuple #[]) ∧ SetM S n b w' ∧ w.grownBy w' (some b)
set_option maxHeartbeats 2000000 in
theorem putAll_any (S : Int → Bool) (n b : Nat) (v : Value) (c : List Int) (w : World) (hs : SetM S n b w) (hv : IL w v c) (hn : n ≤ 1048576) (hc : c.length ≤ 1048576) (hr : ∀ i, i < c.length → InR (c.getD i 0)) :
    Calls Try.prog 66 #[.map (some b), v] w (SetDone (addK S c c.length) (n + c.length) b w) := by
  have HS := Lib.hid hs
  have HM := Lib.hid hs.map
  have HR := Lib.hid hr
  have HC : Hid (∀ W, w.grownBy W (some b) → IL W v c) := Lib.hid fun W hg => hv.map hs.map hg
  obtain ⟨ao, cap, rfl⟩ := hv.long
  clear hs hv hr
  go_enter Try.func66, Try.ntmps66
  go_wp2_with fail
  go_loopg [8] c.length (fun gk i wr => ∃ k : Nat, k ≤ c.length ∧ gk + k = c.length ∧ i = .int .i64 k ∧ SetM (addK S c k) (n + k) b wr ∧ w.grownBy wr (some b))
  case atStart => exact ⟨0, Nat.zero_le _, by omega, rfl, HS.out.is fun x => by unfold addK; simp, World.grownBy.refl _ _⟩
  case round =>
    obtain ⟨k, hk, hgk, rfl, hS, hG⟩ := hrel
    have HG := Lib.hid hG
    obtain ⟨D, hD, hh, ha⟩ := hS.own
    have HD := Lib.hid hD
    have HH := Lib.hid (And.intro hh ha)
    have HS2 := Lib.hid hS
    clear hG hD hh ha hS
    by_cases hlt : k < c.length
    · rcases HC.out wr HG.out with ⟨hz, -⟩ | ⟨g, off, cp, e, hpos, hbl, hcell⟩
      · rw [hz] at hlt; simp at hlt
      injection e with e1 _ e3
      subst e1
      have cx := hcell k hlt
      have hx := HR.out k hlt
      have HUP := Lib.hid fun y => addK_up S c k y
      generalize hxx : c.getD k 0 = x at cx hx HUP
      have HX := Lib.hid hx
      clear e3 hcell hbl hpos hxx hx
      go_wp2_with (at_mapUpdate; refine wpList_mapUpdate_own _ rfl _ _ _ 79 rfl 2 4 keyI Try.underlying79 _ b (n + k) _ rfl HD.out (by unfold maxLen; omega) _ _ _ rfl rfl (keyOf_int_mk Try.underlying2 (wfR HX.out)) _ [] (plainElem_bool Try.underlying4 true) ?_; intro w4 hown4 hgrow4; have HU4 := Lib.hid ((setM_put HD.out.isMap HH.out.1 HH.out.2 hown4).is HUP.out); have HG4 := Lib.hid (HG.out.trans hgrow4); clear hown4 hgrow4)
      go_roundg (gk - 1)
      case measure => omega
      case rel => exact ⟨k + 1, by omega, by omega, by go_num, HU4.out, HG4.out⟩
    · obtain rfl : k = c.length := by omega
      go_wp2_with fail
      refine bodyPost_ret (v := .tuple #[]) (by simp [results, Try.results66, go_sem]) rfl ?_
      exact ⟨rfl, HS2.out, HG.out⟩
/-- All that a set has. -/
theorem keys_set {S : Int → Bool} {n b : Nat} {w : World} {D : DataW Unit} (hD : w.ownsMap Try.prog 2 (plainElem Try.prog 4) b n D) (h1 : ∀ x, InR x → has D (.int .i64 x) = S x) :
    (intKeys D).Nodup ∧ ∀ x, x ∈ intKeys D ↔ InR x ∧ S x = true := by
  obtain ⟨es0, clock, hb, F, hs, rfl⟩ := hD
  have hk0 := Maps.fit_keys F
  have hdis := Maps.fit_apart keyI F
  have hp := sorted_perm (es0.toList.map (Go.WideElems.rg Try.prog 2 (plainElem (H := Unit) Try.prog 4)))
  generalize hes : (es0.toList.map (Go.WideElems.rg Try.prog 2 (plainElem (H := Unit) Try.prog 4))) = L0 at hk0 hdis hp h1
  generalize hL : L0.foldr DataW.insert [] = L at hp h1
  have hk : ∀ p ∈ L, ∃ x, p.1 = .int .i64 x ∧ InR x := fun p hpm => by
    obtain ⟨v, hv⟩ := hk0 p (hp.mem_iff.1 hpm)
    obtain ⟨x, -, e, hw⟩ := Maps.keyOf_i64 Try.underlying2 hv
    exact ⟨x, e, inR_wf hw⟩
  have hap : L.Pairwise (fun p q => p.1 ≠ q.1) := (hp.pairwise_iff (fun {_ _} hne => Ne.symm hne)).2 hdis
  show (L.map fun p => intOf p.1).Nodup ∧ ∀ x, x ∈ L.map (fun p => intOf p.1) ↔ InR x ∧ S x = true
  have hnd : (L.map fun p => intOf p.1).Nodup := by
    refine List.pairwise_map.2 (hap.imp_of_mem fun {p q} hp' hq' hne e => hne ?_)
    obtain ⟨a, ha, -⟩ := hk p hp'
    obtain ⟨b, hb, -⟩ := hk q hq'
    rw [ha, hb] at e ⊢
    exact congrArg _ e
  refine ⟨hnd, fun x => ?_⟩
  · rw [List.mem_map]
    constructor
    · rintro ⟨p, hpm, rfl⟩
      obtain ⟨a, ha, hin⟩ := hk p hpm
      have e : intOf p.1 = a := by rw [ha]; rfl
      rw [e]
      refine ⟨hin, ?_⟩
      rw [← h1 a hin, has_eq, List.any_eq_true]
      exact ⟨p, hpm, by rw [ha]; simp [Lit.sameKey]⟩
    · rintro ⟨hin, hS⟩
      rw [← h1 x hin, has_eq, List.any_eq_true] at hS
      obtain ⟨p, hpm, hsm⟩ := hS
      obtain ⟨a, ha, -⟩ := hk p hpm
      rw [ha] at hsm
      exact ⟨p, hpm, by rw [ha]; simpa [Lit.sameKey, intOf] using hsm⟩
end Go.Proofs.Ytnakpfbeeekmiaa
/- What two clauses tell without a letter (plain). -/
namespace Go.Proofs.Ytnakpfbeeekmiaa

/-- A literal is put into a list in order; none where its opposite is there. -/
def jnL : List Int → Int → Option (List Int)
  | [], y => some [y]
  | t :: T, y => if ltr t < ltr y then (jnL T y).map (fun R => t :: R) else if ltr t = ltr y then (if t = y then some (t :: T) else none) else some (y :: t :: T)
theorem jnL_lt {t y : Int} {T : List Int} (h : ltr t < ltr y) : jnL (t :: T) y = (jnL T y).map (fun R => t :: R) := by
  show (if ltr t < ltr y then _ else _) = _
  rw [if_pos h]
theorem jnL_eq {t y : Int} {T : List Int} (h : ltr t = ltr y) : jnL (t :: T) y = if t = y then some (t :: T) else none := by
  show (if ltr t < ltr y then _ else if ltr t = ltr y then _ else _) = _
  rw [if_neg (by omega), if_pos h]
theorem jnL_gt {t y : Int} {T : List Int} (h : ltr y < ltr t) : jnL (t :: T) y = some (y :: t :: T) := by
  show (if ltr t < ltr y then _ else if ltr t = ltr y then _ else _) = _
  rw [if_neg (by omega), if_neg (by omega)]
theorem jnL_drop {y : Int} : ∀ (k : Nat) (T : List Int), k ≤ T.length → (∀ j, j < k → ltr (T.getD j 0) < ltr y) → jnL T y = (jnL (T.drop k) y).map (fun R => T.take k ++ R)
  | 0, T, _, _ => by simp
  | k + 1, [], h, _ => by simp at h
  | k + 1, t :: T, h, hj => by
    have h0 := hj 0 (by omega)
    rw [jnL_lt (by simpa using h0), jnL_drop k T (by simpa using h) fun j hlt => by simpa using hj (j + 1) (by omega)]
    simp only [List.drop_succ_cons, List.take_succ_cons, Option.map_map]
    rfl
theorem jnL_end {T : List Int} {y : Int} (h : ∀ j, j < T.length → ltr (T.getD j 0) < ltr y) : jnL T y = some (T ++ [y]) := by
  rw [jnL_drop T.length T (Nat.le_refl _) h, List.drop_length, List.take_length]; rfl
theorem drop_at {T : List Int} {k : Nat} (h : k < T.length) : T.drop k = T.getD k 0 :: T.drop (k + 1) := by
  rw [List.drop_eq_getElem_cons h]; simp [List.getD, h]
theorem take_drop' {T : List Int} {k : Nat} (h : k < T.length) : T.take k ++ T.getD k 0 :: T.drop (k + 1) = T := by rw [← drop_at h, List.take_append_drop]
theorem jnL_hit {T : List Int} {y : Int} {k : Nat} (hk : k < T.length) (h : ∀ j, j < k → ltr (T.getD j 0) < ltr y) (e : ltr (T.getD k 0) = ltr y) : jnL T y = if T.getD k 0 = y then some T else none := by
  rw [jnL_drop k T (by omega) h, drop_at hk, jnL_eq e]
  split
  · show some (T.take k ++ T.getD k 0 :: T.drop (k + 1)) = _
    rw [take_drop' hk]
  · rfl
theorem jnL_miss {T : List Int} {y : Int} {k : Nat} (hk : k < T.length) (h : ∀ j, j < k → ltr (T.getD j 0) < ltr y) (e : ltr y < ltr (T.getD k 0)) : jnL T y = some (T.take k ++ [y] ++ T.drop k) := by
  rw [jnL_drop k T (by omega) h, drop_at hk, jnL_gt e]
  simp
abbrev Rise (T : List Int) : Prop := T.Pairwise fun a b => ltr a < ltr b
theorem jnL_some : ∀ (T : List Int) (y : Int) (R : List Int), Rise T → jnL T y = some R → Rise R ∧ ∀ z, z ∈ R ↔ z ∈ T ∨ z = y
  | [], y, R, _, h => by
    injection h with h
    subst h
    exact ⟨List.pairwise_singleton _ _, fun z => by simp⟩
  | t :: T, y, R, hT, h => by
    rw [Rise, List.pairwise_cons] at hT
    by_cases h1 : ltr t < ltr y
    · rw [jnL_lt h1] at h
      cases hq : jnL T y with
      | none => rw [hq] at h; cases h
      | some Q =>
        rw [hq] at h
        injection h with h
        have h : t :: Q = R := h
        subst h
        obtain ⟨r1, r2⟩ := jnL_some T y Q hT.2 hq
        refine ⟨List.pairwise_cons.2 ⟨fun z hz => ?_, r1⟩, fun z => ?_⟩
        · rcases (r2 z).1 hz with h | rfl
          · exact hT.1 z h
          · exact h1
        · rw [List.mem_cons, List.mem_cons, r2 z, or_assoc]
    · by_cases h2 : ltr t = ltr y
      · rw [jnL_eq h2] at h
        split at h
        · rename_i e
          injection h with h
          subst h
          exact ⟨List.pairwise_cons.2 hT, fun z => by rw [← e]; simp; intro q; exact Or.inl q⟩
        · cases h
      · have h3 : ltr y < ltr t := by omega
        rw [jnL_gt h3] at h
        injection h with h
        subst h
        refine ⟨List.pairwise_cons.2 ⟨fun z hz => ?_, List.pairwise_cons.2 hT⟩, fun z => ?_⟩
        · rcases List.mem_cons.1 hz with rfl | hz
          · exact h3
          · have := hT.1 z hz; omega
        · rw [List.mem_cons, or_comm]
theorem ltr_opp {a b : Int} (h : ltr a = ltr b) (h2 : a ≠ b) : a = -b := by
  unfold ltr at h; split at h <;> split at h <;> omega
theorem jnL_none : ∀ (T : List Int) (y : Int), jnL T y = none → -y ∈ T
  | [], y, h => by cases h
  | t :: T, y, h => by
    by_cases h1 : ltr t < ltr y
    · rw [jnL_lt h1] at h
      cases hq : jnL T y with
      | none => exact List.mem_cons_of_mem _ (jnL_none T y hq)
      | some Q => rw [hq] at h; cases h
    · by_cases h2 : ltr t = ltr y
      · rw [jnL_eq h2] at h
        split at h
        · cases h
        · rename_i e
          rw [← ltr_opp h2 e]; exact List.mem_cons_self
      · rw [jnL_gt (by omega)] at h; cases h
/-- The literals of a list are put in, but for a letter. -/
def joins (x : Int) : List Int → List Int → Option (List Int)
  | T, [] => some T
  | T, b :: B => if ltr b = x then joins x T B else (jnL T b).bind fun R => joins x R B
theorem joins_skip {x b : Int} {T B : List Int} (h : ltr b = x) : joins x T (b :: B) = joins x T B := by rw [joins, if_pos h]
theorem joins_go {x b : Int} {T B : List Int} (h : ¬ ltr b = x) : joins x T (b :: B) = (jnL T b).bind fun R => joins x R B := by rw [joins, if_neg h]
theorem joins_some {x : Int} : ∀ (B T R : List Int), Rise T → joins x T B = some R → Rise R ∧ ∀ z, z ∈ R ↔ z ∈ T ∨ (z ∈ B ∧ ltr z ≠ x)
  | [], T, R, hT, h => by
    injection h with h
    subst h
    exact ⟨hT, fun z => by simp⟩
  | b :: B, T, R, hT, h => by
    by_cases e : ltr b = x
    · rw [joins_skip e] at h
      obtain ⟨r1, r2⟩ := joins_some B T R hT h
      refine ⟨r1, fun z => ?_⟩
      rw [r2 z, List.mem_cons]
      constructor
      · rintro (h | ⟨h, h2⟩)
        · exact Or.inl h
        · exact Or.inr ⟨Or.inr h, h2⟩
      · rintro (h | ⟨rfl | h, h2⟩)
        · exact Or.inl h
        · exact absurd e h2
        · exact Or.inr ⟨h, h2⟩
    · rw [joins_go e] at h
      cases hq : jnL T b with
      | none => rw [hq] at h; cases h
      | some Q =>
        rw [hq] at h
        obtain ⟨q1, q2⟩ := jnL_some T b Q hT hq
        obtain ⟨r1, r2⟩ := joins_some B Q R q1 h
        refine ⟨r1, fun z => ?_⟩
        rw [r2 z, q2 z, List.mem_cons]
        constructor
        · rintro ((h | rfl) | ⟨h, h2⟩)
          · exact Or.inl h
          · exact Or.inr ⟨Or.inl rfl, e⟩
          · exact Or.inr ⟨Or.inr h, h2⟩
        · rintro (h | ⟨rfl | h, h2⟩)
          · exact Or.inl (Or.inl h)
          · exact Or.inl (Or.inr rfl)
          · exact Or.inr ⟨h, h2⟩
theorem joins_none {x : Int} : ∀ (B T : List Int), Rise T → joins x T B = none → ∃ b, b ∈ B ∧ ltr b ≠ x ∧ (-b ∈ T ∨ (-b ∈ B ∧ ltr (-b) ≠ x))
  | [], T, _, h => by cases h
  | b :: B, T, hT, h => by
    by_cases e : ltr b = x
    · rw [joins_skip e] at h
      obtain ⟨c, h1, h2, h3⟩ := joins_none B T hT h
      exact ⟨c, List.mem_cons_of_mem _ h1, h2, h3.imp id fun ⟨a, b⟩ => ⟨List.mem_cons_of_mem _ a, b⟩⟩
    · rw [joins_go e] at h
      cases hq : jnL T b with
      | none => exact ⟨b, List.mem_cons_self, e, Or.inl (jnL_none T b hq)⟩
      | some Q =>
        rw [hq] at h
        obtain ⟨q1, q2⟩ := jnL_some T b Q hT hq
        obtain ⟨c, h1, h2, h3⟩ := joins_none B Q q1 h
        refine ⟨c, List.mem_cons_of_mem _ h1, h2, ?_⟩
        rcases h3 with h3 | ⟨h3, h4⟩
        · rcases (q2 _).1 h3 with h3 | h3
          · exact Or.inl h3
          · exact Or.inr ⟨by rw [h3]; exact List.mem_cons_self, by rw [h3]; exact e⟩
        · exact Or.inr ⟨List.mem_cons_of_mem _ h3, h4⟩
/-- A list without a letter. -/
def butL (x : Int) (A : List Int) : List Int := A.filter fun a => !decide (ltr a = x)
theorem butL_up {x : Int} {A : List Int} {k : Nat} (h : k < A.length) : butL x (A.take (k + 1)) = if ltr (A.getD k 0) = x then butL x (A.take k) else butL x (A.take k) ++ [A.getD k 0] := by
  have e : A.take (k + 1) = A.take k ++ [A.getD k 0] := by
    rw [List.take_succ_eq_append_getElem h]; simp [List.getD, h]
  unfold butL
  rw [e, List.filter_append]
  split
  · rename_i q
    rw [List.filter_cons, if_neg (by rw [decide_eq_true q]; simp)]; simp
  · rename_i q
    rw [List.filter_cons, if_pos (by rw [decide_eq_false q]; rfl)]; rfl
theorem butL_len (x : Int) (A : List Int) : (butL x A).length ≤ A.length := List.length_filter_le _ _
def cres (A B : List Int) (x : Int) : Bool := (inS A x && inS B (-x)) || (inS A (-x) && inS B x)
def rsO (n : Int) (A B : List Int) (x : Int) : Option (List Int) := bif clB n A && (clB n B && (inB x 1 n && cres A B x)) then joins x (butL x A) B else none
def rsF (n : Int) (A B : List Int) (x : Int) : List Int := (rsO n A B x).getD []
def rsB (n : Int) (A B : List Int) (x : Int) : Bool := (rsO n A B x).isSome
theorem inS_mem {S : List Int} {x : Int} : inS S x = true ↔ x ∈ S := by
  unfold inS
  rw [List.any_eq_true]
  constructor
  · rintro ⟨i, hi, h⟩
    have hi := List.mem_range.1 hi
    have h := eq_of_beq h
    rw [show S.getD i 0 = S[i] by simp [List.getD, hi]] at h
    rw [← h]; exact List.getElem_mem _
  · intro h
    obtain ⟨i, hi, rfl⟩ := List.getElem_of_mem h
    exact ⟨i, List.mem_range.2 hi, by simp [List.getD, hi]⟩
theorem cl_rise {n : Int} {c : List Int} (h : ClOk n c) : Rise c := by
  rw [Rise, List.pairwise_iff_getElem]
  intro i j hi hj hij
  have := h.up i j hij hj
  simpa [List.getD, hi, hj] using this
theorem cl_mem {n : Int} {c : List Int} (h : ClOk n c) {y : Int} (hy : y ∈ c) : 1 ≤ ltr y ∧ ltr y ≤ n := by
  obtain ⟨i, hi, rfl⟩ := List.getElem_of_mem hy
  have := h.a i hi
  simpa [List.getD, hi] using this
theorem cl_of {n : Int} {c : List Int} (n1 : 1 ≤ n) (n2 : n ≤ 10) (hr : Rise c) (hm : ∀ y ∈ c, 1 ≤ ltr y ∧ ltr y ≤ n) : ClOk n c := by
  refine ⟨n1, n2, fun i hi => ?_, fun i j hij hj => ?_⟩
  · have := hm _ (List.getElem_mem hi)
    simpa [List.getD, hi] using this
  · have := (List.pairwise_iff_getElem.1 hr) i j (by omega) hj hij
    simpa [List.getD, hj, show i < c.length by omega] using this
/-- The set of the program. -/
def rsS (A B : List Int) (x : Int) (y : Int) : Bool := y != -x && (y != x && (inS A y || inS B y))
/-- The set's list is the model's, and is a clause just where the model has one. -/
theorem res_list {n x : Int} {A B : List Int} (hA : ClOk n A) (hB : ClOk n B) (hx : 1 ≤ x) {Y : List Int} (hn : Y.Nodup) (hm : ∀ y, y ∈ Y ↔ InR y ∧ rsS A B x y = true)
    (hu : ∀ i j, i < j → j < Y.length → lw (Y.getD i 0) ≤ lw (Y.getD j 0)) : clB n Y = (joins x (butL x A) B).isSome ∧ (∀ T, joins x (butL x A) B = some T → Y = T) := by
  have n2 := hA.n2
  have hlx : ∀ y : Int, ltr y = x ↔ y = x ∨ y = -x := fun y => by unfold ltr; split <;> omega
  have hS : ∀ y, rsS A B x y = true ↔ ltr y ≠ x ∧ (y ∈ A ∨ y ∈ B) := fun y => by
    unfold rsS
    rw [Bool.and_eq_true, Bool.and_eq_true, Bool.or_eq_true, inS_mem, inS_mem, bne_iff_ne, bne_iff_ne]
    constructor
    · rintro ⟨h1, h2, h3⟩; exact ⟨fun q => ((hlx y).1 q).elim h2 h1, h3⟩
    · rintro ⟨h1, h3⟩; exact ⟨fun q => h1 ((hlx y).2 (Or.inr q)), fun q => h1 ((hlx y).2 (Or.inl q)), h3⟩
  have hin : ∀ y, y ∈ A ∨ y ∈ B → 1 ≤ ltr y ∧ ltr y ≤ n := fun y h => h.elim (cl_mem hA) (cl_mem hB)
  have hY : ∀ y, y ∈ Y ↔ ltr y ≠ x ∧ (y ∈ A ∨ y ∈ B) := fun y => by
    rw [hm y, hS y]
    refine ⟨fun h => h.2, fun h => ⟨?_, h⟩⟩
    have h2 := (hin y h.2).2
    unfold ltr at h2
    unfold InR
    split at h2 <;> omega
  have hT0 : Rise (butL x A) := (cl_rise hA).filter _
  have hM0 : ∀ z, z ∈ butL x A ↔ z ∈ A ∧ ltr z ≠ x := fun z => by unfold butL; rw [List.mem_filter]; simp
  cases hj : joins x (butL x A) B with
  | some T =>
    obtain ⟨r1, r2⟩ := joins_some B _ T hT0 hj
    have hTY : ∀ z, z ∈ Y ↔ z ∈ T := fun z => by
      rw [hY z, r2 z, hM0 z]
      constructor
      · rintro ⟨h1, h2 | h2⟩
        · exact Or.inl ⟨h2, h1⟩
        · exact Or.inr ⟨h2, h1⟩
      · rintro (⟨h1, h2⟩ | ⟨h1, h2⟩)
        · exact ⟨h2, Or.inl h1⟩
        · exact ⟨h2, Or.inr h1⟩
    have hlw : ∀ y, y ∈ Y → lw y = ltr y := fun y hy => by
      have h2 := (hin y ((hY y).1 hy).2).2
      refine lw_ltr fun e => ?_
      rw [e] at h2
      unfold ltr at h2
      rw [if_pos (by decide)] at h2
      omega
    have hapart : ∀ a ∈ T, ∀ b ∈ T, ltr a = ltr b → a = b := fun a ha b hb e => by
      obtain ⟨i, hi, rfl⟩ := List.getElem_of_mem ha
      obtain ⟨j, hj2, rfl⟩ := List.getElem_of_mem hb
      rcases Nat.lt_trichotomy i j with h | h | h
      · have := (List.pairwise_iff_getElem.1 r1) i j hi hj2 h; omega
      · subst h; rfl
      · have := (List.pairwise_iff_getElem.1 r1) j i hj2 hi h; omega
    have hrise : Rise Y := by
      rw [Rise, List.pairwise_iff_getElem]
      intro i j hi hj2 hij
      have h := hu i j hij hj2
      rw [show Y.getD i 0 = Y[i] by simp [List.getD, hi], show Y.getD j 0 = Y[j] by simp [List.getD, hj2], hlw _ (List.getElem_mem hi), hlw _ (List.getElem_mem hj2)] at h
      have hne : Y[i] ≠ Y[j] := (List.pairwise_iff_getElem.1 hn) i j hi hj2 hij
      by_cases e : ltr Y[i] = ltr Y[j]
      · exact absurd (hapart _ ((hTY _).1 (List.getElem_mem hi)) _ ((hTY _).1 (List.getElem_mem hj2)) e) hne
      · omega
    have hn2 : T.Nodup := r1.imp fun h e => by rw [e] at h; omega
    have hperm : Y.Perm T := (List.perm_ext_iff_of_nodup hn hn2).2 hTY
    have he : Y = T := hperm.eq_of_pairwise (le := fun a b => ltr a < ltr b) (fun a b _ _ h1 h2 => by omega) hrise r1
    exact ⟨clB_of (cl_of hA.n1 hA.n2 hrise fun y hy => hin y ((hY y).1 hy).2), fun R h => by injection h with h; rw [← h]; exact he⟩
  | none =>
    refine ⟨?_, fun T h => by cases h⟩
    obtain ⟨b, h1, h2, h3⟩ := joins_none B _ hT0 hj
    cases hc : clB n Y with
    | false => rfl
    | true =>
      exfalso
      have hok := clB_ok hc
      have hb : b ∈ Y := (hY b).2 ⟨h2, Or.inr h1⟩
      have ho : -b ∈ Y := (hY (-b)).2 (by
        rcases h3 with h3 | ⟨h3, h4⟩
        · obtain ⟨q1, q2⟩ := (hM0 _).1 h3
          exact ⟨q2, Or.inl q1⟩
        · exact ⟨h4, Or.inr h3⟩)
      have hl := (hin b (Or.inr h1)).1
      have hr := cl_rise hok
      obtain ⟨i, hi, ei⟩ := List.getElem_of_mem hb
      obtain ⟨j, hj2, ej⟩ := List.getElem_of_mem ho
      have e : ltr (-b) = ltr b := by unfold ltr; split <;> split <;> omega
      rcases Nat.lt_trichotomy i j with h | h | h
      · have := (List.pairwise_iff_getElem.1 hr) i j hi hj2 h; rw [ei, ej] at this; omega
      · subst h
        rw [ei] at ej
        unfold ltr at hl
        split at hl <;> omega
      · have := (List.pairwise_iff_getElem.1 hr) j i hj2 hi h; rw [ei, ej] at this; omega
theorem jnL_len : ∀ (T : List Int) (y : Int) (R : List Int), jnL T y = some R → R.length ≤ T.length + 1
  | [], y, R, h => by injection h with h; subst h; simp
  | t :: T, y, R, h => by
    by_cases h1 : ltr t < ltr y
    · rw [jnL_lt h1] at h
      cases hq : jnL T y with
      | none => rw [hq] at h; cases h
      | some Q =>
        rw [hq] at h
        injection h with h
        have h : t :: Q = R := h
        subst h
        have := jnL_len T y Q hq
        simp; omega
    · by_cases h2 : ltr t = ltr y
      · rw [jnL_eq h2] at h
        split at h
        · injection h with h; subst h; simp
        · cases h
      · rw [jnL_gt (by omega)] at h
        injection h with h; subst h; simp
theorem joins_len {x : Int} : ∀ (B T R : List Int), joins x T B = some R → R.length ≤ T.length + B.length
  | [], T, R, h => by injection h with h; subst h; simp
  | b :: B, T, R, h => by
    by_cases e : ltr b = x
    · rw [joins_skip e] at h
      have := joins_len B T R h
      simp; omega
    · rw [joins_go e] at h
      cases hq : jnL T b with
      | none => rw [hq] at h; cases h
      | some Q =>
        rw [hq] at h
        have := joins_len B Q R h
        have := jnL_len T b Q hq
        simp; omega
theorem jnL_from : ∀ (T : List Int) (y : Int) (R : List Int), jnL T y = some R → ∀ z, z ∈ R → z ∈ T ∨ z = y
  | [], y, R, h => by injection h with h; subst h; intro z hz; exact Or.inr (by simpa using hz)
  | t :: T, y, R, h => by
    by_cases h1 : ltr t < ltr y
    · rw [jnL_lt h1] at h
      cases hq : jnL T y with
      | none => rw [hq] at h; cases h
      | some Q =>
        rw [hq] at h
        injection h with h
        have h : t :: Q = R := h
        subst h
        intro z hz
        rcases List.mem_cons.1 hz with rfl | hz
        · exact Or.inl List.mem_cons_self
        · exact (jnL_from T y Q hq z hz).imp (List.mem_cons_of_mem _) id
    · by_cases h2 : ltr t = ltr y
      · rw [jnL_eq h2] at h
        split at h
        · injection h with h; subst h; intro z hz; exact Or.inl hz
        · cases h
      · rw [jnL_gt (by omega)] at h
        injection h with h; subst h
        intro z hz
        rcases List.mem_cons.1 hz with rfl | hz
        · exact Or.inr rfl
        · exact Or.inl hz
theorem rsF_len (n : Int) (A B : List Int) (x : Int) : (rsF n A B x).length ≤ 1048576 := by
  unfold rsF rsO
  cases h : clB n A && (clB n B && (inB x 1 n && cres A B x)) with
  | false => simp
  | true =>
    simp only [Bool.and_eq_true] at h
    have hA := clB_ok h.1
    have hB := clB_ok h.2.1
    have a1 := hA.len
    have b1 := hB.len
    have a2 := hA.n2
    simp only [cond_true]
    cases hj : joins x (butL x A) B with
    | none => simp
    | some R =>
      have := joins_len B _ R hj
      have := butL_len x A
      simp only [Option.getD_some]
      omega
end Go.Proofs.Ytnakpfbeeekmiaa
/- What must hold then: units (plain). -/
namespace Go.Proofs.Ytnakpfbeeekmiaa

/-- No number stands beside its opposite. -/
def Cons (K : List Int) : Prop := ∀ y, inS K y = true → inS K (-y) = false
theorem cons_of {n : Int} {K : List Int} (h : LitsOk n K) : Cons K := fun y hy => by
  cases hq : inS K (-y) with
  | false => rfl
  | true =>
    exfalso
    have h1 := inS_mem.1 hy
    have h2 := inS_mem.1 hq
    have hl := (h.rng y h1).1
    obtain ⟨i, hi, ei⟩ := List.getElem_of_mem h1
    obtain ⟨j, hj, ej⟩ := List.getElem_of_mem h2
    have e : ltr (-y) = ltr y := by unfold ltr; split <;> split <;> omega
    have hnd := List.pairwise_iff_getElem.1 h.nd
    rcases Nat.lt_trichotomy i j with q | q | q
    · exact hnd i j (by simpa using hi) (by simpa using hj) q (by simp [ei, ej, e])
    · subst q
      rw [ei] at ej
      unfold ltr at hl
      split at hl <;> omega
    · exact hnd j i (by simpa using hj) (by simpa using hi) q (by simp [ei, ej, e])
theorem litsOk_len {n : Int} {K : List Int} (n1 : 1 ≤ n) (n2 : n ≤ 10) (h : LitsOk n K) : K.length ≤ 10 := by
  have hp := List.mergeSort_perm K fun a b => decide (ltr a ≤ ltr b)
  have ho := h.perm hp
  have hs := List.pairwise_mergeSort (le := fun a b => decide (ltr a ≤ ltr b)) (fun a b c h1 h2 => by simp only [decide_eq_true_eq] at *; omega) (fun a b => by simp only [Bool.or_eq_true, decide_eq_true_eq]; omega) K
  have hr : Rise (K.mergeSort fun a b => decide (ltr a ≤ ltr b)) := by
    rw [Rise, List.pairwise_iff_getElem]
    intro i j hi hj hij
    have h1 := (List.pairwise_iff_getElem.1 hs) i j hi hj hij
    have h2 := (List.pairwise_iff_getElem.1 ho.nd) i j (by simpa using hi) (by simpa using hj) hij
    simp only [decide_eq_true_eq] at h1
    simp only [List.getElem_map] at h2
    omega
  have hl := (cl_of n1 n2 hr ho.rng).len
  rw [List.length_mergeSort] at hl
  omega
def knB (K : List Int) (x : Int) : Int := if inS K x = true then 1 else if inS K (-x) = true then -1 else 0
theorem knB_yes {K : List Int} {x : Int} (h : inS K x = true) : knB K x = 1 := if_pos h
theorem knB_opp {K : List Int} {x : Int} (hK : Cons K) (h : inS K (-x) = true) : knB K x = -1 := by
  have h1 := hK _ h
  rw [Int.neg_neg] at h1
  unfold knB
  rw [h1, if_neg (by simp), if_pos h]
theorem knB_no {K : List Int} {x : Int} (h1 : inS K x = false) (h2 : inS K (-x) = false) : knB K x = 0 := by
  unfold knB; rw [h1, h2]; rfl
/-- A clause holds. -/
def hld (K c : List Int) : Bool := c.any fun x => inS K x
def lkO (K c : List Int) : Int := if hld K c = true then -1 else ((rst K c).length : Int)
def lkL (K c : List Int) : Int := if hld K c = true then 0 else (rst K c).getLastD 0
theorem hld_yes {K c : List Int} {k : Nat} (h : k < c.length) (hy : inS K (c.getD k 0) = true) : hld K c = true := by
  unfold hld
  rw [List.any_eq_true]
  refine ⟨c[k], List.getElem_mem h, ?_⟩
  rw [show c[k] = c.getD k 0 by simp [List.getD, h]]; exact hy
theorem hld_no {K c : List Int} (h : ∀ j, j < c.length → inS K (c.getD j 0) = false) : hld K c = false := by
  cases hq : hld K c with
  | false => rfl
  | true =>
    unfold hld at hq
    rw [List.any_eq_true] at hq
    obtain ⟨x, hx, h1⟩ := hq
    obtain ⟨i, hi, rfl⟩ := List.getElem_of_mem hx
    have := h i hi
    rw [show c.getD i 0 = c[i] by simp [List.getD, hi], h1] at this
    cases this
theorem mem_rst {K c : List Int} {y : Int} : y ∈ rst K c ↔ y ∈ c ∧ inS K (-y) = false := by unfold rst; rw [List.mem_filter]; simp
def un (K c : List Int) : Bool := decide ((rst K c).length = 1) && !inS K ((rst K c).getD 0 0)
theorem lk_zero {K c : List Int} (hK : Cons K) : lkO K c = 0 ↔ (rst K c).length = 0 := by
  unfold lkO
  cases hq : hld K c with
  | false => simp
  | true =>
    rw [if_pos rfl]
    constructor
    · intro h; omega
    · intro h
      unfold hld at hq
      rw [List.any_eq_true] at hq
      obtain ⟨x, hx, h1⟩ := hq
      have : x ∈ rst K c := mem_rst.2 ⟨hx, hK x h1⟩
      rw [List.eq_nil_of_length_eq_zero h] at this
      simp at this
theorem lk_one {K c : List Int} (hK : Cons K) : lkO K c = 1 ↔ un K c = true := by
  unfold lkO un
  rw [Bool.and_eq_true, decide_eq_true_iff, Bool.not_eq_true']
  cases hq : hld K c with
  | false =>
    simp only [Bool.false_eq_true, if_false]
    constructor
    · intro h
      have h1 : (rst K c).length = 1 := by omega
      refine ⟨h1, ?_⟩
      obtain ⟨y, hy⟩ := List.length_eq_one_iff.1 h1
      have hm : y ∈ c := (mem_rst.1 (by rw [hy]; exact List.mem_cons_self)).1
      rw [hy]
      show inS K y = false
      cases hi : inS K y with
      | false => rfl
      | true =>
        have : hld K c = true := by unfold hld; rw [List.any_eq_true]; exact ⟨y, hm, hi⟩
        rw [hq] at this; cases this
    · rintro ⟨h, -⟩; omega
  | true =>
    rw [if_pos rfl]
    constructor
    · intro h; omega
    · rintro ⟨h1, h2⟩
      exfalso
      unfold hld at hq
      rw [List.any_eq_true] at hq
      obtain ⟨x, hx, hi⟩ := hq
      have hm : x ∈ rst K c := mem_rst.2 ⟨hx, hK x hi⟩
      obtain ⟨y, hy⟩ := List.length_eq_one_iff.1 h1
      rw [hy] at hm h2
      rw [List.mem_singleton.1 hm] at hi
      rw [show ([y].getD 0 0 : Int) = y from rfl, hi] at h2
      cases h2
theorem lk_lit {K c : List Int} (hK : Cons K) (h : lkO K c = 1) : lkL K c = (rst K c).getD 0 0 := by
  have h1 := (lk_one hK).1 h
  unfold un at h1
  rw [Bool.and_eq_true, decide_eq_true_iff] at h1
  obtain ⟨y, hy⟩ := List.length_eq_one_iff.1 h1.1
  unfold lkO at h
  unfold lkL
  cases hq : hld K c with
  | true => rw [hq, if_pos rfl] at h; omega
  | false => rw [if_neg (by simp), hy]; rfl
/-- The first of n with p. -/
def fstP (p : Nat → Bool) (n : Nat) : Option Nat := (List.range n).find? p
theorem fstP_some {p : Nat → Bool} {n i : Nat} (hi : i < n) (h : p i = true) (hj : ∀ j, j < i → p j = false) : fstP p n = some i := by
  unfold fstP
  rw [List.find?_range_eq_some]
  exact ⟨h, List.mem_range.2 hi, fun j hji => by rw [hj j hji]; rfl⟩
theorem fstP_none {p : Nat → Bool} {n : Nat} (hj : ∀ j, j < n → p j = false) : fstP p n = none := by
  unfold fstP
  rw [List.find?_eq_none]
  intro x hx
  rw [hj x (List.mem_range.1 hx)]; simp
theorem fstP_at {p : Nat → Bool} {n i : Nat} (h : fstP p n = some i) : i < n ∧ p i = true ∧ ∀ j, j < i → p j = false := by
  unfold fstP at h
  rw [List.find?_range_eq_some] at h
  exact ⟨List.mem_range.1 h.2.1, h.1, fun j hj => by simpa using h.2.2 j hj⟩
def fb (K : List Int) (C : List (List Int)) : Option Nat := fstP (fun i => decide ((rst K (C.getD i [])).length = 0)) C.length
def fu (K : List Int) (C : List (List Int)) : Option Nat := fstP (fun i => un K (C.getD i [])) C.length
def unL (K : List Int) (C : List (List Int)) (i : Nat) : Int := (rst K (C.getD i [])).getD 0 0
/-- All that must hold: what is known, by which clauses, and the first clause that can't hold. -/
def uK (C : List (List Int)) : Nat → List Int → List Int → List Int × List Int × Int
  | 0, K, Y => (K, Y, -1)
  | f + 1, K, Y => match fb K C with
    | some i => (K, Y, (i : Int))
    | none => match fu K C with
      | none => (K, Y, -1)
      | some i => uK C f (K ++ [unL K C i]) (Y ++ [(i : Int)])
theorem uK_bad {C : List (List Int)} {f : Nat} {K Y : List Int} {i : Nat} (h : fb K C = some i) : uK C (f + 1) K Y = (K, Y, (i : Int)) := by rw [uK, h]
theorem uK_end {C : List (List Int)} {f : Nat} {K Y : List Int} (h : fb K C = none) (h2 : fu K C = none) : uK C (f + 1) K Y = (K, Y, -1) := by rw [uK, h]; simp only; rw [h2]
theorem uK_go {C : List (List Int)} {f : Nat} {K Y : List Int} {i : Nat} (h : fb K C = none) (h2 : fu K C = some i) : uK C (f + 1) K Y = uK C f (K ++ [unL K C i]) (Y ++ [(i : Int)]) := by rw [uK, h]; simp only; rw [h2]
theorem un_new {n : Int} {K : List Int} {C : List (List Int)} {i : Nat} (hK : LitsOk n K) (hC : ∀ k, k < C.length → ClOk n (C.getD k [])) (hi : i < C.length) (h : un K (C.getD i []) = true) : LitsOk n (K ++ [unL K C i]) ∧ unL K C i ∈ C.getD i [] := by
  unfold un at h
  rw [Bool.and_eq_true, decide_eq_true_iff, Bool.not_eq_true'] at h
  obtain ⟨y, hy⟩ := List.length_eq_one_iff.1 h.1
  have hm := mem_rst.1 (show y ∈ rst K (C.getD i []) by rw [hy]; exact List.mem_cons_self)
  have e : unL K C i = y := by unfold unL; rw [hy]; rfl
  rw [hy] at h
  have h2 : inS K y = false := h.2
  rw [e]
  refine ⟨⟨fun x hx => ?_, ?_⟩, hm.1⟩
  · rcases List.mem_append.1 hx with hx | hx
    · exact hK.rng x hx
    · rw [List.mem_singleton.1 hx]; exact cl_mem (hC i hi) hm.1
  · rw [List.map_append]
    refine List.nodup_append.2 ⟨hK.nd, by simp, fun a ha b hb => ?_⟩
    obtain ⟨z, hz, rfl⟩ := List.mem_map.1 ha
    have hb : b = ltr y := by simpa using hb
    rw [hb]
    intro q
    by_cases hzy : z = y
    · rw [hzy] at hz
      rw [inS_mem.2 hz] at h2; cases h2
    · rw [ltr_opp q hzy] at hz
      rw [inS_mem.2 hz] at hm
      cases hm.2
def unB (F : Fm) (G : List Int) : Bool := formB F && litsB F.letters G
def unR (F : Fm) (G : List Int) : List Int × List Int × Int := uK F.cs 11 G (List.replicate G.length (-1))
def unF (F : Fm) (G : List Int) : List Int := bif unB F G then (unR F G).1 else []
def unW (F : Fm) (G : List Int) : Bool := unB F G && decide (0 ≤ (unR F G).2.2)
theorem uK_len (C : List (List Int)) : ∀ (f : Nat) (K Y : List Int), (uK C f K Y).1.length ≤ K.length + f
  | 0, K, Y => Nat.le_refl _
  | f + 1, K, Y => by
    cases h1 : fb K C with
    | some i => rw [uK_bad h1]; simp
    | none =>
      cases h2 : fu K C with
      | none => rw [uK_end h1 h2]; simp
      | some i =>
        rw [uK_go h1 h2]
        have := uK_len C f (K ++ [unL K C i]) (Y ++ [(i : Int)])
        rw [List.length_append] at this
        simp only [List.length_singleton] at this
        omega
theorem unF_len (F : Fm) (G : List Int) : (unF F G).length ≤ 1048576 := by
  unfold unF
  cases h : unB F G with
  | false => simp
  | true =>
    unfold unB at h
    rw [Bool.and_eq_true] at h
    have h1 := formB_ok h.1
    have h2 := litsOk_len h1.n1 h1.n2 (litsB_ok h.2)
    have := uK_len F.cs 11 G (List.replicate G.length (-1))
    unfold unR
    simp only [cond_true]
    omega
end Go.Proofs.Ytnakpfbeeekmiaa
/- Proofs that are checked (plain). -/
namespace Go.Proofs.Ytnakpfbeeekmiaa

/-- Line i of a proof follows from the clauses and the lines before it. -/
def stepB (C P : List (List Int)) (i : Nat) : Bool := decide (0 ≤ (uK (C ++ P.take i) 11 (opp (P.getD i [])) (List.replicate (opp (P.getD i [])).length (-1))).2.2)
def lastB (P : List (List Int)) : Bool := decide ((P.getD (P.length - 1) []).length = 0)
def stepsB (C P : List (List Int)) : Bool := (List.range P.length).all (stepB C P)
def ipB (F : Fm) (P : List (List Int)) : Bool := formB F && (decide (1 ≤ P.length ∧ P.length ≤ 128) && (allCl F.letters P && (lastB P && stepsB F.cs P)))
theorem ip_1 {F : Fm} {P : List (List Int)} (h : formB F = false) : ipB F P = false := by unfold ipB; rw [h]; rfl
theorem ip_2 {F : Fm} {P : List (List Int)} (h : ¬ (1 ≤ P.length ∧ P.length ≤ 128)) : ipB F P = false := by unfold ipB; rw [decide_eq_false h]; simp
theorem ip_3 {F : Fm} {P : List (List Int)} (h : allCl F.letters P = false) : ipB F P = false := by unfold ipB; rw [h]; simp
theorem ip_4 {F : Fm} {P : List (List Int)} (h : lastB P = false) : ipB F P = false := by unfold ipB; rw [h]; simp
theorem ip_5 {F : Fm} {P : List (List Int)} {i : Nat} (hi : i < P.length) (h : stepB F.cs P i = false) : ipB F P = false := by
  have h5 : stepsB F.cs P = false := rngNot hi h
  unfold ipB; rw [h5]; simp
theorem ip_6 {F : Fm} {P : List (List Int)} {i : Nat} (hi : i < P.length) (h : clB F.letters (P.getD i []) = false) : ipB F P = false := ip_3 (allCl_no hi h)
theorem ip_yes {F : Fm} {P : List (List Int)} (h1 : formB F = true) (h2 : 1 ≤ P.length ∧ P.length ≤ 128) (h3 : allCl F.letters P = true) (h4 : lastB P = true) (h5 : ∀ i, i < P.length → stepB F.cs P i = true) : ipB F P = true := by
  have h6 : stepsB F.cs P = true := rngAll h5
  unfold ipB; rw [h1, decide_eq_true h2, h3, h4, h6]; rfl
theorem ip_last {F : Fm} {P : List (List Int)} (h1 : formB F = true) (h2 : 1 ≤ P.length ∧ P.length ≤ 128) (h3 : allCl F.letters P = true) (h5 : ∀ i, i < P.length → stepB F.cs P i = true) : ipB F P = lastB P := by
  have h6 : stepsB F.cs P = true := rngAll h5
  unfold ipB; rw [h1, decide_eq_true h2, h3, h6]; simp
theorem ltr_neg (x : Int) : ltr (-x) = ltr x := by unfold ltr; split <;> split <;> omega
theorem opp_lits {n : Int} {c : List Int} (h : ClOk n c) : LitsOk n (opp c) := by
  refine ⟨fun x hx => ?_, ?_⟩
  · obtain ⟨y, hy, rfl⟩ := List.mem_map.1 hx
    rw [ltr_neg]; exact cl_mem h hy
  · have e : (opp c).map ltr = c.map ltr := by unfold opp; rw [List.map_map]; exact List.map_congr_left fun x _ => ltr_neg x
    rw [e, List.nodup_iff_pairwise_ne, List.pairwise_iff_getElem]
    intro i j hi hj hij
    rw [List.length_map] at hi hj
    have := h.up i j hij hj
    rw [show c.getD i 0 = c[i] by simp [List.getD, hi], show c.getD j 0 = c[j] by simp [List.getD, hj]] at this
    simp only [List.getElem_map]
    omega
theorem cl_rng' {n : Int} {c : List Int} (h : ClOk n c) : ∀ i, i < c.length → -1000 ≤ c.getD i 0 ∧ c.getD i 0 ≤ 1000 := fun i hi => by
  have h1 := h.a i hi
  have h2 := h.n2
  unfold ltr at h1
  split at h1 <;> omega
theorem app_at {C P : List (List Int)} {k : Nat} (hk : k < C.length) : (C ++ P).getD k [] = C.getD k [] := by simp [List.getD, List.getElem?_append_left hk]
theorem app_at2 {C P : List (List Int)} {k : Nat} (hk : C.length ≤ k) : (C ++ P).getD k [] = P.getD (k - C.length) [] := by simp [List.getD, List.getElem?_append_right hk]
theorem app_cl {n : Int} {C P : List (List Int)} {i : Nat} (hi : i ≤ P.length) (hC : ∀ k, k < C.length → ClOk n (C.getD k [])) (hP : ∀ k, k < i → ClOk n (P.getD k [])) : ∀ k, k < (C ++ P.take i).length → ClOk n ((C ++ P.take i).getD k []) := fun k hk => by
  rw [List.length_append, List.length_take] at hk
  by_cases q : k < C.length
  · rw [app_at q]; exact hC k q
  · rw [app_at2 (by omega)]
    have : (P.take i).getD (k - C.length) [] = P.getD (k - C.length) [] := by simp [List.getD, show k - C.length < i by omega]
    rw [this]; exact hP _ (by omega)
end Go.Proofs.Ytnakpfbeeekmiaa
/- The opposites of literals: the model. -/
namespace Go.Proofs.Ytnakpfbeeekmiaa
open Go.RowKit Go.ChangeShapes Go.WideShapes

set_option maxRecDepth 100000 in
set_option maxHeartbeats 2000000 in
theorem l05Opposites_any (v : Value) (c : List Int) (w : World) (hv : IL w v c) (hc : c.length ≤ 64) (hr : ∀ i, i < c.length → -1000 ≤ c.getD i 0 ∧ c.getD i 0 ≤ 1000) :
    Calls Try.prog 55 #[v] w (GrownI (opp c) w) := by
  obtain ⟨i0, hi, hz0, hz1, hz2⟩ := info_parts Try.infoI
  have HR := Lib.hid hr
  have HC : Hid (∀ W, Below w.heap.size w W → ∀ k, k < c.length → ∃ b off cap, v = .slice (some ⟨b, off, none⟩) c.length (c.length + cap) ∧ W.cell? ⟨b, off + k, none⟩ = some (.int .i64 (c.getD k 0))) := Lib.hid fun W h k hk => by
    rcases hv with ⟨hz, -⟩ | ⟨b, off, cap, e, hpos, hbl, hcell⟩
    · rw [hz] at hk; simp at hk
    · exact ⟨b, off, cap, e, by rw [h.cell (p := ⟨b, off + k, none⟩) hbl]; exact hcell k hk⟩
  obtain ⟨ao, cp, rfl⟩ := hv.long
  clear hv hr
  go_enter Try.func55, Try.ntmps55
  go_wp2_with fail
  go_loopg [3, 8] c.length (fun gk s i wr => ∃ k : Nat, k ≤ c.length ∧ gk + k = c.length ∧ i = .int .i64 k ∧ Grows (Value.int .i64) 2 w.heap.size s (opp (c.take k)) wr ∧ Below w.heap.size w wr)
  case atStart => exact ⟨0, Nat.zero_le _, by omega, rfl, Grows.empty _ _ _ _ (Nat.le_refl _), below_alloc _ _⟩
  case round =>
    obtain ⟨k, hk, hgk, rfl, hG, hB⟩ := hrel
    have HG := Lib.hid hG
    have HB := Lib.hid hB
    clear hG hB
    by_cases hlt : k < c.length
    · obtain ⟨b, off, cap, e, cx⟩ := HC.out _ HB.out k hlt
      injection e with e1 _ e3
      subst e1
      obtain ⟨x1, x2⟩ := HR.out k hlt
      have HN := Lib.hid (opp_up hlt)
      have hl : (opp (c.take k)).length = k := by rw [opp_len, List.length_take]; omega
      have HLL := Lib.hid hl
      generalize opp (c.take k) = T at HG HN hl HLL
      generalize c.getD k 0 = x at cx x1 x2 HN
      have wx : IntKind.i64.wrap (-x) = -x := IntWalk.i64_in _ (by omega)
      have hTl : T.length ≤ 64 := by omega
      clear e3 hl
      go_wp2_with (at_builtin; (refine wpList_append_own _ rfl _ _ 25 rfl w.heap.size 2 i0 (.int .i64 0) 1 8 Try.underlying25 hi hz0 hz1 hz2 rfl (by decide) _ _ _ rfl (Grows.alloc HG.out _) ⟨wr.heap.size, 0, none⟩ 1 1 [.int .i64 (-x)] rfl rfl one_new (by intro u hu; simp at hu; subst hu; rfl) (by unfold maxLen; omega) (by omega) (by have := HB.out.size; simp; omega) ?_); intro v' w8 hown hgrow _; (have G8 : Hid (Grows (Value.int .i64) 2 w.heap.size v' (T ++ [-x]) w8) := Lib.hid (Grows.more rfl hown)); (have B8 : Hid (Below w.heap.size w w8) := Lib.hid ((HB.out.alloc HB.out.size _).grown hgrow (by have := HB.out.size; simp; omega) (fun q hq => (World.ownsRow.lt HG.out q hq).1))); clear hown hgrow)
      go_roundg (gk - 1)
      case measure => omega
      case rel => exact ⟨k + 1, by omega, by omega, by go_num, by rw [HN.out]; exact G8.out, B8.out⟩
    · obtain rfl : k = c.length := by omega
      have HG2 : Hid (Grows (Value.int .i64) 2 w.heap.size u3 (opp c) wr) := Lib.hid (by have h := HG.out; rwa [List.take_length] at h)
      go_wp2_with fail
      refine bodyPost_ret (results_tmp rfl _ _ _) rfl ?_
      exact ⟨_, rfl, HG2.out, HB.out⟩
end Go.Proofs.Ytnakpfbeeekmiaa
/- What must hold then: what is open in a clause (the model). -/
namespace Go.Proofs.Ytnakpfbeeekmiaa
open Go.RowKit Go.ChangeShapes Go.WideShapes
set_option maxRecDepth 100000

set_option maxHeartbeats 2000000 in
theorem l05Known_any (g : Nat) (kv : Value) (K : List Int) (x : Int) (w : World) (hc : w.cell? ⟨g, 0, none⟩ = some kv) (hk : IL w kv K) (hK : Cons K) (hx : -1000 ≤ x ∧ x ≤ 1000) (hn : K.length ≤ 64) :
    Calls Try.prog 99 #[.pointer (some ⟨g, 0, none⟩), .int .i64 x] w (fun e w' => e = .returned (.int .i64 (knB K x)) ∧ w = w') := by
  have HK := Lib.hid hK
  have HC : Hid (∀ k, k < K.length → ∃ b off cap, kv = .slice (some ⟨b, off, none⟩) K.length (K.length + cap) ∧ w.cell? ⟨b, off + k, none⟩ = some (.int .i64 (K.getD k 0))) := Lib.hid fun k hlt => by
    rcases hk with ⟨hz, -⟩ | ⟨b, off, cap, e, hpos, hbl, hcell⟩
    · rw [hz] at hlt; simp at hlt
    · exact ⟨b, off, cap, e, hcell k hlt⟩
  obtain ⟨ao, cp, rfl⟩ := hk.long
  have wx : IntKind.i64.wrap (-x) = -x := IntWalk.i64_in _ (by omega)
  clear hk hK
  go_enter Try.func99, Try.ntmps99
  go_wp2_with fail
  go_loopg [11] K.length (fun gk i wr => ∃ k : Nat, k ≤ K.length ∧ gk + k = K.length ∧ i = .int .i64 k ∧ (∀ j, j < k → (K.getD j 0 == x) = false ∧ (K.getD j 0 == -x) = false) ∧ w = wr)
  case atStart => exact ⟨0, Nat.zero_le _, by omega, rfl, fun j hj => by omega, rfl⟩
  case round =>
    obtain ⟨k, hkl, hgk, rfl, hj, rfl⟩ := hrel
    have HJ := Lib.hid hj
    clear hj
    by_cases hlt : k < K.length
    · obtain ⟨b, off, cap, e, ck⟩ := HC.out k hlt
      injection e with e1 _ e3
      subst e1
      have HKY : Hid (K.getD k 0 = x → knB K x = 1) := Lib.hid fun e => knB_yes (inS_mem.2 (by rw [← e, show K.getD k 0 = K[k] by simp [List.getD, hlt]]; exact List.getElem_mem _))
      have HKO : Hid (K.getD k 0 = -x → knB K x = -1) := Lib.hid fun e => knB_opp HK.out (inS_mem.2 (by rw [← e, show K.getD k 0 = K[k] by simp [List.getD, hlt]]; exact List.getElem_mem _))
      obtain ⟨y, hy⟩ : ∃ y, K.getD k 0 = y := ⟨_, rfl⟩
      have HY := Lib.hid hy
      rw [hy] at ck HKY HKO
      clear e3 hy
      by_cases c1 : y = x
      · have HE := Lib.hid (HKY.out c1)
        subst c1
        clear HKY HKO
        go_wp2_with fail
        go_ret
        exact ⟨ret_int HE.out.symm, rfl⟩
      · have c1' : (y == x) = false := by simpa using c1
        by_cases c2 : y = -x
        · have HE := Lib.hid (HKO.out c2)
          have c2' : (y == -x) = true := by simpa using c2
          clear HKY HKO c2
          go_wp2_with fail
          go_ret
          exact ⟨ret_int HE.out.symm, rfl⟩
        · have c2' : (y == -x) = false := by simpa using c2
          have HJ2 : Hid (∀ j, j < k + 1 → (K.getD j 0 == x) = false ∧ (K.getD j 0 == -x) = false) := Lib.hid fun j hj => by
            by_cases e : j = k
            · subst e; rw [HY.out]; exact ⟨c1', c2'⟩
            · exact HJ.out j (by omega)
          clear HKY HKO
          go_wp2_with fail
          go_roundg (gk - 1)
          case measure => omega
          case rel => exact ⟨k + 1, by omega, by omega, by go_num, HJ2.out, rfl⟩
    · obtain rfl : k = K.length := by omega
      have HE : Hid (knB K x = 0) := Lib.hid (knB_no (by
        cases hq : inS K x with
        | false => rfl
        | true =>
          unfold inS at hq
          rw [List.any_eq_true] at hq
          obtain ⟨i, hi, h⟩ := hq
          rw [(HJ.out i (List.mem_range.1 hi)).1] at h; cases h) (by
        cases hq : inS K (-x) with
        | false => rfl
        | true =>
          unfold inS at hq
          rw [List.any_eq_true] at hq
          obtain ⟨i, hi, h⟩ := hq
          rw [(HJ.out i (List.mem_range.1 hi)).2] at h; cases h))
      go_wp2_with fail
      go_ret
      exact ⟨ret_int HE.out.symm, rfl⟩
set_option maxHeartbeats 2000000 in
theorem l05Look_any (g : Nat) (kv cv : Value) (K c : List Int) (w : World) (hc : w.cell? ⟨g, 0, none⟩ = some kv) (hk : IL w kv K) (hv : IL w cv c) (hK : Cons K) (hr : ∀ i, i < c.length → -1000 ≤ c.getD i 0 ∧ c.getD i 0 ≤ 1000) (hn : K.length ≤ 64) (hcl : c.length ≤ 64) :
    Calls Try.prog 93 #[.pointer (some ⟨g, 0, none⟩), cv] w (fun e w' => e = .returned (.tuple #[.int .i64 (lkO K c), .int .i64 (lkL K c)]) ∧ w = w') := by
  have HR := Lib.hid hr
  have KN := Lib.hid fun x (hx : -1000 ≤ x ∧ x ≤ 1000) => l05Known_any g kv K x w hc hk hK hx hn
  have HK := Lib.hid hK
  have HC : Hid (∀ k, k < c.length → ∃ b off cap, cv = .slice (some ⟨b, off, none⟩) c.length (c.length + cap) ∧ w.cell? ⟨b, off + k, none⟩ = some (.int .i64 (c.getD k 0))) := Lib.hid fun k hlt => by
    rcases hv with ⟨hz, -⟩ | ⟨b, off, cap, e, hpos, hbl, hcell⟩
    · rw [hz] at hlt; simp at hlt
    · exact ⟨b, off, cap, e, hcell k hlt⟩
  obtain ⟨ao, cp, rfl⟩ := hv.long
  clear hk hK hc hr hv
  go_enter Try.func93, Try.ntmps93
  go_wp2_with fail
  go_loopg [6, 7, 12] c.length (fun gk o l i wr => ∃ k : Nat, k ≤ c.length ∧ gk + k = c.length ∧ i = .int .i64 k ∧ o = .int .i64 ((rst K (c.take k)).length : Int) ∧ l = .int .i64 ((rst K (c.take k)).getLastD 0) ∧ (∀ j, j < k → inS K (c.getD j 0) = false) ∧ w = wr)
  case atStart => exact ⟨0, Nat.zero_le _, by omega, rfl, rfl, rfl, fun j hj => by omega, rfl⟩
  case round =>
    obtain ⟨k, hkl, hgk, rfl, rfl, rfl, hj, rfl⟩ := hrel
    have HJ := Lib.hid hj
    clear hj
    have hl : (rst K (c.take k)).length ≤ k := by
      have := rst_len K (c.take k)
      rw [List.length_take] at this
      omega
    by_cases hlt : k < c.length
    · obtain ⟨b, off, cap, e, ck⟩ := HC.out k hlt
      injection e with e1 _ e3
      subst e1
      have HN1 := Lib.hid (@rst_yes K c k hlt)
      have HN2 := Lib.hid (@rst_no K c k hlt)
      have HHY := Lib.hid (@hld_yes K c k hlt)
      have hx := HR.out k hlt
      obtain ⟨x, hxx⟩ : ∃ x, c.getD k 0 = x := ⟨_, rfl⟩
      have HX := Lib.hid hxx
      rw [hxx] at ck hx HN1 HN2 HHY
      have CK := Lib.hid (KN.out x hx)
      generalize rst K (c.take k) = T at hl HN1 HN2
      obtain ⟨l0, hl0⟩ : ∃ l0, T.getLastD 0 = l0 := ⟨_, rfl⟩
      obtain ⟨o0, ho0⟩ : ∃ o0, T.length = o0 := ⟨_, rfl⟩
      have HO := Lib.hid ho0
      have HL := Lib.hid hl0
      rw [ho0, hl0]
      rw [ho0] at hl
      clear e3 hxx ho0 hl0 hx
      cases p : inS K x with
      | true =>
        have HH := Lib.hid (HHY.out p)
        rw [knB_yes p] at CK
        clear p HN1 HN2 HHY
        go_wp2_with fail
        go_at_call 99; refine CK.out.mono ?_; rintro e w' ⟨rfl, rfl⟩
        go_wp2_with fail
        go_ret2
        exact ⟨by unfold lkO lkL; rw [HH.out]; rfl, rfl⟩
      | false =>
        have HP := Lib.hid p
        have HJ2 : Hid (∀ j, j < k + 1 → inS K (c.getD j 0) = false) := Lib.hid fun j hj => by
          by_cases e : j = k
          · subst e; rw [HX.out]; exact HP.out
          · exact HJ.out j (by omega)
        cases q : inS K (-x) with
        | true =>
          have HN := Lib.hid (HN2.out q)
          rw [knB_opp HK.out q] at CK
          clear p q HN1 HN2 HHY
          go_wp2_with fail
          go_at_call 99; refine CK.out.mono ?_; rintro e w' ⟨rfl, rfl⟩
          go_wp2_with fail
          go_roundg (gk - 1)
          case measure => omega
          case rel => exact ⟨k + 1, by omega, by omega, by go_num, by rw [HN.out, HO.out], by rw [HN.out, HL.out], HJ2.out, rfl⟩
        | false =>
          have HN := Lib.hid (HN1.out q)
          rw [knB_no p q] at CK
          clear p q HN1 HN2 HHY
          go_wp2_with fail
          go_at_call 99; refine CK.out.mono ?_; rintro e w' ⟨rfl, rfl⟩
          go_wp2_with fail
          go_roundg (gk - 1)
          case measure => omega
          case rel => exact ⟨k + 1, by omega, by omega, by go_num, by rw [HN.out, List.length_append, HO.out]; go_num, by rw [HN.out]; simp, HJ2.out, rfl⟩
    · obtain rfl : k = c.length := by omega
      have HH := Lib.hid (hld_no HJ.out)
      have HT : Hid (rst K (c.take c.length) = rst K c) := Lib.hid (by rw [List.take_length])
      obtain ⟨l0, hl0⟩ : ∃ l0, (rst K (c.take c.length)).getLastD 0 = l0 := ⟨_, rfl⟩
      obtain ⟨o0, ho0⟩ : ∃ o0, (rst K (c.take c.length)).length = o0 := ⟨_, rfl⟩
      rw [ho0, hl0]
      have HO := Lib.hid ho0
      have HL := Lib.hid hl0
      clear ho0 hl0
      go_wp2_with fail
      go_ret2
      exact ⟨by unfold lkO lkL; rw [HH.out, ← HT.out, HO.out, HL.out]; rfl, rfl⟩
end Go.Proofs.Ytnakpfbeeekmiaa
/- What must hold then: the model's state, two lists that grow in a box. -/
namespace Go.Proofs.Ytnakpfbeeekmiaa
open Go.RowKit Go.ChangeShapes Go.WideShapes

/-- The state in block g: what is known, by which clauses, which clause is wrong. -/
structure StU (g : Nat) (kv bv : Value) (K Y : List Int) (ws : Int) (w wr : World) : Prop where
  box : wr.heap[g]? = some (.cells #[kv, bv, .int .i64 ws] 63 (0, 0))
  known : Grows (Value.int .i64) 2 w.heap.size kv K wr
  bys : Grows (Value.int .i64) 3 w.heap.size bv Y wr
  below : Below w.heap.size w wr
  ge : w.heap.size ≤ g
theorem StU.lt {g : Nat} {kv bv : Value} {K Y : List Int} {ws : Int} {w wr : World} (h : StU g kv bv K Y ws w wr) : g < wr.heap.size := (Array.getElem?_eq_some_iff.1 h.box).1
theorem StU.cells {g : Nat} {kv bv : Value} {K Y : List Int} {ws : Int} {w wr : World} (h : StU g kv bv K Y ws w wr) :
    wr.cell? ⟨g, 0, none⟩ = some kv ∧ wr.cell? ⟨g, 1, none⟩ = some bv ∧ wr.cell? ⟨g, 2, none⟩ = some (.int .i64 ws) ∧ ∀ i, wr.frozen? ⟨g, i, none⟩ = false :=
  ⟨by rw [Lib.cell_of_heap h.box]; rfl, by rw [Lib.cell_of_heap h.box]; rfl, by rw [Lib.cell_of_heap h.box]; rfl, fun i => Lib.frozen_of_heap h.box i⟩
theorem StU.keep {g : Nat} {kv bv : Value} {K Y : List Int} {ws : Int} {w wr w2 : World} (h : StU g kv bv K Y ws w wr) (b : Below wr.heap.size wr w2) : StU g kv bv K Y ws w w2 :=
  ⟨by rw [b.block g h.lt]; exact h.box, h.known.below b (Nat.le_refl _), h.bys.below b (Nat.le_refl _), h.below.trans (b.mono h.below.size), h.ge⟩
theorem StU.apart {g : Nat} {kv bv : Value} {K Y : List Int} {ws : Int} {w wr : World} (h : StU g kv bv K Y ws w wr) : kv.ownBlock ≠ some g ∧ bv.ownBlock ≠ some g ∧ (bv.ownBlock = none ∨ bv.ownBlock ≠ kv.ownBlock) ∧ (kv.ownBlock = none ∨ kv.ownBlock ≠ bv.ownBlock) := by
  have n1 : kv.ownBlock ≠ some g := Lib.ownBlock_ne h.known h.box (by decide)
  have n2 : bv.ownBlock ≠ some g := Lib.ownBlock_ne h.bys h.box (by decide)
  have n3 : ∀ b, kv.ownBlock = some b → bv.ownBlock ≠ some b := fun b hb => by
    rcases h.known.2 with ⟨e, _⟩ | ⟨q, cap, cur, e, _, hq, _⟩
    · rw [e] at hb; cases hb
    · rw [e] at hb
      have hb : q = b := by injection hb
      subst hb
      exact Lib.ownBlock_ne h.bys hq (by decide)
  refine ⟨n1, n2, ?_, ?_⟩
  · cases hb : bv.ownBlock with
    | none => exact Or.inl rfl
    | some b => exact Or.inr fun e => n3 b e.symm hb
  · cases hb : kv.ownBlock with
    | none => exact Or.inl rfl
    | some b => exact Or.inr fun e => n3 b hb e.symm
theorem box_set {g i : Nat} {u : Value} {cs : Array Value} {e : TypeId} {w : World} (h : w.heap[g]? = some (.cells cs e (0, 0))) : (w.setCell ⟨g, i, none⟩ u).heap[g]? = some (.cells (cs.setIfInBounds i u) e (0, 0)) := by
  rw [World.setCell]
  simp only [Array.getElem?_modify, if_true, h]
  rfl
/-- The fields stand while the known literals grow. -/
theorem StU.keptK {g : Nat} {kv bv : Value} {K Y : List Int} {ws : Int} {w wr w0 w1 : World} (h : StU g kv bv K Y ws w wr) (h0 : Below wr.heap.size wr w0) (hgr : w0.grownBy w1 kv.ownBlock) :
    w1.cell? ⟨g, 0, none⟩ = some kv ∧ w1.cell? ⟨g, 1, none⟩ = some bv ∧ w1.frozen? ⟨g, 0, none⟩ = false ∧ w1.frozen? ⟨g, 1, none⟩ = false := by
  have hk := h.keep h0
  have hb : w1.heap[g]? = some (.cells #[kv, bv, .int .i64 ws] 63 (0, 0)) := by rw [hgr.block g hk.lt (fun e => h.apart.1 e.symm)]; exact hk.box
  exact ⟨by rw [Lib.cell_of_heap hb]; rfl, by rw [Lib.cell_of_heap hb]; rfl, Lib.frozen_of_heap hb 0, Lib.frozen_of_heap hb 1⟩
theorem StU.nextK {g gg cap : Nat} {x ws : Int} {kv bv : Value} {K Y : List Int} {w wr w0 w1 : World} (h : StU g kv bv K Y ws w wr) (h0 : Below wr.heap.size wr w0)
    (hown : w1.ownsRow w.heap.size 2 1 (.slice (some ⟨gg, 0, none⟩) (K.length + 1) cap) (K.length + 1) (K.map (Value.int .i64) ++ [.int .i64 x])) (hgr : w0.grownBy w1 kv.ownBlock) (q : Nat) :
    StU g (.slice (some ⟨gg, 0, none⟩) (K.length + 1) cap) bv (K ++ [x]) Y ws w ((w1.drewN q).setCell ⟨g, 0, none⟩ (.slice (some ⟨gg, 0, none⟩) (K.length + 1) cap)) := by
  have hk := h.keep h0
  obtain ⟨n1, n2, n3, n4⟩ := hk.apart
  have hb1 : w1.heap[g]? = some (.cells #[kv, bv, .int .i64 ws] 63 (0, 0)) := by rw [hgr.block g hk.lt (fun e => n1 e.symm)]; exact hk.box
  have hnew : Grows (Value.int .i64) 2 w.heap.size (.slice (some ⟨gg, 0, none⟩) (K.length + 1) cap) (K ++ [x]) w1 := Grows.more (news := [x]) rfl hown
  have m1 : (Value.slice (some ⟨gg, 0, none⟩) (K.length + 1) cap).ownBlock ≠ some g := Lib.ownBlock_ne hown hb1 (by decide)
  have hby : Grows (Value.int .i64) 3 w.heap.size bv Y w1 := World.ownsRow.kept hk.bys hgr n3
  have hgw : (w1.drewN q).grownBy ((w1.drewN q).setCell ⟨g, 0, none⟩ (.slice (some ⟨gg, 0, none⟩) (K.length + 1) cap)) (some g) := grown_set _ _ _ _
  refine ⟨box_set (w := w1.drewN q) hb1, World.ownsRow.kept (w := w1.drewN q) hnew hgw (Or.inr m1), World.ownsRow.kept (w := w1.drewN q) hby hgw (Or.inr n2), ?_, h.ge⟩
  have hb9 : Below w.heap.size w w1 := hk.below.grown hgr hk.below.size (fun b hb => (World.ownsRow.lt hk.known b hb).1)
  exact (below_drewN hb9 q).setCell h.ge _
theorem StU.keptY {g : Nat} {kv bv : Value} {K Y : List Int} {ws : Int} {w wr w0 w1 : World} (h : StU g kv bv K Y ws w wr) (h0 : Below wr.heap.size wr w0) (hgr : w0.grownBy w1 bv.ownBlock) :
    w1.cell? ⟨g, 1, none⟩ = some bv ∧ w1.frozen? ⟨g, 1, none⟩ = false := by
  have hk := h.keep h0
  have hb : w1.heap[g]? = some (.cells #[kv, bv, .int .i64 ws] 63 (0, 0)) := by rw [hgr.block g hk.lt (fun e => h.apart.2.1 e.symm)]; exact hk.box
  exact ⟨by rw [Lib.cell_of_heap hb]; rfl, Lib.frozen_of_heap hb 1⟩
theorem StU.nextY {g gg cap : Nat} {x ws : Int} {kv bv : Value} {K Y : List Int} {w wr w0 w1 : World} (h : StU g kv bv K Y ws w wr) (h0 : Below wr.heap.size wr w0)
    (hown : w1.ownsRow w.heap.size 3 1 (.slice (some ⟨gg, 0, none⟩) (Y.length + 1) cap) (Y.length + 1) (Y.map (Value.int .i64) ++ [.int .i64 x])) (hgr : w0.grownBy w1 bv.ownBlock) (q : Nat) :
    StU g kv (.slice (some ⟨gg, 0, none⟩) (Y.length + 1) cap) K (Y ++ [x]) ws w ((w1.drewN q).setCell ⟨g, 1, none⟩ (.slice (some ⟨gg, 0, none⟩) (Y.length + 1) cap)) := by
  have hk := h.keep h0
  obtain ⟨n1, n2, n3, n4⟩ := hk.apart
  have hb1 : w1.heap[g]? = some (.cells #[kv, bv, .int .i64 ws] 63 (0, 0)) := by rw [hgr.block g hk.lt (fun e => n2 e.symm)]; exact hk.box
  have hnew : Grows (Value.int .i64) 3 w.heap.size (.slice (some ⟨gg, 0, none⟩) (Y.length + 1) cap) (Y ++ [x]) w1 := Grows.more (news := [x]) rfl hown
  have m1 : (Value.slice (some ⟨gg, 0, none⟩) (Y.length + 1) cap).ownBlock ≠ some g := Lib.ownBlock_ne hown hb1 (by decide)
  have hkn : Grows (Value.int .i64) 2 w.heap.size kv K w1 := World.ownsRow.kept hk.known hgr n4
  have hgw : (w1.drewN q).grownBy ((w1.drewN q).setCell ⟨g, 1, none⟩ (.slice (some ⟨gg, 0, none⟩) (Y.length + 1) cap)) (some g) := grown_set _ _ _ _
  refine ⟨box_set (w := w1.drewN q) hb1, World.ownsRow.kept (w := w1.drewN q) hkn hgw (Or.inr n1), World.ownsRow.kept (w := w1.drewN q) hnew hgw (Or.inr m1), ?_, h.ge⟩
  have hb9 : Below w.heap.size w w1 := hk.below.grown hgr hk.below.size (fun b hb => (World.ownsRow.lt hk.bys b hb).1)
  exact (below_drewN hb9 q).setCell h.ge _
theorem StU.start {w w1 : World} (hb : Below w.heap.size w w1) : StU w1.heap.size (.slice none 0 0) (.slice none 0 0) [] [] (-1) w (w1.alloc (.cells #[.slice none 0 0, .slice none 0 0, .int .i64 (-1)] 63)) :=
  ⟨heap_alloc_new w1 _, Grows.nil _ _ _ _, Grows.nil _ _ _ _, hb.alloc hb.size _, hb.size⟩
theorem StU.wrong {g : Nat} {kv bv : Value} {K Y : List Int} {ws : Int} {w wr : World} (h : StU g kv bv K Y ws w wr) (x : Int) : StU g kv bv K Y x w (wr.setCell ⟨g, 2, none⟩ (.int .i64 x)) := by
  obtain ⟨n1, n2, -, -⟩ := h.apart
  have hgw : wr.grownBy (wr.setCell ⟨g, 2, none⟩ (.int .i64 x)) (some g) := grown_set _ _ _ _
  exact ⟨box_set h.box, World.ownsRow.kept h.known hgw (Or.inr n1), World.ownsRow.kept h.bys hgw (Or.inr n2), h.below.setCell h.ge _, h.ge⟩
end Go.Proofs.Ytnakpfbeeekmiaa
/- What must hold then: the model. -/
namespace Go.Proofs.Ytnakpfbeeekmiaa
open Go.RowKit Go.ChangeShapes Go.WideShapes
set_option maxRecDepth 100000

theorem Try.infoInt : (Try.prog.info? 3).map (fun i => (i.zero, i.size, i.bytes)) = some (some (.int .i64 0), 1, 8) := by kernel_rfl
/-- A box of three cells that may be written. -/
structure Res3 (w : World) (g : Nat) : Prop where
  c0 : ∃ u, w.cell? ⟨g, 0, none⟩ = some u
  c1 : ∃ u, w.cell? ⟨g, 1, none⟩ = some u
  c2 : ∃ u, w.cell? ⟨g, 2, none⟩ = some u
  free : ∀ i, w.frozen? ⟨g, i, none⟩ = false
theorem Res3.keep {B : Nat} {w w' : World} {g : Nat} (h : Res3 w g) (hb : Below B w w') (hg : g < B) : Res3 w' g := by
  obtain ⟨⟨u, h0⟩, ⟨v, h1⟩, ⟨t, h2⟩, hf⟩ := h
  exact ⟨⟨u, by rw [hb.cell (p := ⟨g, 0, none⟩) hg]; exact h0⟩, ⟨v, by rw [hb.cell (p := ⟨g, 1, none⟩) hg]; exact h1⟩, ⟨t, by rw [hb.cell (p := ⟨g, 2, none⟩) hg]; exact h2⟩, fun i => by rw [hb.frozen (p := ⟨g, i, none⟩) hg]; exact hf i⟩
/-- What the model's units answer. -/
def UnitsS (R : List Int × List Int × Int) (w : World) (e : Ending) (w' : World) : Prop :=
  ∃ kv bv, e = .returned (.agg #[kv, bv, .int .i64 R.2.2]) ∧ Grows (Value.int .i64) 2 w.heap.size kv R.1 w' ∧ Grows (Value.int .i64) 3 w.heap.size bv R.2.1 w' ∧ Below w.heap.size w w'
theorem turned_row {mk : Int → Value} {E B g : Nat} {v : Value} {Z : List Int} {w X : World} (h : Grows mk E (g + 1) v Z w) (ht : Turned g (g + 1) w X) (hB : B ≤ g + 1) : Grows mk E B v Z X := by
  have hg : w.grownBy X (some g) := ⟨ht.os, ht.tape, ht.output, ht.size, fun k hk hne => ht.block k hk (by
    by_cases e : k = g
    · subst e; exact absurd rfl hne
    · omega)⟩
  refine Grows.lower (World.ownsRow.kept h hg ?_) hB
  cases q : v.ownBlock with
  | none => exact Or.inl rfl
  | some b => exact Or.inr (fun e => by have h2 := (World.ownsRow.lt h b q).1; injection e with e; omega)
theorem units_end {g : Nat} {kv bv : Value} {K Y : List Int} {ws : Int} {R : List Int × List Int × Int} {w W1 wr X : World} (h1 : Below w.heap.size w W1 ∧ W1.heap.size = w.heap.size + 1) (h : StU g kv bv K Y ws W1 wr) (ht : Turned w.heap.size (w.heap.size + 1) wr X) (hR : (K, Y, ws) = R) :
    UnitsS R w (.returned (.agg #[kv, bv, .int .i64 ws])) X := by
  subst hR
  have hk := h.known
  have hy := h.bys
  rw [h1.2] at hk hy
  exact ⟨kv, bv, rfl, turned_row hk ht (by omega), turned_row hy ht (by omega), (h1.1.trans (h.below.mono h1.1.size)).trans ((ht.below (by have := h.below.size; omega)).mono (by omega))⟩
set_option maxHeartbeats 16000000 in
theorem l05Units_any (n : Int) (v : Value) (C : List (List Int)) (u : Value) (G : List Int) (w : World) (hv : LV w v C) (hu : IL w u G) (n1 : 1 ≤ n) (n2 : n ≤ 10) (hC : ∀ k, k < C.length → ClOk n (C.getD k [])) (few : C.length ≤ 1000) (hG : LitsOk n G) :
    Calls Try.prog 49 #[v, u] w (UnitsS (uK C 11 G (List.replicate G.length (-1))) w) := by
  obtain ⟨i0, hi, hz0, hz1, hz2⟩ := info_parts Try.infoI
  obtain ⟨n0, hn, hy0, hy1, hy2⟩ := info_parts Try.infoInt
  have HC := Lib.hid hC
  have HGO := Lib.hid hG
  have HL : Hid (∀ W, Below w.heap.size w W → LV W v C) := Lib.hid fun W b => hv.below b (Nat.le_refl _)
  have HU : Hid (∀ W, Below w.heap.size w W → IL W u G) := Lib.hid fun W b => hu.below b (Nat.le_refl _)
  have hgl := litsOk_len n1 n2 hG
  obtain ⟨R, hR⟩ : ∃ R, uK C 11 G (List.replicate G.length (-1)) = R := ⟨_, rfl⟩
  have HR0 := Lib.hid hR
  rw [hR]
  obtain ⟨va, vc, rfl⟩ := hv.long
  obtain ⟨ua, uc, rfl⟩ := hu.long
  obtain ⟨W1, hW1⟩ : ∃ W1, W1 = w.alloc (.cells #[.slice none 0 0, .slice none 0 0, .int .i64 0] 63) := ⟨_, rfl⟩
  have HW0 : Hid (Below w.heap.size w W1 ∧ W1.heap.size = w.heap.size + 1) := Lib.hid (by rw [hW1]; exact ⟨below_alloc _ _, by simp⟩)
  have HR3 : Hid (Res3 W1 w.heap.size) := Lib.hid (by rw [hW1]; exact ⟨⟨.slice none 0 0, by go_simp⟩, ⟨.slice none 0 0, by go_simp⟩, ⟨.int .i64 0, by go_simp⟩, fun i => by go_simp⟩)
  have hw1 : W1.heap.size = w.heap.size + 1 := HW0.out.2
  have HBW : Hid (∀ W, Below W1.heap.size W1 W → Below w.heap.size w W) := Lib.hid fun W b => HW0.out.1.trans (b.mono HW0.out.1.size)
  have S0 : Hid (StU (w.heap.size + 1) (.slice none 0 0) (.slice none 0 0) [] [] (-1) W1 (W1.alloc (.cells #[.slice none 0 0, .slice none 0 0, .int .i64 (-1)] 63))) := Lib.hid (by have h := StU.start (Below.refl W1.heap.size W1); rw [hw1] at h; exact h)
  have HW1 := Lib.hid hW1
  clear hv hu hC hG hR hW1
  go_enter Try.func49, Try.ntmps49
  go_wp2_with fail
  rw [← HW1.out]
  go_loopg [15] G.length (fun gk i wr => ∃ (k : Nat) (kv bv : Value), k ≤ G.length ∧ gk + k = G.length ∧ i = .int .i64 k ∧ StU (w.heap.size + 1) kv bv (G.take k) (List.replicate k (-1)) (-1) W1 wr)
  case atStart => exact ⟨0, _, _, Nat.zero_le _, by omega, rfl, S0.out⟩
  case round =>
    clear S0
    obtain ⟨k, kv, bv, hk, hgk, rfl, hS⟩ := hrel
    have HS := Lib.hid hS
    have hgw := hS.lt
    have hww : W1.heap.size ≤ wr.heap.size := hS.below.size
    clear hS
    by_cases hlt : k < G.length
    · obtain ⟨c0, c1, c2, cf⟩ := HS.out.cells
      have cf0 := cf 0
      have cf1 := cf 1
      have HUC : Hid (IL wr (.slice ua G.length uc) G) := Lib.hid (HU.out _ (HBW.out _ HS.out.below))
      rcases HUC.out with ⟨hz, -⟩ | ⟨b, off, cap, e, hpos, hbl, hcell⟩
      · rw [hz] at hlt; simp at hlt
      injection e with e1 _ e3
      subst e1
      have cx := hcell k hlt
      have HN1 : Hid (G.take (k + 1) = G.take k ++ [G.getD k 0]) := Lib.hid (by rw [List.take_succ_eq_append_getElem hlt]; simp [List.getD, hlt])
      have HN2 : Hid (List.replicate (k + 1) (-1 : Int) = List.replicate k (-1) ++ [-1]) := Lib.hid List.replicate_succ'
      have hT : (G.take k).length = k := by rw [List.length_take]; omega
      have hY : (List.replicate k (-1 : Int)).length = k := List.length_replicate
      generalize G.take k = T at HS HN1 hT
      generalize List.replicate k (-1 : Int) = Y at HS HN2 hY
      generalize G.getD k 0 = x at cx HN1
      have HOWN : Hid (∀ W, Below wr.heap.size wr W → W.ownsRow W1.heap.size 2 1 kv T.length (T.map (Value.int .i64))) := Lib.hid fun W b => (HS.out.keep b).known
      have c0a : ∀ o, (wr.alloc o).cell? ⟨w.heap.size + 1, 0, none⟩ = some kv := fun o => keep_cell c0 (below_alloc wr o) hgw
      have HT := Lib.hid hT
      have HY := Lib.hid hY
      have hTl : T.length ≤ 10 := by omega
      have hYl : Y.length ≤ 10 := by omega
      clear e3 hcell hbl hpos hT hY cf
      go_wp2_with fail
      go_region_law (first
        | (refine step_append_lies _ (by rfl) _ _ _ (by rfl) W1.heap.size 2 i0 _ 1 8 Try.underlying25 hi hz0 hz1 hz2 rfl (by omega) kv T.length (T.map (Value.int .i64)) (by rfl) (HOWN.out _ (by first | exact below_alloc wr _ | exact (below_drewN (Below.refl wr.heap.size wr) _).alloc (Nat.le_refl _) _ | exact below_drewN (below_alloc wr _) _ | exact (Below.refl wr.heap.size wr).drew.alloc (Nat.le_refl _) _ | exact (below_alloc wr _).drew)) ⟨wr.heap.size, 0, none⟩ 1 1 [.int .i64 x] (by rfl) (by rfl) (World.news_of_block (cs := #[_]) (t := 2) (fr := (0, 0)) (heap_alloc_new _ _)) (by simp [Value.oneCell']) (by omega) (by unfold maxLen; omega) (by omega) (by simp; omega) (wr.heap.size + 1) (by simp) ?_; intro gg gcap w9 hown hgrow hat hlt9; obtain ⟨hk9, hk91, hf9, hf91⟩ := HS.out.keptK (by first | exact below_alloc wr _ | exact (below_drewN (Below.refl wr.heap.size wr) _).alloc (Nat.le_refl _) _ | exact below_drewN (below_alloc wr _) _ | exact (Below.refl wr.heap.size wr).drew.alloc (Nat.le_refl _) _ | exact (below_alloc wr _).drew) hgrow; have HNX := Lib.hid (fun q => StU.nextK HS.out (by first | exact below_alloc wr _ | exact (below_drewN (Below.refl wr.heap.size wr) _).alloc (Nat.le_refl _) _ | exact below_drewN (below_alloc wr _) _ | exact (Below.refl wr.heap.size wr).drew.alloc (Nat.le_refl _) _ | exact (below_alloc wr _).drew) hown hgrow q); clear hown hgrow hat hlt9))
      all_goals
        generalize hwB : World.setCell _ _ _ = wB
        have H5 : Hid (StU (w.heap.size + 1) (.slice (some ⟨gg, 0, none⟩) (T.length + 1) gcap) bv (T ++ [x]) Y (-1) W1 wB) := Lib.hid (by rw [← hwB]; exact HNX.out 0)
        clear hwB c0 c1 c2 cf0 cf1 c0a hk9 hk91 hf9 hf91
        obtain ⟨d0, d1, d2, df⟩ := H5.out.cells
        have df1 := df 1
        have hwB2 := H5.out.lt
        have hwB3 : W1.heap.size ≤ wB.heap.size := H5.out.below.size
        clear df
        go_wp2_with (at_builtin; (refine wpList_append_lies _ rfl _ _ 61 rfl W1.heap.size 3 n0 (.int .i64 0) 1 8 Try.underlying61 hn hy0 hy1 hy2 rfl (by decide) _ _ _ rfl (World.ownsRow.alloc H5.out.bys _) ⟨wB.heap.size, 0, none⟩ 1 1 [.int .i64 (-1)] rfl rfl one_new (by intro u hu; simp at hu; subst hu; rfl) (by omega) (by unfold maxLen; omega) (by omega) (by simp; omega) (wB.heap.size + 1) (by simp) ?_); intro gb capb wb hown hgrow hat hgl; (have HNB := Lib.hid (fun q => StU.nextY H5.out (below_alloc wB _) hown hgrow q)); (obtain ⟨kb9, fb9⟩ := H5.out.keptY (below_alloc wB _) hgrow); clear hown hgrow hat)
        go_roundg (gk - 1)
        case measure => omega
        case rel => exact ⟨k + 1, _, _, by omega, by omega, by go_num, by rw [HN1.out, HN2.out]; exact HNB.out 0⟩
    · obtain rfl : k = G.length := by omega
      have HS2 : Hid (StU (w.heap.size + 1) kv bv G (List.replicate G.length (-1)) (-1) W1 wr) := Lib.hid (by have h := HS.out; rwa [List.take_length] at h)
      have hY : (List.replicate G.length (-1 : Int)).length = G.length := List.length_replicate
      generalize List.replicate G.length (-1 : Int) = Y0 at HS2 HR0 hY
      clear HS
      go_wp2_with fail
      go_loopg [7] (11 - G.length) (fun gk _ wr => ∃ (K Y : List Int) (kv bv : Value), gk + K.length = 11 ∧ Y.length = K.length ∧ LitsOk n K ∧ StU (w.heap.size + 1) kv bv K Y (-1) W1 wr ∧ uK C (gk + G.length) K Y = R)
      case atStart => exact ⟨G, Y0, _, _, by omega, hY, HGO.out, HS2.out, by rw [show 11 - G.length + G.length = 11 by omega]; exact HR0.out⟩
      case round =>
        clear HS2 HR0 hY HGO HU
        obtain ⟨K, Y, kv, bv, hgk, hYK, hK, hS, hR⟩ := hrel
        have HYK := Lib.hid hYK
        have HKO := Lib.hid hK
        have HS := Lib.hid hS
        have HR1 := Lib.hid hR
        have HCN := Lib.hid (cons_of hK)
        have hKl := litsOk_len n1 n2 hK
        have hgw := hS.lt
        have hww : W1.heap.size ≤ wr.heap.size := hS.below.size
        have HIK : Hid (IL wr kv K) := Lib.hid (SI.vl (Grows.si hS.known))
        have HLC : Hid (LV wr (.slice va C.length vc) C) := Lib.hid (HL.out _ (HBW.out _ hS.below))
        obtain ⟨f, hf⟩ : ∃ f, gk + G.length = f + 1 := ⟨gk + G.length - 1, by omega⟩
        have HR2 : Hid (uK C (f + 1) K Y = R) := Lib.hid (by rw [← hf]; exact hR)
        have HF : Hid (gk - 1 + G.length = f) := Lib.hid (by omega)
        have RR := Lib.hid (HR3.out.keep hS.below (by omega))
        obtain ⟨c0, c1, c2, cf⟩ := hS.cells
        have cf0 := cf 0
        have cf1 := cf 1
        have cf2 := cf 2
        have hYl : Y.length ≤ 10 := by omega
        clear hK hS hR cf hf HR1 hYK
        obtain ⟨ka, kc, rfl⟩ := VL.len (d := (0 : Int)) HIK.out
        obtain ⟨ba, bc, rfl⟩ := SI.len (d := (0 : Int)) (Grows.si HS.out.bys)
        obtain ⟨wA, rfl⟩ : ∃ x : World, x = wr := ⟨_, rfl⟩
        obtain ⟨g2, rfl⟩ : ∃ x : Nat, x = gk := ⟨_, rfl⟩
        go_wp2_with fail
        go_loopg [7, 8, 35] C.length (fun gk uv lv i wr => ∃ k : Nat, k ≤ C.length ∧ gk + k = C.length ∧ i = .int .i64 k ∧ (∀ j, j < k → ¬ (rst K (C.getD j [])).length = 0) ∧ ((uv = .int .i64 (-1) ∧ lv = .int .i64 0 ∧ ∀ j, j < k → un K (C.getD j []) = false) ∨ (∃ q0 : Nat, q0 < k ∧ uv = .int .i64 (q0 : Int) ∧ lv = .int .i64 (unL K C q0) ∧ un K (C.getD q0 []) = true ∧ ∀ j, j < q0 → un K (C.getD j []) = false)) ∧ wr = wA)
        case atStart => exact ⟨0, Nat.zero_le _, by omega, rfl, fun j hj => by omega, Or.inl ⟨rfl, rfl, fun j hj => by omega⟩, rfl⟩
        case round =>
          obtain ⟨k, hk, hgk2, rfl, hb, huv, rfl⟩ := hrel
          have HBR := Lib.hid hb
          clear hb
          by_cases hlt : k < C.length
          · rcases HLC.out with ⟨hz, -⟩ | ⟨b, off, cap, D, e, hpos, hbl, hcell⟩
            · rw [hz] at hlt; simp at hlt
            injection e with e1 _ e3
            subst e1
            have cD := (hcell k hlt).1
            have ID := (hcell k hlt).2
            have hcl := HC.out k hlt
            have LK := Lib.hid (l05Look_any (w.heap.size + 1) _ (D k) K (C.getD k []) wr c0 HIK.out ID HCN.out (fun i hi2 => by have := hcl.a i hi2; have := hcl.n2; unfold ltr at *; split at * <;> omega) (by omega) (by have := hcl.len; omega))
            have LZ := Lib.hid (@lk_zero K (C.getD k []) HCN.out)
            have LO := Lib.hid (@lk_one K (C.getD k []) HCN.out)
            have LI := Lib.hid (@lk_lit K (C.getD k []) HCN.out)
            generalize D k = dv at cD LK
            obtain ⟨o, ho⟩ : ∃ o, lkO K (C.getD k []) = o := ⟨_, rfl⟩
            obtain ⟨l, hl⟩ : ∃ l, lkL K (C.getD k []) = l := ⟨_, rfl⟩
            rw [ho, hl] at LK
            rw [ho] at LZ LO LI
            rw [hl] at LI
            clear e3 hcell hbl hpos ID hcl ho hl
            by_cases z : o = 0
            · have HFB : Hid (fb K C = some k) := Lib.hid (fstP_some hlt (decide_eq_true (LZ.out.1 z)) fun j hj => decide_eq_false (HBR.out j hj))
              have HR : Hid ((K, Y, (k : Int)) = R) := Lib.hid (by rw [← HR2.out, uK_bad HFB.out])
              have HH := Lib.hid (HS.out.wrong (k : Int))
              obtain ⟨⟨v0, r0⟩, ⟨v1, r1⟩, ⟨v2, r2⟩, rf⟩ := RR.out
              have rf0 := rf 0
              have rf1 := rf 1
              have rf2 := rf 2
              have hne : ¬ w.heap.size = w.heap.size + 1 := by omega
              have hne2 : ¬ w.heap.size + 1 = w.heap.size := by omega
              subst z
              clear rf huv LZ LO LI
              go_wp2_with fail
              go_at_call 93; refine LK.out.mono ?_; rintro e w' ⟨rfl, rfl⟩
              go_wp2_with fail
              refine bodyPost_ret (v := .agg #[.slice ka K.length kc, .slice ba Y.length bc, .int .i64 (k : Int)]) (by simp [results, Try.results49, r0, r1, r2, go_sem]) rfl ?_
              generalize hX : World.setCell _ _ _ = X
              have hT : Turned w.heap.size (w.heap.size + 1) (wr.setCell ⟨w.heap.size + 1, 2, none⟩ (.int .i64 (k : Int))) X := by
                rw [← hX]
                iterate 3 (refine Turned.setCell ?_ (by simp) (by simp) _)
                exact Turned.refl _ _ _
              clear hX
              exact units_end HW0.out HH.out hT HR.out
            · have HBR2 : Hid (∀ j, j < k + 1 → ¬ (rst K (C.getD j [])).length = 0) := Lib.hid fun j hj => by
                by_cases e : j = k
                · subst e; exact fun q => z (LZ.out.2 q)
                · exact HBR.out j (by omega)
              have z' : (o == 0) = false := by simpa using z
              cases hun : un K (C.getD k []) with
              | false =>
                have o1 : ¬ o = 1 := fun q => by rw [LO.out.1 q] at hun; cases hun
                have o1' : (o == 1) = false := by simpa using o1
                have HV2 : Hid ((u7 = .int .i64 (-1) ∧ u8 = .int .i64 0 ∧ ∀ j, j < k + 1 → un K (C.getD j []) = false) ∨ (∃ q0 : Nat, q0 < k + 1 ∧ u7 = .int .i64 (q0 : Int) ∧ u8 = .int .i64 (unL K C q0) ∧ un K (C.getD q0 []) = true ∧ ∀ j, j < q0 → un K (C.getD j []) = false)) := Lib.hid (by
                  rcases huv with ⟨a, b, c⟩ | ⟨q0, a, b⟩
                  · refine Or.inl ⟨a, b, fun j hj => ?_⟩
                    by_cases e : j = k
                    · subst e; exact hun
                    · exact c j (by omega)
                  · exact Or.inr ⟨q0, by omega, b⟩)
                clear huv hun LZ LO LI
                go_wp2_with fail
                go_at_call 93; refine LK.out.mono ?_; rintro e w' ⟨rfl, rfl⟩
                go_wp2_with fail
                go_roundg (gk - 1)
                case measure => omega
                case rel => exact ⟨k + 1, by omega, by omega, by go_num, HBR2.out, HV2.out, rfl⟩
              | true =>
                have o1 : o = 1 := LO.out.2 hun
                have HLL : Hid (l = unL K C k) := Lib.hid (LI.out o1)
                have HUN := Lib.hid hun
                subst o1
                clear LZ LO LI hun z z'
                rcases huv with ⟨rfl, rfl, hnone⟩ | ⟨q0, hq0, rfl, rfl, hun0, hno0⟩
                · have HNN := Lib.hid hnone
                  clear hnone
                  go_wp2_with fail
                  go_at_call 93; refine LK.out.mono ?_; rintro e w' ⟨rfl, rfl⟩
                  go_wp2_with fail
                  go_roundg (gk - 1)
                  case measure => omega
                  case rel => exact ⟨k + 1, by omega, by omega, by go_num, HBR2.out, Or.inr ⟨k, by omega, rfl, by rw [HLL.out], HUN.out, HNN.out⟩, rfl⟩
                · have HV2 := Lib.hid (And.intro hun0 hno0)
                  have hlt0 : ¬ (q0 : Int) < 0 := by omega
                  obtain ⟨l0, hl0⟩ : ∃ l0, unL K C q0 = l0 := ⟨_, rfl⟩
                  have HL0 := Lib.hid hl0
                  rw [hl0]
                  clear hun0 hno0 hl0
                  go_wp2_with fail
                  go_at_call 93; refine LK.out.mono ?_; rintro e w' ⟨rfl, rfl⟩
                  go_wp2_with fail
                  go_roundg (gk - 1)
                  case measure => omega
                  case rel => exact ⟨k + 1, by omega, by omega, by go_num, HBR2.out, Or.inr ⟨q0, by omega, rfl, by rw [HL0.out], HV2.out.1, HV2.out.2⟩, rfl⟩
          · obtain rfl : k = C.length := by omega
            have HFB : Hid (fb K C = none) := Lib.hid (fstP_none fun j hj => decide_eq_false (HBR.out j hj))
            rcases huv with ⟨rfl, rfl, hnone⟩ | ⟨q0, hq0, rfl, rfl, hun0, hno0⟩
            · have HR : Hid ((K, Y, -1) = R) := Lib.hid (by rw [← HR2.out, uK_end HFB.out (fstP_none hnone)])
              have HH := HS
              obtain ⟨⟨v0, r0⟩, ⟨v1, r1⟩, ⟨v2, r2⟩, rf⟩ := RR.out
              have rf0 := rf 0
              have rf1 := rf 1
              have rf2 := rf 2
              have hne : ¬ w.heap.size = w.heap.size + 1 := by omega
              have hne2 : ¬ w.heap.size + 1 = w.heap.size := by omega
              clear rf hnone
              go_wp2_with fail
              refine bodyPost_ret (v := .agg #[.slice ka K.length kc, .slice ba Y.length bc, .int .i64 (-1)]) (by simp [results, Try.results49, r0, r1, r2, go_sem]) rfl ?_
              generalize hX : World.setCell _ _ _ = X
              have hT : Turned w.heap.size (w.heap.size + 1) wr X := by
                rw [← hX]
                iterate 3 (refine Turned.setCell ?_ (by simp) (by simp) _)
                exact Turned.refl _ _ _
              clear hX
              exact units_end HW0.out HH.out hT HR.out
            · have HFU : Hid (fu K C = some q0) := Lib.hid (fstP_some hq0 hun0 hno0)
              have HR3' : Hid (uK C f (K ++ [unL K C q0]) (Y ++ [(q0 : Int)]) = R) := Lib.hid (by rw [← HR2.out, uK_go HFB.out HFU.out])
              have hnw := un_new HKO.out HC.out hq0 hun0
              have HK2 := Lib.hid hnw.1
              have hrg := HC.out q0 hq0
              obtain ⟨l0, hl0⟩ : ∃ l0, unL K C q0 = l0 := ⟨_, rfl⟩
              rw [hl0] at HR3' HK2 ⊢
              have hlt0 : ¬ (q0 : Int) < 0 := by omega
              have c1a : ∀ o, (wr.alloc o).cell? ⟨w.heap.size + 1, 1, none⟩ = some (.slice ba Y.length bc) := fun o => keep_cell c1 (below_alloc wr o) hgw
              clear hun0 hno0 hnw hrg hl0
              go_upto_region 24 with (at_builtin; go_loud ((refine wpList_append_lies _ rfl _ _ 25 rfl W1.heap.size 2 i0 (.int .i64 0) 1 8 Try.underlying25 hi hz0 hz1 hz2 rfl (by decide) _ _ _ rfl (World.ownsRow.alloc HS.out.known _) ⟨wr.heap.size, 0, none⟩ 1 1 [.int .i64 l0] rfl rfl one_new (by intro u hu; simp at hu; subst hu; rfl) (by omega) (by unfold maxLen; omega) (by omega) (by simp; omega) (wr.heap.size + 1) (by simp) ?_); intro ga capa wa hown hgrow hat hgl; (have HNA := Lib.hid (fun q => StU.nextK HS.out (below_alloc wr _) hown hgrow q)); (obtain ⟨ka9, ka91, fa9, fa91⟩ := HS.out.keptK (below_alloc wr _) hgrow); clear hown hgrow hat))
              generalize hwB : World.setCell _ _ _ = wB
              have H5 : Hid (StU (w.heap.size + 1) (.slice (some ⟨ga, 0, none⟩) (K.length + 1) capa) (.slice ba Y.length bc) (K ++ [l0]) Y (-1) W1 wB) := Lib.hid (by rw [← hwB]; exact HNA.out 0)
              clear hwB c0 c1 c2 cf0 cf1 cf2 c1a ka9 ka91 fa9 fa91
              obtain ⟨d0, d1, d2, df⟩ := H5.out.cells
              have df1 := df 1
              have hwB2 := H5.out.lt
              have hwB3 : W1.heap.size ≤ wB.heap.size := H5.out.below.size
              clear df
              go_wp2_with (at_builtin; go_loud ((refine wpList_append_lies _ rfl _ _ 61 rfl W1.heap.size 3 n0 (.int .i64 0) 1 8 Try.underlying61 hn hy0 hy1 hy2 rfl (by decide) _ _ _ rfl (World.ownsRow.alloc H5.out.bys _) ⟨wB.heap.size, 0, none⟩ 1 1 [.int .i64 (q0 : Int)] rfl rfl one_new (by intro u hu; simp at hu; subst hu; rfl) (by omega) (by unfold maxLen; omega) (by omega) (by simp; omega) (wB.heap.size + 1) (by simp) ?_); intro gb capb wb hown hgrow hat hgl; (have HNB := Lib.hid (fun q => StU.nextY H5.out (below_alloc wB _) hown hgrow q)); (obtain ⟨kb9, fb9⟩ := H5.out.keptY (below_alloc wB _) hgrow); clear hown hgrow hat))
              go_roundg (g2 - 1)
              case measure => omega
              case rel => exact ⟨K ++ [l0], Y ++ [(q0 : Int)], _, _, by rw [List.length_append]; simp; omega, by rw [List.length_append, List.length_append, HYK.out]; rfl, HK2.out, HNB.out 0, by rw [HF.out]; exact HR3'.out⟩
end Go.Proofs.Ytnakpfbeeekmiaa
