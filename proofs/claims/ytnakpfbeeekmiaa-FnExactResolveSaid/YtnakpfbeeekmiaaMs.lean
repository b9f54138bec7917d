/- Sets of integers: maps of the call's own. -/
import Derived.Test.YtnakpfbeeekmiaaIl
import Derived.Test.YtnakpfbeeekmiaaInS
import Derived.Maps.Own
import Derived.Maps.OwnOps
import Derived.Maps.OwnSet
import Derived.Maps.AppendAt
import Derived.Lib.SlKeysI
namespace Go.Proofs.Ytnakpfbeeekmiaa
open Go.RowKit Go.ChangeShapes Go.WideShapes Go.Maps
set_option maxRecDepth 100000

def InR (x : Int) : Prop := -9223372036854775808 ≤ x ∧ x ≤ 9223372036854775807
theorem wfR {x : Int} (h : InR x) : (Lit.int .i64 x).wf = true := by
  have h1 : IntKind.i64.min = -9223372036854775808 := by decide
  have h2 : IntKind.i64.max = 9223372036854775807 := by decide
  unfold InR at h
  simp only [Lit.wf, Bool.and_eq_true, decide_eq_true_eq, h1, h2]
  omega
theorem inR_wf {x : Int} (h : (Lit.int .i64 x).wf = true) : InR x := by
  have h1 : IntKind.i64.min = -9223372036854775808 := by decide
  have h2 : IntKind.i64.max = 9223372036854775807 := by decide
  simp only [Lit.wf, Bool.and_eq_true, decide_eq_true_eq, h1, h2] at h
  exact h
theorem keyI : Keyed Try.prog 2 := int_keyed Try.underlying2
/-- The map in block b is the set of the numbers with S. -/
structure SetM (S : Int → Bool) (n b : Nat) (w : World) : Prop where
  own : ∃ D : DataW Unit, w.ownsMap Try.prog 2 (plainElem Try.prog 4) b n D ∧ (∀ x, InR x → has D (.int .i64 x) = S x) ∧ (∀ x, InR x → D.atKey (.int .i64 x) (.lit (.bool false)) = .lit (.bool (S x)))
theorem SetM.made (w : World) : SetM (fun _ => false) 0 w.heap.size (w.alloc (.map #[] 0)) := ⟨.map [], World.ownsMap_made _ _ _ _, fun _ _ => rfl, fun _ _ => atKey_of_not_has rfl _⟩
theorem SetM.grown {S : Int → Bool} {n b : Nat} {w w' : World} {row : Option Nat} (h : SetM S n b w) (hg : w.grownBy w' row) (hne : some b ≠ row) : SetM S n b w' := by
  obtain ⟨D, h1, h2⟩ := h.own
  exact ⟨D, h1.kept hg hne, h2⟩
theorem SetM.keep {S : Int → Bool} {n b : Nat} {w w' : World} (h : SetM S n b w) (hb : Below w.heap.size w w') : SetM S n b w' :=
  h.grown (row := none) ⟨hb.os, hb.tape, hb.output, hb.size, fun i hi _ => hb.block i hi⟩ (by simp)
theorem SetM.is {S T : Int → Bool} {n b : Nat} {w : World} (h : SetM S n b w) (e : ∀ x, S x = T x) : SetM T n b w := (funext e : S = T) ▸ h
theorem SetM.map {S : Int → Bool} {n b : Nat} {w : World} (h : SetM S n b w) : ∃ es clock, w.heap[b]? = some (.map es clock) := by
  obtain ⟨D, ⟨es, clock, hb, _⟩, _⟩ := h.own
  exact ⟨es, clock, hb⟩
theorem SetM.lt {S : Int → Bool} {n b : Nat} {w : World} (h : SetM S n b w) : b < w.heap.size := by
  obtain ⟨D, h1, _⟩ := h.own
  exact h1.lt
theorem setM_put {S : Int → Bool} {n b : Nat} {x : Int} {D : DataW Unit} {w' : World} (hD : IsMap D) (h1 : ∀ y, InR y → has D (.int .i64 y) = S y) (h2 : ∀ y, InR y → D.atKey (.int .i64 y) (.lit (.bool false)) = .lit (.bool (S y)))
    (hw : w'.ownsMap Try.prog 2 (plainElem Try.prog 4) b (n + 1) (D.put (.int .i64 x) (.lit (.bool true)))) : SetM (fun y => y == x || S y) (n + 1) b w' := by
  have hk : WideAt.IsKeyLit (Lit.int .i64 x) := by trivial
  refine ⟨_, hw, fun y hy => ?_, fun y hy => ?_⟩
  · by_cases e : y = x
    · subst e; rw [has_put_same hD hk]; simp
    · rw [has_put_other (by intro h; injection h with _ h2; exact e h2), h1 y hy]
      simp [e]
  · by_cases e : y = x
    · subst e; rw [atKey_put_same hD hk]; simp
    · rw [atKey_put_other (by intro h; injection h with _ h2; exact e h2), h2 y hy]
      simp [e]
theorem setM_del {S : Int → Bool} {n b : Nat} {x : Int} {D : DataW Unit} {w' : World} (h1 : ∀ y, InR y → has D (.int .i64 y) = S y) (h2 : ∀ y, InR y → D.atKey (.int .i64 y) (.lit (.bool false)) = .lit (.bool (S y)))
    (hw : w'.ownsMap Try.prog 2 (plainElem Try.prog 4) b n (D.del (.int .i64 x))) : SetM (fun y => y != x && S y) n b w' := by
  refine ⟨_, hw, fun y hy => ?_, fun y hy => ?_⟩
  · by_cases e : y = x
    · subst e; rw [has_del_same]; simp
    · rw [has_del_other (by intro h; injection h with _ h2; exact e h2), h1 y hy]
      simp [e]
  · by_cases e : y = x
    · subst e; rw [atKey_del_same]; simp
    · rw [atKey_del_other (by intro h; injection h with _ h2; exact e h2), h2 y hy]
      simp [e]
/-- What the set has of a number. -/
theorem SetM.look {S : Int → Bool} {n b : Nat} {w : World} (h : SetM S n b w) {x : Int} (hx : InR x) : (Instr.lookup 79 (.map (some b)) (.int .i64 x) false).run Try.prog w = .ok (.bool (S x)) w := by
  obtain ⟨D, h1, -, h3⟩ := h.own
  obtain ⟨v, ps, hrun, hv⟩ := h1.lookup keyI Try.underlying79 (Try.zeroValue4 w) (plainElem_bool Try.underlying4 false) (keyOf_int_mk Try.underlying2 (wfR hx))
  rw [h3 x hx] at hv
  unfold plainElem at hv
  rw [Try.underlying4] at hv
  rw [hrun]
  cases v <;> simp at hv
  rw [hv.1]
/-- A list that is read stands while the map turns. -/
theorem IL.map {w w' : World} {v : Value} {c : List Int} {b : Nat} (h : IL w v c) (hb : ∃ es clock, w.heap[b]? = some (.map es clock)) (hg : w.grownBy w' (some b)) : IL w' v c := by
  rcases h with ⟨hz, e⟩ | ⟨g, off, cap, e, hpos, hbl, hcell⟩
  · exact Or.inl ⟨hz, e⟩
  · have hne : some g ≠ some b := by
      intro q
      injection q with q
      subst q
      obtain ⟨es, clock, hm⟩ := hb
      have := hcell 0 hpos
      simp [World.cell?, hm] at this
    refine Or.inr ⟨g, off, cap, e, hpos, Nat.lt_of_lt_of_le hbl hg.size, fun i hi => ?_⟩
    rw [World.cell?_of_block (a := ⟨g, off + i, none⟩) (hg.block g hbl hne)]
    exact hcell i hi
def addK (S : Int → Bool) (c : List Int) (k : Nat) (y : Int) : Bool := S y || (List.range k).any fun i => c.getD i 0 == y
theorem addK_up (S : Int → Bool) (c : List Int) (k : Nat) (y : Int) : (y == c.getD k 0 || addK S c k y) = addK S c (k + 1) y := by
  unfold addK
  rw [List.range_succ, List.any_append]
  have : (y == c.getD k 0) = (c.getD k 0 == y) := Bool.eq_iff_iff.2 ⟨fun h => beq_iff_eq.2 (eq_of_beq h).symm, fun h => beq_iff_eq.2 (eq_of_beq h).symm⟩
  rw [this]
  cases S y <;> cases ((List.range k).any fun i => c.getD i 0 == y) <;> simp
theorem addK_all (S : Int → Bool) (c : List Int) (y : Int) : addK S c c.length y = (S y || inS c y) := rfl
/-- The call has changed the map alone. -/
def SetDone (S : Int → Bool) (n b : Nat) (w : World) (e : Ending) (w' : World) : Prop := e = .returned (.tuple #[]) ∧ SetM S n b w' ∧ w.grownBy w' (some b)
set_option maxHeartbeats 2000000 in
theorem putAll_any (S : Int → Bool) (n b : Nat) (v : Value) (c : List Int) (w : World) (hs : SetM S n b w) (hv : IL w v c) (hn : n ≤ 1048576) (hc : c.length ≤ 1048576) (hr : ∀ i, i < c.length → InR (c.getD i 0)) :
    Calls Try.prog 66 #[.map (some b), v] w (SetDone (addK S c c.length) (n + c.length) b w) := by
  have HS := Lib.hid hs
  have HM := Lib.hid hs.map
  have HR := Lib.hid hr
  have HC : Hid (∀ W, w.grownBy W (some b) → IL W v c) := Lib.hid fun W hg => hv.map hs.map hg
  obtain ⟨ao, cap, rfl⟩ := hv.long
  clear hs hv hr
  go_enter Try.func66, Try.ntmps66
  go_wp2_with fail
  go_loopg [8] c.length (fun gk i wr => ∃ k : Nat, k ≤ c.length ∧ gk + k = c.length ∧ i = .int .i64 k ∧ SetM (addK S c k) (n + k) b wr ∧ w.grownBy wr (some b))
  case atStart => exact ⟨0, Nat.zero_le _, by omega, rfl, HS.out.is fun x => by unfold addK; simp, World.grownBy.refl _ _⟩
  case round =>
    obtain ⟨k, hk, hgk, rfl, hS, hG⟩ := hrel
    have HG := Lib.hid hG
    obtain ⟨D, hD, hh, ha⟩ := hS.own
    have HD := Lib.hid hD
    have HH := Lib.hid (And.intro hh ha)
    have HS2 := Lib.hid hS
    clear hG hD hh ha hS
    by_cases hlt : k < c.length
    · rcases HC.out wr HG.out with ⟨hz, -⟩ | ⟨g, off, cp, e, hpos, hbl, hcell⟩
      · rw [hz] at hlt; simp at hlt
      injection e with e1 _ e3
      subst e1
      have cx := hcell k hlt
      have hx := HR.out k hlt
      have HUP := Lib.hid fun y => addK_up S c k y
      generalize hxx : c.getD k 0 = x at cx hx HUP
      have HX := Lib.hid hx
      clear e3 hcell hbl hpos hxx hx
      go_wp2_with (at_mapUpdate; refine wpList_mapUpdate_own _ rfl _ _ _ 79 rfl 2 4 keyI Try.underlying79 _ b (n + k) _ rfl HD.out (by unfold maxLen; omega) _ _ _ rfl rfl (keyOf_int_mk Try.underlying2 (wfR HX.out)) _ [] (plainElem_bool Try.underlying4 true) ?_; intro w4 hown4 hgrow4; have HU4 := Lib.hid ((setM_put HD.out.isMap HH.out.1 HH.out.2 hown4).is HUP.out); have HG4 := Lib.hid (HG.out.trans hgrow4); clear hown4 hgrow4)
      go_roundg (gk - 1)
      case measure => omega
      case rel => exact ⟨k + 1, by omega, by omega, by go_num, HU4.out, HG4.out⟩
    · obtain rfl : k = c.length := by omega
      go_wp2_with fail
      refine bodyPost_ret (v := .tuple #[]) (by simp [results, Try.results66, go_sem]) rfl ?_
      exact ⟨rfl, HS2.out, HG.out⟩
/-- All that a set has. -/
theorem keys_set {S : Int → Bool} {n b : Nat} {w : World} {D : DataW Unit} (hD : w.ownsMap Try.prog 2 (plainElem Try.prog 4) b n D) (h1 : ∀ x, InR x → has D (.int .i64 x) = S x) :
    (intKeys D).Nodup ∧ ∀ x, x ∈ intKeys D ↔ InR x ∧ S x = true := by
  obtain ⟨es0, clock, hb, F, hs, rfl⟩ := hD
  have hk0 := Maps.fit_keys F
  have hdis := Maps.fit_apart keyI F
  have hp := sorted_perm (es0.toList.map (Go.WideElems.rg Try.prog 2 (plainElem (H := Unit) Try.prog 4)))
  generalize hes : (es0.toList.map (Go.WideElems.rg Try.prog 2 (plainElem (H := Unit) Try.prog 4))) = L0 at hk0 hdis hp h1
  generalize hL : L0.foldr DataW.insert [] = L at hp h1
  have hk : ∀ p ∈ L, ∃ x, p.1 = .int .i64 x ∧ InR x := fun p hpm => by
    obtain ⟨v, hv⟩ := hk0 p (hp.mem_iff.1 hpm)
    obtain ⟨x, -, e, hw⟩ := Maps.keyOf_i64 Try.underlying2 hv
    exact ⟨x, e, inR_wf hw⟩
  have hap : L.Pairwise (fun p q => p.1 ≠ q.1) := (hp.pairwise_iff (fun {_ _} hne => Ne.symm hne)).2 hdis
  show (L.map fun p => intOf p.1).Nodup ∧ ∀ x, x ∈ L.map (fun p => intOf p.1) ↔ InR x ∧ S x = true
  have hnd : (L.map fun p => intOf p.1).Nodup := by
    refine List.pairwise_map.2 (hap.imp_of_mem fun {p q} hp' hq' hne e => hne ?_)
    obtain ⟨a, ha, -⟩ := hk p hp'
    obtain ⟨b, hb, -⟩ := hk q hq'
    rw [ha, hb] at e ⊢
    exact congrArg _ e
  refine ⟨hnd, fun x => ?_⟩
  · rw [List.mem_map]
    constructor
    · rintro ⟨p, hpm, rfl⟩
      obtain ⟨a, ha, hin⟩ := hk p hpm
      have e : intOf p.1 = a := by rw [ha]; rfl
      rw [e]
      refine ⟨hin, ?_⟩
      rw [← h1 a hin, has_eq, List.any_eq_true]
      exact ⟨p, hpm, by rw [ha]; simp [Lit.sameKey]⟩
    · rintro ⟨hin, hS⟩
      rw [← h1 x hin, has_eq, List.any_eq_true] at hS
      obtain ⟨p, hpm, hsm⟩ := hS
      obtain ⟨a, ha, -⟩ := hk p hpm
      rw [ha] at hsm
      exact ⟨p, hpm, by rw [ha]; simpa [Lit.sameKey, intOf] using hsm⟩
end Go.Proofs.Ytnakpfbeeekmiaa
