/- A loop over all choices (fits: differsIn$1). -/
import Derived.Test.YtiobbclciboggaaAlD
import Derived.RangeFuncNested
import Derived.RangeFuncCalls
import Derived.RangeFuncLeaves
import Derived.Shelf.Abstract
namespace Go.Proofs.Ytiobbclciboggaa
open Go.RowKit Go.ChangeShapes Go.WideShapes

/-- What a round of the loop leaves. -/
def roundD (S : Nat → Prop) (I : List (List Int) → World → Prop) (Ix : Code → List (List Int) → World → Prop) (pre : List (List Int)) (W : World) : Exit → Act → World → Prop
  | .normal, _, W' => But S W W' ∧ I pre W'
  | .ret, _, W' => But S W W' ∧ Ix .ret pre W'
  | .exit id, _, W' => But S W W' ∧ Ix (.exit id) pre W'
  | .goto t, _, W' => But S W W' ∧ Ix (.goto t) pre W'
  | _, _, _ => False
theorem But.refl (S : Nat → Prop) (w : World) : But S w w := ⟨rfl, rfl, rfl, Nat.le_refl _, fun _ _ _ => rfl⟩
theorem But.trans {S : Nat → Prop} {a b c : World} (h : But S a b) (k : But S b c) : But S a c :=
  ⟨k.os.trans h.os, k.tape.trans h.tape, k.output.trans h.output, Nat.le_trans h.size k.size, fun i hi hs => (k.block i (Nat.lt_of_lt_of_le hi h.size) hs).trans (h.block i hi hs)⟩
theorem But.wide {S S' : Nat → Prop} {a b : World} (h : But S a b) (k : ∀ i, S i → S' i) : But S' a b := ⟨h.os, h.tape, h.output, h.size, fun i hi hs => h.block i hi fun q => hs (k i q)⟩
theorem But.putObj {S : Nat → Prop} {w : World} {l : Nat} (o : Obj) (h : S l) : But S w (w.putObj l o) := ⟨rfl, rfl, rfl, by simp, fun k _ hs => World.putObj_heap_other (fun e => hs (e ▸ h))⟩
theorem IL.putObj {W : World} {l : Nat} {r : Loop} {v : Value} {C : List Int} (h : IL W v C) (hl : W.heap[l]? = some (.loop r)) (o : Obj) : IL (W.putObj l o) v C := by
  rcases h with h | ⟨b, off, cap, e, h0, hbl, hcell⟩
  · exact Or.inl h
  · have hne : b ≠ l := by
      intro e
      subst e
      have := hcell 0 h0
      simp [World.cell?, hl] at this
    exact Or.inr ⟨b, off, cap, e, h0, by simpa using hbl, fun i hi => by rw [World.cell?_of_block (w := W) (a := ⟨b, off + i, none⟩) (World.putObj_heap_other hne)]; exact hcell i hi⟩
set_option maxHeartbeats 1000000 in
theorem rangeD {g : Operand} {ps : Array Tmp} {assign body : Code} {Q : Exit → Act → World → Prop} {a : Act} {w w0 : World} {c : Nat} (m : Nat)
    (hg : a.eval g = .func (.func 154) #[] #[.pointer (some ⟨c, 0, none⟩)]) (hps : ps.size = 1)
    (S : Nat → Prop) (I : List (List Int) → World → Prop) (Ix : Code → List (List Int) → World → Prop) (Ls : List (List Int)) (lv : Value) (hlv : LV w0 lv Ls)
    (hD : ∀ i, (Ls.getD i []).length ≤ 1000 ∧ ∀ x ∈ Ls.getD i [], 0 ≤ x ∧ x ≤ 1000) (hLs : Ls.length ≤ 1000) (hNe : ∀ i, i < Ls.length → (Ls.getD i []).length ≠ 0)
    (hX : Box2 w c lv fitD) (hb0 : Below w0.heap.size w0 w) (hs1 : ∀ k, S k → w0.heap.size ≤ k) (hs2 : ∀ k, S k → k < w.heap.size)
    (hI : ∀ pre W W', I pre W → But (fun k => w.heap.size ≤ k) W W' → I pre W') (hIx : ∀ d pre W W', Ix d pre W → But (fun k => k = w.heap.size + 1) W W' → Ix d pre W')
    (hI0 : ∀ pre W, I pre W → Below w0.heap.size w0 W) (h0 : I [] w)
    (hround : ∀ (pre : List (List Int)) (C : List Int) (v : Value) (W : World), I pre W → C.length = Ls.length → IL W v C → w.heap.size + 2 ≤ W.heap.size →
      ∃ a₁, (∀ K : Act → World → Prop, K a₁ W → assign.wpIn (Fence.wide.inRound (w.heap.size + 1)) m Try.prog (Exit.then K (fun _ _ _ => False)) { tmps := (ps.zip #[v]).foldl (fun t (p, v) => t.setIfInBounds p v) a.tmps, defers := [] } W) ∧
        ∀ W2, But (fun k => k = w.heap.size + 1) W W2 → IL W2 v C → body.wpIn (Fence.wide.inRound (w.heap.size + 1)) m Try.prog (roundD S I Ix (pre ++ [C]) W2) a₁ W2)
    (hdone : ∀ (W : World), I (exts nwB Ls Ls.length []) W → W.heap[w.heap.size]? = some (.deferred (some [])) → Q .normal { a with defers := { target := .collected w.heap.size, args := #[] } :: a.defers } W)
    (hstop : ∀ (d : Code) (q : List (List Int)) (W : World), q <+: exts nwB Ls Ls.length [] → q ≠ [] → Ix d q W → W.heap[w.heap.size]? = some (.deferred (some [])) → d.wpIn Fence.wide m Try.prog Q { a with defers := { target := .collected w.heap.size, args := #[] } :: a.defers } W) :
    (Code.rangeFunc g ps assign body).wpIn Fence.wide m Try.prog Q a w := by
  refine wpIn_rangeFunc ?_
  intro fn hfn
  obtain ⟨rec, hrec⟩ : ∃ rec : LoopState → Option Code → Loop, rec = fun st pe => { state := st, pending := pe, fn, tmps := a.tmps, params := ps, assign, body, defers := w.heap.size } := ⟨_, rfl⟩
  obtain ⟨W1, hW1⟩ : ∃ W1, (w.alloc (.deferred (some []))).alloc (.loop (rec .ready none)) = W1 := ⟨_, rfl⟩
  have hz1 : W1.heap.size = w.heap.size + 2 := by rw [← hW1]; simp
  have hL1 : W1.heap[w.heap.size + 1]? = some (.loop (rec .ready none)) := by
    rw [← hW1]; have := World.alloc_heap_new (w.alloc (.deferred (some []))) (.loop (rec .ready none)); rwa [World.size_alloc] at this
  have hK1 : W1.heap[w.heap.size]? = some (.deferred (some [])) := by
    rw [← hW1]; exact (Below.heap_alloc _ _ _ (by simp)).trans (World.alloc_heap_new w _)
  have hb1 : Below w.heap.size w W1 := by rw [← hW1]; exact ((Below.refl _ w).alloc (Nat.le_refl _) _).alloc (by simp) _
  have hI1 : I [] W1 := hI _ _ _ h0 ⟨hb1.os, hb1.tape, hb1.output, hb1.size, fun k hk hs => hb1.block k (by omega)⟩
  refine ⟨w.heap.size + 1, [{ target := .collected w.heap.size, args := #[] }], W1, { target := .fn (.func 154) #[.pointer (some ⟨c, 0, none⟩)], args := #[.func (.yield (w.heap.size + 1)) #[] #[]] }, W1, 154,
    #[.func (.yield (w.heap.size + 1)) #[] #[]] ++ #[.pointer (some ⟨c, 0, none⟩)], W1, ?_, ?_, ?_, ?_, fun h => absurd h (by decide), ?_⟩
  · rw [← hW1, hrec]; exact run_enterLoop_outer _ _ _ _ _
  · simp only [resolve, hg]
    simp [go_sem]
  · intro f' _; exact trivial
  · simp [invoke, go_sem]
  · refine callsIn_wide.2 ?_
    have fin : ∀ (jump : Option Code) (W3 : World), W3.heap[w.heap.size + 1]? = some (.loop { rec .ready none with state := .busy }) →
        (Instr.endRound (w.heap.size + 1) jump).run Try.prog W3 = .ok (.bool jump.isNone) (W3.putObj (w.heap.size + 1) (.loop (rec (if jump.isNone then .ready else .done) jump))) := fun jump W3 hl3 => by
      have := run_endRound (P := Try.prog) jump hl3
      rw [hrec] at this ⊢
      exact this
    have T : TellD w0 (w.heap.size + 2) (w.heap.size + 1) (fun k => S k ∨ k = w.heap.size + 1) Ls.length
        (fun pre W => I pre W ∧ W.heap[w.heap.size + 1]? = some (.loop (rec .ready none)) ∧ W.heap[w.heap.size]? = some (.deferred (some [])) ∧ w.heap.size + 2 ≤ W.heap.size)
        (fun pre W => ∃ d, Ix d pre W ∧ W.heap[w.heap.size + 1]? = some (.loop (rec .done (some d))) ∧ W.heap[w.heap.size]? = some (.deferred (some []))) := by
      refine ⟨Nat.le_trans hb0.size (by omega), fun k hk => ?_, fun k hk => ?_, ?_, fun pre W h => hI0 _ _ h.1, ?_⟩
      · rcases hk with hk | hk
        · exact hs1 k hk
        · have := hb0.size; omega
      · rcases hk with hk | hk
        · have := hs2 k hk; omega
        · omega
      · rintro pre W W' ⟨hi, hl, hk, hz⟩ hb
        exact ⟨hI _ _ _ hi ⟨hb.os, hb.tape, hb.output, hb.size, fun k _ hs => hb.block k (by omega)⟩, (hb.block _ (by omega)).trans hl, (hb.block _ (by omega)).trans hk, Nat.le_trans hz hb.size⟩
      · rintro m' pre C v W ⟨hi, hl, hk, hz⟩ hC hv
        have hy := run_yield (P := Try.prog) (args := #[v]) hl (by rw [hrec]; exact hps.symm)
        rw [hrec] at hy
        obtain ⟨a₁, hassign, hbody⟩ := hround pre C v W hi hC hv hz
        refine ⟨fn, _, assign, body, hy, ?_⟩
        suffices HH : RoundIn Fence.wide m Try.prog (w.heap.size + 1) fn ((ps.zip #[v]).foldl (fun t (p, v) => t.setIfInBounds p v) a.tmps) assign body W (fun e W' => But (fun k => S k ∨ k = w.heap.size + 1) W W' ∧ ((e = .returned (.bool true) ∧ I (pre ++ [C]) W' ∧ W'.heap[w.heap.size + 1]? = some (.loop (rec .ready none)) ∧ W'.heap[w.heap.size]? = some (.deferred (some [])) ∧ w.heap.size + 2 ≤ W'.heap.size) ∨ (e = .returned (.bool false) ∧ ∃ d, Ix d (pre ++ [C]) W' ∧ W'.heap[w.heap.size + 1]? = some (.loop (rec .done (some d))) ∧ W'.heap[w.heap.size]? = some (.deferred (some []))))) from ⟨HH.1, fun c cs _ => HH.2 c cs (room_wide _)⟩
        refine roundIn_of_wpIn hfn (hassign _ ?_)
        refine ⟨_, run_beginRound hl (by rw [hrec]), ?_⟩
        have hl2 : (W.putObj (w.heap.size + 1) (.loop { rec .ready none with state := .busy })).heap[w.heap.size + 1]? = some (.loop { rec .ready none with state := .busy }) := World.putObj_heap_same (by omega)
        have hk2 : (W.putObj (w.heap.size + 1) (.loop { rec .ready none with state := .busy })).heap[w.heap.size]? = some (.deferred (some [])) := (World.putObj_heap_other (by omega)).trans hk
        have hb2 : But (fun k => k = w.heap.size + 1) W (W.putObj (w.heap.size + 1) (.loop { rec .ready none with state := .busy })) := But.putObj _ rfl
        refine wpIn_mono (hbody _ hb2 (hv.putObj hl _)) ?_
        have keep : ∀ W3, But S (W.putObj (w.heap.size + 1) (.loop { rec .ready none with state := .busy })) W3 →
            W3.heap[w.heap.size + 1]? = some (.loop { rec .ready none with state := .busy }) ∧ W3.heap[w.heap.size]? = some (.deferred (some [])) ∧ ∀ o, But (fun k => S k ∨ k = w.heap.size + 1) W (W3.putObj (w.heap.size + 1) o) := fun W3 h3 =>
          ⟨(h3.block _ (by simp; omega) (fun q => by have := hs2 _ q; omega)).trans hl2, (h3.block _ (by simp; omega) (fun q => by have := hs2 _ q; omega)).trans hk2,
            fun o => ((hb2.wide fun i e => Or.inr e).trans (h3.wide fun i e => Or.inl e)).trans (But.putObj o (Or.inr rfl))⟩
        have put : ∀ (W3 : World) (o : Obj), But (fun k => w.heap.size ≤ k) W3 (W3.putObj (w.heap.size + 1) o) := fun W3 o => But.putObj o (by omega)
        have putl : ∀ (W3 : World) (o : Obj), But (fun k => k = w.heap.size + 1) W3 (W3.putObj (w.heap.size + 1) o) := fun W3 o => But.putObj o rfl
        rintro e a3 W3 hp
        cases e with
        | normal =>
          obtain ⟨h3, hi3⟩ := hp
          obtain ⟨hl3, hk3, hb3⟩ := keep W3 h3
          have hz3 : w.heap.size + 2 ≤ W3.heap.size := by have := h3.size; simp at this; omega
          exact ⟨_, _, fin none W3 hl3, hb3 _, Or.inl ⟨rfl, hI _ _ _ hi3 (put _ _), World.putObj_heap_same (by omega), (World.putObj_heap_other (by omega)).trans hk3, by simp; omega⟩⟩
        | ret =>
          obtain ⟨h3, hi3⟩ := hp
          obtain ⟨hl3, hk3, hb3⟩ := keep W3 h3
          have hz3 : w.heap.size + 2 ≤ W3.heap.size := by have := h3.size; simp at this; omega
          exact ⟨_, _, fin (some .ret) W3 hl3, hb3 _, Or.inr ⟨rfl, .ret, hIx _ _ _ _ hi3 (putl _ _), World.putObj_heap_same (by omega), (World.putObj_heap_other (by omega)).trans hk3⟩⟩
        | exit id =>
          obtain ⟨h3, hi3⟩ := hp
          obtain ⟨hl3, hk3, hb3⟩ := keep W3 h3
          have hz3 : w.heap.size + 2 ≤ W3.heap.size := by have := h3.size; simp at this; omega
          exact ⟨_, _, fin (some (.exit id)) W3 hl3, hb3 _, Or.inr ⟨rfl, .exit id, hIx _ _ _ _ hi3 (putl _ _), World.putObj_heap_same (by omega), (World.putObj_heap_other (by omega)).trans hk3⟩⟩
        | goto t =>
          obtain ⟨h3, hi3⟩ := hp
          obtain ⟨hl3, hk3, hb3⟩ := keep W3 h3
          have hz3 : w.heap.size + 2 ≤ W3.heap.size := by have := h3.size; simp at this; omega
          exact ⟨_, _, fin (some (.goto t)) W3 hl3, hb3 _, Or.inr ⟨rfl, .goto t, hIx _ _ _ _ hi3 (putl _ _), World.putObj_heap_same (by omega), (World.putObj_heap_other (by omega)).trans hk3⟩⟩
        | panic ch => exact hp.elim
        | outgrown => exact hp.elim
    have hXW : Box2 W1 c lv fitD := hX.keep hb1 hX.lt
    refine (allD1_any w0 (w.heap.size + 2) (w.heap.size + 1) c _ _ _ Ls T lv hlv hD hLs hNe W1 (by omega) hXW ⟨hI1, hL1, hK1, by omega⟩).mono ?_
    have put : ∀ (W3 : World) (o : Obj), But (fun k => w.heap.size ≤ k) W3 (W3.putObj (w.heap.size + 1) o) := fun W3 o => But.putObj o (by omega)
    rintro e W2 ⟨v, rfl, _, ⟨hi, hl, hk, hz⟩ | ⟨q, q1, q2, d, hi, hl, hk⟩⟩
    · exact ⟨none, _, by have := run_endLoop (P := Try.prog) hl (by rw [hrec]; simp); rw [hrec] at this; exact this, hdone _ (hI _ _ _ hi (put _ _)) ((World.putObj_heap_other (by omega)).trans hk)⟩
    · exact ⟨some d, _, by have := run_endLoop (P := Try.prog) hl (by rw [hrec]; simp); rw [hrec] at this; exact this, hstop d q _ q1 q2 (hIx _ _ _ _ hi (But.putObj _ rfl)) ((World.putObj_heap_other (by omega)).trans hk)⟩
end Go.Proofs.Ytiobbclciboggaa
