/- A loop over texts that an iterator of the library's tells one after another. -/
import Derived.Test.YtcgdkjbbdpmmhaaDoorTx0
import Derived.Test.YtcgdkjbbdpmmhaaDoorVl
import Derived.Test.YtcgdkjbbdpmmhaaDoorBox
import Derived.Test.YtcgdkjbbdpmmhaaDoorChecked
import Derived.RangeFuncNested
import Derived.RangeFuncCalls
import Derived.RangeFuncLeaves
import Derived.RangeFuncBound
import Derived.RangeFuncSeq
import Derived.Shelf.Abstract
import Derived.ProofKit
namespace Go.Proofs.YtcgdkjbbdpmmhaaDoor
open Go.RowKit Go.ChangeShapes Go.WideShapes

/-- The blocks that are none of S's are as they were. -/
structure But (S : Nat → Prop) (w w' : World) : Prop where
  os : w'.os = w.os
  tape : w'.tape = w.tape
  output : w'.output = w.output
  size : w.heap.size ≤ w'.heap.size
  block : ∀ k, k < w.heap.size → ¬ S k → w'.heap[k]? = w.heap[k]?
theorem But.refl (S : Nat → Prop) (w : World) : But S w w := ⟨rfl, rfl, rfl, Nat.le_refl _, fun _ _ _ => rfl⟩
theorem But.trans {S : Nat → Prop} {a b c : World} (h : But S a b) (k : But S b c) : But S a c :=
  ⟨k.os.trans h.os, k.tape.trans h.tape, k.output.trans h.output, Nat.le_trans h.size k.size, fun i hi hs => (k.block i (Nat.lt_of_lt_of_le hi h.size) hs).trans (h.block i hi hs)⟩
theorem But.wide {S S' : Nat → Prop} {a b : World} (h : But S a b) (k : ∀ i, S i → S' i) : But S' a b := ⟨h.os, h.tape, h.output, h.size, fun i hi hs => h.block i hi fun q => hs (k i q)⟩
theorem But.putObj {S : Nat → Prop} {w : World} {l : Nat} (o : Obj) (h : S l) : But S w (w.putObj l o) := ⟨rfl, rfl, rfl, by simp, fun k _ hs => World.putObj_heap_other (fun e => hs (e ▸ h))⟩
theorem But.of_below {S : Nat → Prop} {W X : World} (h : Below W.heap.size W X) : But S W X := ⟨h.os, h.tape, h.output, h.size, fun k hk _ => h.block k hk⟩
theorem But.low {S : Nat → Prop} {B : Nat} {W W' : World} (h : But S W W') (hB : B ≤ W.heap.size) (hs : ∀ k, S k → B ≤ k) : Below B W W' := ⟨h.os, h.tape, h.output, h.size, fun k hk => h.block k (by omega) (fun q => by have := hs k q; omega)⟩
theorem But.setCell {S : Nat → Prop} {W X : World} (h : But S W X) {p : Addr} (hs : S p.block) (u : Value) : But S W (X.setCell p u) :=
  h.trans ⟨rfl, rfl, rfl, by simp [World.setCell], fun k _ hn => Below.heap_setCell _ _ _ _ (fun e => hn (e ▸ hs))⟩
theorem But.cell {S : Nat → Prop} {W W' : World} (h : But S W W') {g o : Nat} {a : Value} (hc : W.cell? ⟨g, o, none⟩ = some a) (hs : ¬ S g) : W'.cell? ⟨g, o, none⟩ = some a := by
  rw [World.cell?_of_block (w := W) (a := ⟨g, o, none⟩) (h.block g (cell_block hc) hs)]; exact hc
theorem But.free {S : Nat → Prop} {W W' : World} (h : But S W W') {g o : Nat} {a : Value} (hc : W.cell? ⟨g, o, none⟩ = some a) (hf : W.frozen? ⟨g, o, none⟩ = false) (hs : ¬ S g) : W'.frozen? ⟨g, o, none⟩ = false := by
  rw [World.frozen?_of_block (w := W) (a := ⟨g, o, none⟩) (h.block g (cell_block hc) hs)]; exact hf
/-- What one tells with each text: c is the iterator's own box. -/
structure TellS (w0 : World) (n l c : Nat) (S : Nat → Prop) (Y : List (List UInt8)) (J Jx : List (List UInt8) → World → Prop) : Prop where
  low : w0.heap.size ≤ n
  c1 : w0.heap.size ≤ c
  c2 : c < n
  nc : ¬ S c
  nb : ∀ k, c ≤ k → k + 2 < n → ¬ S k
  keep : ∀ pre W W', J pre W → Below W.heap.size W W' → J pre W'
  put : ∀ pre W v, J pre W → J pre (W.setCell ⟨c, 0, none⟩ v)
  below : ∀ pre W, J pre W → Below w0.heap.size w0 W
  yield : ∀ m pre C W, pre ++ [C] <+: Y → J pre W → YieldAt Fence.wide m Tryd.prog l #[.string (bsOf C)] W fun e W' =>
    But S W W' ∧ ((e = .returned (.bool true) ∧ J (pre ++ [C]) W') ∨ (e = .returned (.bool false) ∧ Jx (pre ++ [C]) W'))
/-- What a walk over the texts leaves. -/
def ToldS (J Jx : List (List UInt8) → World → Prop) (Y : List (List UInt8)) (e : Ending) (W' : World) : Prop :=
  ∃ v, e = .returned v ∧ (J Y W' ∨ ∃ q, q <+: Y ∧ q ≠ [] ∧ Jx q W')
/-- What a round of the loop leaves. -/
def roundS (S : Nat → Prop) (I : List (List UInt8) → World → Prop) (Ix : Code → List (List UInt8) → World → Prop) (pre : List (List UInt8)) (W : World) : Exit → Act → World → Prop
  | .normal, _, W' => But S W W' ∧ I pre W'
  | .ret, _, W' => But S W W' ∧ Ix .ret pre W'
  | .exit id, _, W' => But S W W' ∧ Ix (.exit id) pre W'
  | .goto t, _, W' => But S W W' ∧ Ix (.goto t) pre W'
  | _, _, _ => False
set_option maxHeartbeats 1000000 in
theorem rangeS {g : Operand} {ps : Array Tmp} {assign body : Code} {Q : Exit → Act → World → Prop} {a : Act} {w w0 : World} {c : Nat} (m K : Nat) (lb : Array Value)
    (hg : a.eval g = .func (.func K) #[] lb) (hps : ps.size = 1) (henter : ∀ args w, (callFunc K args).run Tryd.prog w = .ok (.enter K args) w)
    (S : Nat → Prop) (I : List (List UInt8) → World → Prop) (Ix : Code → List (List UInt8) → World → Prop) (Y : List (List UInt8)) (R : World → Prop)
    (hit : ∀ (n l : Nat) (S' : Nat → Prop) (J Jx : List (List UInt8) → World → Prop), n = w.heap.size + 2 → TellS w0 n l c S' Y J Jx → ∀ W, n ≤ W.heap.size → J [] W → R W →
      Calls Tryd.prog K (#[.func (.yield l) #[] #[]] ++ lb) W (ToldS J Jx Y))
    (hR : ∀ W, Below w.heap.size w W → R W)
    (hb0 : Below w0.heap.size w0 w) (hs1 : ¬ S w.heap.size) (hs2 : ¬ S (w.heap.size + 1)) (hc1 : w0.heap.size ≤ c) (hc2 : c < w.heap.size) (hnc : ∀ k, c ≤ k → k < w.heap.size → ¬ S k)
    (hI : ∀ pre W W', I pre W → But (fun k => k = w.heap.size ∨ k = w.heap.size + 1 ∨ k = c) W W' → I pre W') (hIx : ∀ d pre W W', Ix d pre W → But (fun k => k = w.heap.size + 1) W W' → Ix d pre W')
    (hI0 : ∀ pre W, I pre W → Below w0.heap.size w0 W) (h0 : I [] w)
    (hround : ∀ (pre : List (List UInt8)) (C : List UInt8) (W : World), pre ++ [C] <+: Y → I pre W → w.heap.size + 2 ≤ W.heap.size →
      ∃ a₁, (∀ K : Act → World → Prop, K a₁ W → assign.wpIn (Fence.wide.inRound (w.heap.size + 1)) m Tryd.prog (Exit.then K (fun _ _ _ => False)) { tmps := (ps.zip #[Value.string (bsOf C)]).foldl (fun t (p, v) => t.setIfInBounds p v) a.tmps, defers := [] } W) ∧
        ∀ W2, But (fun k => k = w.heap.size + 1) W W2 → I pre W2 → w.heap.size + 2 ≤ W2.heap.size → body.wpIn (Fence.wide.inRound (w.heap.size + 1)) m Tryd.prog (roundS S I Ix (pre ++ [C]) W2) a₁ W2)
    (hdone : ∀ (W : World), I Y W → W.heap[w.heap.size]? = some (.deferred (some [])) → Q .normal { a with defers := { target := .collected w.heap.size, args := #[] } :: a.defers } W)
    (hstop : ∀ (d : Code) (q : List (List UInt8)) (W : World), q <+: Y → q ≠ [] → Ix d q W → W.heap[w.heap.size]? = some (.deferred (some [])) → d.wpIn Fence.wide m Tryd.prog Q { a with defers := { target := .collected w.heap.size, args := #[] } :: a.defers } W) :
    (Code.rangeFunc g ps assign body).wpIn Fence.wide m Tryd.prog Q a w := by
  refine wpIn_rangeFunc ?_
  intro fn hfn
  obtain ⟨rec, hrec⟩ : ∃ rec : LoopState → Option Code → Loop, rec = fun st pe => { state := st, pending := pe, fn, tmps := a.tmps, params := ps, assign, body, defers := w.heap.size } := ⟨_, rfl⟩
  obtain ⟨W1, hW1⟩ : ∃ W1, (w.alloc (.deferred (some []))).alloc (.loop (rec .ready none)) = W1 := ⟨_, rfl⟩
  have hz1 : W1.heap.size = w.heap.size + 2 := by rw [← hW1]; simp
  have hL1 : W1.heap[w.heap.size + 1]? = some (.loop (rec .ready none)) := by
    rw [← hW1]; have := World.alloc_heap_new (w.alloc (.deferred (some []))) (.loop (rec .ready none)); rwa [World.size_alloc] at this
  have hK1 : W1.heap[w.heap.size]? = some (.deferred (some [])) := by
    rw [← hW1]; exact (Below.heap_alloc _ _ _ (by simp)).trans (World.alloc_heap_new w _)
  have hb1 : Below w.heap.size w W1 := by rw [← hW1]; exact ((Below.refl _ w).alloc (Nat.le_refl _) _).alloc (by simp) _
  have hI1 : I [] W1 := hI _ _ _ h0 ⟨hb1.os, hb1.tape, hb1.output, hb1.size, fun k hk _ => hb1.block k (by omega)⟩
  refine ⟨w.heap.size + 1, [{ target := .collected w.heap.size, args := #[] }], W1, { target := .fn (.func K) lb, args := #[.func (.yield (w.heap.size + 1)) #[] #[]] }, W1, K,
    #[.func (.yield (w.heap.size + 1)) #[] #[]] ++ lb, W1, ?_, ?_, ?_, ?_, fun h => absurd h (by decide), ?_⟩
  · rw [← hW1, hrec]; exact run_enterLoop_outer _ _ _ _ _
  · simp only [resolve, hg]
    simp [go_sem]
  · intro f' _; exact trivial
  · simp only [invoke]
    simp [go_sem, henter]
  · refine callsIn_wide.2 ?_
    have fin : ∀ (jump : Option Code) (W3 : World), W3.heap[w.heap.size + 1]? = some (.loop { rec .ready none with state := .busy }) →
        (Instr.endRound (w.heap.size + 1) jump).run Tryd.prog W3 = .ok (.bool jump.isNone) (W3.putObj (w.heap.size + 1) (.loop (rec (if jump.isNone then .ready else .done) jump))) := fun jump W3 hl3 => by
      have := run_endRound (P := Tryd.prog) jump hl3
      rw [hrec] at this ⊢
      exact this
    have T : TellS w0 (w.heap.size + 2) (w.heap.size + 1) c (fun k => S k ∨ k = w.heap.size + 1) Y
        (fun pre W => I pre W ∧ W.heap[w.heap.size + 1]? = some (.loop (rec .ready none)) ∧ W.heap[w.heap.size]? = some (.deferred (some [])) ∧ w.heap.size + 2 ≤ W.heap.size)
        (fun pre W => ∃ d, Ix d pre W ∧ W.heap[w.heap.size + 1]? = some (.loop (rec .done (some d))) ∧ W.heap[w.heap.size]? = some (.deferred (some []))) := by
      refine ⟨Nat.le_trans hb0.size (by omega), hc1, by omega, fun h => ?_, fun k k1 k2 h => ?_, ?_, ?_, fun pre W h => hI0 _ _ h.1, ?_⟩
      · rcases h with h | h
        · exact hnc c (Nat.le_refl _) hc2 h
        · omega
      · rcases h with h | h
        · exact hnc k k1 (by omega) h
        · omega
      · rintro pre W W' ⟨hi, hl, hk, hz⟩ hb
        exact ⟨hI _ _ _ hi ⟨hb.os, hb.tape, hb.output, hb.size, fun k hk _ => hb.block k hk⟩, (hb.block _ (by omega)).trans hl, (hb.block _ (by omega)).trans hk, Nat.le_trans hz hb.size⟩
      · rintro pre W v ⟨hi, hl, hk, hz⟩
        have hb : But (fun k => k = c) W (W.setCell ⟨c, 0, none⟩ v) := (But.refl (fun k => k = c) W).setCell (p := ⟨c, 0, none⟩) rfl _
        exact ⟨hI _ _ _ hi (hb.wide fun _ e => Or.inr (Or.inr e)), (hb.block _ (by omega) (by omega)).trans hl, (hb.block _ (by omega) (by omega)).trans hk, by have := hb.size; omega⟩
      · rintro m' pre C W hpre ⟨hi, hl, hk, hz⟩
        have hy := run_yield (P := Tryd.prog) (args := #[Value.string (bsOf C)]) hl (by rw [hrec]; exact hps.symm)
        rw [hrec] at hy
        obtain ⟨a₁, hassign, hbody⟩ := hround pre C W hpre hi hz
        refine ⟨fn, _, assign, body, hy, ?_⟩
        suffices HH : RoundIn Fence.wide m Tryd.prog (w.heap.size + 1) fn ((ps.zip #[Value.string (bsOf C)]).foldl (fun t (p, v) => t.setIfInBounds p v) a.tmps) assign body W (fun e W' => But (fun k => S k ∨ k = w.heap.size + 1) W W' ∧ ((e = .returned (.bool true) ∧ I (pre ++ [C]) W' ∧ W'.heap[w.heap.size + 1]? = some (.loop (rec .ready none)) ∧ W'.heap[w.heap.size]? = some (.deferred (some [])) ∧ w.heap.size + 2 ≤ W'.heap.size) ∨ (e = .returned (.bool false) ∧ ∃ d, Ix d (pre ++ [C]) W' ∧ W'.heap[w.heap.size + 1]? = some (.loop (rec .done (some d))) ∧ W'.heap[w.heap.size]? = some (.deferred (some []))))) from ⟨HH.1, fun c cs _ => HH.2 c cs (room_wide _)⟩
        refine roundIn_of_wpIn hfn (hassign _ ?_)
        refine ⟨_, run_beginRound hl (by rw [hrec]), ?_⟩
        have hl2 : (W.putObj (w.heap.size + 1) (.loop { rec .ready none with state := .busy })).heap[w.heap.size + 1]? = some (.loop { rec .ready none with state := .busy }) := World.putObj_heap_same (by omega)
        have hk2 : (W.putObj (w.heap.size + 1) (.loop { rec .ready none with state := .busy })).heap[w.heap.size]? = some (.deferred (some [])) := (World.putObj_heap_other (by omega)).trans hk
        have hb2 : But (fun k => k = w.heap.size + 1) W (W.putObj (w.heap.size + 1) (.loop { rec .ready none with state := .busy })) := But.putObj _ rfl
        refine wpIn_mono (hbody _ hb2 (hI _ _ _ hi (hb2.wide fun k e => Or.inr (Or.inl e))) (by simp; omega)) ?_
        have keep : ∀ W3, But S (W.putObj (w.heap.size + 1) (.loop { rec .ready none with state := .busy })) W3 →
            W3.heap[w.heap.size + 1]? = some (.loop { rec .ready none with state := .busy }) ∧ W3.heap[w.heap.size]? = some (.deferred (some [])) ∧ ∀ o, But (fun k => S k ∨ k = w.heap.size + 1) W (W3.putObj (w.heap.size + 1) o) := fun W3 h3 =>
          ⟨(h3.block _ (by simp; omega) hs2).trans hl2, (h3.block _ (by simp; omega) hs1).trans hk2,
            fun o => ((hb2.wide fun i e => Or.inr e).trans (h3.wide fun i e => Or.inl e)).trans (But.putObj o (Or.inr rfl))⟩
        have put : ∀ (W3 : World) (o : Obj), But (fun k => k = w.heap.size ∨ k = w.heap.size + 1 ∨ k = c) W3 (W3.putObj (w.heap.size + 1) o) := fun W3 o => But.putObj o (Or.inr (Or.inl rfl))
        have putl : ∀ (W3 : World) (o : Obj), But (fun k => k = w.heap.size + 1) W3 (W3.putObj (w.heap.size + 1) o) := fun W3 o => But.putObj o rfl
        rintro e a3 W3 hp
        cases e with
        | normal =>
          obtain ⟨h3, hi3⟩ := hp
          obtain ⟨hl3, hk3, hb3⟩ := keep W3 h3
          have hz3 : w.heap.size + 2 ≤ W3.heap.size := by have := h3.size; simp at this; omega
          exact ⟨_, _, fin none W3 hl3, hb3 _, Or.inl ⟨rfl, hI _ _ _ hi3 (put _ _), World.putObj_heap_same (by omega), (World.putObj_heap_other (by omega)).trans hk3, by simp; omega⟩⟩
        | ret =>
          obtain ⟨h3, hi3⟩ := hp
          obtain ⟨hl3, hk3, hb3⟩ := keep W3 h3
          have hz3 : w.heap.size + 2 ≤ W3.heap.size := by have := h3.size; simp at this; omega
          exact ⟨_, _, fin (some .ret) W3 hl3, hb3 _, Or.inr ⟨rfl, .ret, hIx _ _ _ _ hi3 (putl _ _), World.putObj_heap_same (by omega), (World.putObj_heap_other (by omega)).trans hk3⟩⟩
        | exit id =>
          obtain ⟨h3, hi3⟩ := hp
          obtain ⟨hl3, hk3, hb3⟩ := keep W3 h3
          have hz3 : w.heap.size + 2 ≤ W3.heap.size := by have := h3.size; simp at this; omega
          exact ⟨_, _, fin (some (.exit id)) W3 hl3, hb3 _, Or.inr ⟨rfl, .exit id, hIx _ _ _ _ hi3 (putl _ _), World.putObj_heap_same (by omega), (World.putObj_heap_other (by omega)).trans hk3⟩⟩
        | goto t =>
          obtain ⟨h3, hi3⟩ := hp
          obtain ⟨hl3, hk3, hb3⟩ := keep W3 h3
          have hz3 : w.heap.size + 2 ≤ W3.heap.size := by have := h3.size; simp at this; omega
          exact ⟨_, _, fin (some (.goto t)) W3 hl3, hb3 _, Or.inr ⟨rfl, .goto t, hIx _ _ _ _ hi3 (putl _ _), World.putObj_heap_same (by omega), (World.putObj_heap_other (by omega)).trans hk3⟩⟩
        | panic ch => exact hp.elim
        | outgrown => exact hp.elim
    refine (hit _ _ _ _ _ rfl T W1 (by omega) ⟨hI1, hL1, hK1, by omega⟩ (hR _ hb1)).mono ?_
    have put : ∀ (W3 : World) (o : Obj), But (fun k => k = w.heap.size ∨ k = w.heap.size + 1 ∨ k = c) W3 (W3.putObj (w.heap.size + 1) o) := fun W3 o => But.putObj o (Or.inr (Or.inl rfl))
    rintro e W2 ⟨v, rfl, ⟨hi, hl, hk, hz⟩ | ⟨q, q1, q2, d, hi, hl, hk⟩⟩
    · exact ⟨none, _, by have := run_endLoop (P := Tryd.prog) hl (by rw [hrec]; simp); rw [hrec] at this; exact this, hdone _ (hI _ _ _ hi (put _ _)) ((World.putObj_heap_other (by omega)).trans hk)⟩
    · exact ⟨some d, _, by have := run_endLoop (P := Tryd.prog) hl (by rw [hrec]; simp); rw [hrec] at this; exact this, hstop d q _ q1 q2 (hIx _ _ _ _ hi (But.putObj _ rfl)) ((World.putObj_heap_other (by omega)).trans hk)⟩
end Go.Proofs.YtcgdkjbbdpmmhaaDoor
