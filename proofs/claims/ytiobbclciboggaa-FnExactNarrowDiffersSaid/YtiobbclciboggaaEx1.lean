/- One more behind a beginning of a choice: what append leaves of the memory. -/
import Derived.Test.YtiobbclciboggaaEx0
import Derived.Test.YtiobbclciboggaaGrw
import Derived.RangeFuncBound
import Derived.RangeFuncSeq
import Derived.Deep.RegionLaw
namespace Go.Proofs.Ytiobbclciboggaa
open Go.RowKit Go.ChangeShapes Go.WideShapes

/-- The blocks that are none of S's are as they were. -/
structure But (S : Nat → Prop) (w w' : World) : Prop where
  os : w'.os = w.os
  tape : w'.tape = w.tape
  output : w'.output = w.output
  size : w.heap.size ≤ w'.heap.size
  block : ∀ k, k < w.heap.size → ¬ S k → w'.heap[k]? = w.heap[k]?
/-- .. and block g keeps its first p cells. -/
structure Went (S : Nat → Prop) (g : Option Nat) (p : Nat) (w w' : World) : Prop where
  os : w'.os = w.os
  tape : w'.tape = w.tape
  output : w'.output = w.output
  size : w.heap.size ≤ w'.heap.size
  block : ∀ k, k < w.heap.size → ¬ S k → g ≠ some k → w'.heap[k]? = w.heap[k]?
  own : ∀ k, g = some k → ∀ cur t z, w.heap[k]? = some (.cells cur t z) → ∃ cur', w'.heap[k]? = some (.cells cur' t z) ∧ cur'.size = cur.size ∧ cur'.toList.take p = cur.toList.take p
theorem Went.refl (S : Nat → Prop) (g : Option Nat) (p : Nat) (w : World) : Went S g p w w := ⟨rfl, rfl, rfl, Nat.le_refl _, fun _ _ _ _ => rfl, fun _ _ cur _ _ h => ⟨cur, h, rfl, rfl⟩⟩
theorem Went.trans {S : Nat → Prop} {g : Option Nat} {p : Nat} {a b c : World} (h : Went S g p a b) (k : Went S g p b c) : Went S g p a c := by
  refine ⟨k.os.trans h.os, k.tape.trans h.tape, k.output.trans h.output, Nat.le_trans h.size k.size, fun i hi hs hg => (k.block i (Nat.lt_of_lt_of_le hi h.size) hs hg).trans (h.block i hi hs hg), fun i hg cur t z hc => ?_⟩
  obtain ⟨c1, h1, h2, h3⟩ := h.own i hg cur t z hc
  obtain ⟨c2, k1, k2, k3⟩ := k.own i hg c1 t z h1
  exact ⟨c2, k1, k2.trans h2, k3.trans h3⟩
theorem Went.of_below {S : Nat → Prop} {g : Option Nat} {p B : Nat} {w w' : World} (h : Below B w w') (hB : w.heap.size ≤ B) : Went S g p w w' :=
  ⟨h.os, h.tape, h.output, h.size, fun k hk _ _ => h.block k (by omega), fun k _ cur t z hc => ⟨cur, (h.block k (by have := (Array.getElem?_eq_some_iff.1 hc).1; omega)).trans hc, rfl, rfl⟩⟩
theorem Went.below {S : Nat → Prop} {g : Option Nat} {p B : Nat} {w w' : World} (h : Went S g p w w') (hB : B ≤ w.heap.size) (hS : ∀ k, S k → B ≤ k) (hg : ∀ k, g = some k → B ≤ k) : Below B w w' :=
  ⟨h.os, h.tape, h.output, h.size, fun k hk => h.block k (by omega) (fun hs => by have := hS k hs; omega) (fun e => by have := hg k e; omega)⟩
theorem Went.free {S : Nat → Prop} {g : Option Nat} {p : Nat} {w w' : World} (h : Went (fun _ => False) g p w w') : Went S g p w w' :=
  ⟨h.os, h.tape, h.output, h.size, fun k hk _ hg => h.block k hk (fun h => h) hg, h.own⟩
/-- A deeper call leaves what one higher up may leave. -/
theorem Went.deep {S : Nat → Prop} {g g' : Option Nat} {p : Nat} {w w1 w2 : World} (h : Went S g p w w1) (k : Went S g' (p + 1) w1 w2) (hg : g' = g ∨ ∃ i, g' = some i ∧ w.heap.size ≤ i) (hS : ∀ i, g = some i → ¬ S i) : Went S g p w w2 := by
  refine ⟨k.os.trans h.os, k.tape.trans h.tape, k.output.trans h.output, Nat.le_trans h.size k.size, fun i hi hs hn => ?_, fun i hgi cur t z hc => ?_⟩
  · refine (k.block i (Nat.lt_of_lt_of_le hi h.size) hs (fun e => ?_)).trans (h.block i hi hs hn)
    rcases hg with hg | ⟨j, hj, hl⟩
    · exact hn (hg ▸ e)
    · rw [hj] at e; cases e; omega
  · have hil := (Array.getElem?_eq_some_iff.1 hc).1
    obtain ⟨c1, h1, h2, h3⟩ := h.own i hgi cur t z hc
    rcases hg with hg | ⟨j, hj, hl⟩
    · obtain ⟨c2, k1, k2, k3⟩ := k.own i (hg.trans hgi) c1 t z h1
      refine ⟨c2, k1, k2.trans h2, ?_⟩
      have := congrArg (List.take p) k3
      rw [List.take_take, List.take_take, Nat.min_eq_left (by omega)] at this
      exact this.trans h3
    · refine ⟨c1, (k.block i (Nat.lt_of_lt_of_le hil h.size) (hS i hgi) (fun e => ?_)).trans h1, h2, h3⟩
      rw [hj] at e; cases e; omega
theorem Grows.went {α : Type} {mk : α → Value} {E B : Nat} {v : Value} {P : List α} {S : Nat → Prop} {w w' : World} (h : Grows mk E B v P w) (k : Went S v.ownBlock P.length w w') : Grows mk E B v P w' := by
  refine ⟨h.1, ?_⟩
  rcases h.2 with h2 | ⟨g, cap, cur, rfl, hB, hg, hn, hc, hs, ht⟩
  · exact Or.inl h2
  · obtain ⟨cur', g1, g2, g3⟩ := k.own g rfl cur E (0, 0) hg
    exact Or.inr ⟨g, cap, cur', rfl, hB, g1, hn, hc, g2.trans hs, by rw [Nat.mul_one] at ht ⊢; exact g3.trans ht⟩
/-- One more behind P. -/
structure Pushed (B : Nat) (v : Value) (P : List Int) (y : Int) (w : World) (v' : Value) (w' : World) : Prop where
  grows : Grows (Value.int .i64) 2 B v' (P ++ [y]) w'
  went : Went (fun _ => False) v.ownBlock P.length w w'
  block : v'.ownBlock = v.ownBlock ∨ v'.ownBlock = some w.heap.size
theorem run_push {ty : TypeId} (B : Nat) (v : Value) (P : List Int) (w : World) (hG : Grows (Value.int .i64) 2 B v P w) (hl : P.length ≤ 1000) (hB : B ≤ w.heap.size) (ad : Addr) (c : Nat) (y : Int) (hc : w.cell? ad = some (.int .i64 y)) (ha : ad.spot = none) :
    ∃ v' w', (Builtin.append_ #[24, 24] ty #[v, .slice (some ad) 1 c]).run Try.prog w = .ok v' w' ∧ Pushed B v P y w v' w' := by
  obtain ⟨i0, hi, hz0, hz1, hz2⟩ := info_parts Try.infoI
  have hnews : ∀ j u, [Value.int .i64 y][j]? = some u → w.cell? (ad.add j) = some u := by
    intro j u hu
    cases j with
    | zero => simp at hu; subst hu; obtain ⟨b, o, s⟩ := ad; simp only at ha; subst ha; simpa [Addr.add] using hc
    | succ j => simp at hu
  have h1c : ∀ u ∈ [Value.int .i64 y], u.oneCell' = true := by intro u hu; simp at hu; subst hu; rfl
  have hml : P.length + 1 ≤ maxLen := by unfold maxLen; omega
  obtain ⟨v', w', hr, hown, hgr, _⟩ := run_append_own (P := Try.prog) w B 24 ty 2 i0 (.int .i64 0) 1 8 Try.underlying24 hi hz0 hz1 hz2 rfl (by decide) v P.length _ hG ad 1 c [.int .i64 y] rfl hnews h1c hml (by omega) hB
  have hG' : Grows (Value.int .i64) 2 B v' (P ++ [y]) w' := Grows.more (news := [y]) rfl hown
  suffices HH : Went (fun _ => False) v.ownBlock P.length w w' ∧ (v'.ownBlock = v.ownBlock ∨ v'.ownBlock = some w.heap.size) from ⟨v', w', hr, hG', HH.1, HH.2⟩
  rcases hG.2 with ⟨rfl, hz⟩ | ⟨g, cap, cur, rfl, hBg, hg, hn, hcm, hs, ht⟩
  · have hP : P = [] := List.eq_nil_of_length_eq_zero hz
    subst hP
    have hr2 := run_append_nil (P := Try.prog) w 24 ty 2 i0 (.int .i64 0) Try.underlying24 hi hz0 ad 1 c [.int .i64 y] (by rw [hz1]; rfl) hnews (by omega) (by omega) (by rw [hz2]; decide)
    rw [hr] at hr2
    injection hr2 with e1 e2
    subst e1 e2
    exact ⟨⟨hgr.os, hgr.tape, hgr.output, hgr.size, fun k hk _ hn => hgr.block k hk (by simp [Value.ownBlock]), fun k e => by cases e⟩, Or.inr (by simp [Value.ownBlock])⟩
  · by_cases hroom : P.length + 1 ≤ cap
    · have hr2 := run_append_room (P := Try.prog) w 24 ty 2 i0 Try.underlying24 hi g P.length cap cur hg ad 1 c [.int .i64 y] (by rw [hz1]; rfl) hnews h1c hroom (by rw [hz1, hs]; simp; omega)
      rw [hr] at hr2
      injection hr2 with e1 e2
      subst e1 e2
      refine ⟨⟨hgr.os, hgr.tape, hgr.output, hgr.size, fun k hk _ hn => hgr.block k hk (fun e => hn e.symm), fun k e cur0 t z hc0 => ?_⟩, Or.inl (by simp [Value.ownBlock])⟩
      obtain rfl : g = k := by simpa [Value.ownBlock] using e
      rw [hg] at hc0
      cases hc0
      refine ⟨_, setRow_heap w g cur _ _ _ hg, ?_, ?_⟩
      · have : cur.size = cap := by rw [hs, Nat.mul_one]
        simp [hz1]; omega
      · rw [hz1, Nat.mul_one]
        simp only [List.append_assoc]
        have hcl0 : cur.toList.length = cur.size := Array.length_toList
        have hcl : P.length ≤ cur.toList.length := by rw [hcl0, hs]; omega
        rw [List.take_append_of_le_length (by rw [List.length_take]; exact Nat.le_min.2 ⟨Nat.le_refl _, hcl⟩), List.take_take, Nat.min_self]
    · have holds : ∀ j u, (P.map (Value.int .i64))[j]? = some u → w.cell? ((⟨g, 0, none⟩ : Addr).add j) = some u := World.ownsRow.cells hG (g := g) rfl
      have hr2 := run_append_grow (P := Try.prog) w 24 ty 2 i0 (.int .i64 0) Try.underlying24 hi hz0 ⟨g, 0, none⟩ P.length cap (P.map (Value.int .i64)) (by rw [hz1]; simp) holds ad 1 c [.int .i64 y] (by rw [hz1]; rfl) hnews (by omega) (by omega) (growslice_fits (by omega) (by rw [hz2]; omega))
      rw [hr] at hr2
      injection hr2 with e1 e2
      subst e1 e2
      have hgl := (Array.getElem?_eq_some_iff.1 hg).1
      refine ⟨⟨hgr.os, hgr.tape, hgr.output, hgr.size, fun k hk _ hn => hgr.block k hk (fun e => hn e.symm), fun k e cur0 t z hc0 => ?_⟩, Or.inr (by simp [Value.ownBlock])⟩
      obtain rfl : g = k := by simpa [Value.ownBlock] using e
      exact ⟨cur0, (heap_alloc_old w.drew _ hgl).trans hc0, rfl, rfl⟩
/-- .. as one step of a region that draws. -/
theorem step_push {ops : Array Oper} {o : Oper} {a : Act} {w : World} {K : Act → World → Prop} {Q : Exit → Act → World → Prop} {E : Prop} (hw : Region.wanted o (yielded ops a.tmps) = true) (s x : Operand)
    (ho : o.op = .call { callee := .builtin .append, args := #[s, x], argTypes := #[24, 24] })
    (B : Nat) (v : Value) (P : List Int) (hs : a.eval s = v) (hG : Grows (Value.int .i64) 2 B v P w) (hl : P.length ≤ 1000) (hB : B ≤ w.heap.size) (b : Nat) (c : Nat) (y : Int)
    (hx : a.eval x = .slice (some ⟨b, 0, none⟩) 1 c) (hc : w.cell? ⟨b, 0, none⟩ = some (.int .i64 y))
    (h : ∀ v' w', Pushed B v P y w v' w' → K (a.put o.dst v') w') :
    if Region.wanted o (yielded ops a.tmps) = true then Oper.wp Try.prog o a w K Q else E := by
  rw [if_pos hw]
  obtain ⟨v', w', hr, h2⟩ := run_push (ty := o.type) B v P w hG hl hB ⟨b, 0, none⟩ c y hc rfl
  unfold Oper.wp execOp
  simp only [ho, resolve, invoke, builtin, Sem.run_bind, Sem.run_pure, Result.andThen_ok, List.map_toArray, List.map_cons, List.map_nil, hs, hx, hr]
  exact h v' w' h2
end Go.Proofs.Ytiobbclciboggaa
