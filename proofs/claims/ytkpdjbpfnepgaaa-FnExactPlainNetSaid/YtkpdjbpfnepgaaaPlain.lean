/- Plain nets: both sides; lists of arcs that grow, and that come in. -/
import Derived.Test.YtkpdjbpfnepgaaaFlow2
import Derived.Laws.AppendOwn
import Derived.WalkSpells
namespace Go.Proofs.Ytkpdjbpfnepgaaa
open Go.RowKit Go.ChangeShapes Go.WideShapes

def FitA (Z : List Ac) : Prop := Z.length ≤ maxLen ∧ ∀ a ∈ Z, a.ok
structure OKA (Z : List Ac) : Prop where
  size : Z.length ≤ 1048576
  fit : FitA Z
set_option maxRecDepth 100000 in
theorem open_arcs {H : Type} {enc : TypeId × Value → H} {w : World} {v : Value} {d : DataW H} {ps : List MemPlace} {b0 : Nat}
    (hval : Value.okWide Try.prog w .any b0 22 v) (hd : DataW.Trod enc Try.prog w 0 (fun _ => true) true 22 v d ps) : ∃ Z : List Ac, AV w v Z ∧ FitA Z := by
  obtain ⟨a0, len, cap, rfl⟩ := okWide_slice Try.underlying22 hval
  obtain ⟨fuel, hf⟩ := hd
  obtain ⟨Z, hZ, lZ, fZ⟩ := open_av hf
  exact ⟨Z, hZ, lZ, fZ⟩
theorem szA_yes (v : Value) (Z : List Ac) (m : Int) (w : World) (hv : AV w v Z) (hm : (Z.length : Int) ≤ m) (hb : m ≤ 1048576) :
    Calls Try.prog 22 #[v, .int .i64 m] w fun e w' => e = .returned (.int .i64 (m - Z.length)) ∧ Below w.heap.size w w' :=
  (szArcS_yes v Z.length m w hv.long hm hb).mono fun _ _ ⟨h1, h2⟩ => ⟨h1, by rw [← h2]; exact Below.refl _ _⟩
theorem szA_no (v : Value) (Z : List Ac) (m : Int) (w : World) (hv : AV w v Z) (hm : m < (Z.length : Int)) (h0 : 0 ≤ m) (hb : m ≤ 1048576) (hn : Z.length ≤ maxLen) :
    Calls Try.prog 22 #[v, .int .i64 m] w fun e w' => e = .returned (.int .i64 (-1)) ∧ Below w.heap.size w w' :=
  (szArcS_no v Z.length m w hv.long hm h0 hb hn).mono fun _ _ ⟨h1, h2⟩ => ⟨h1, by rw [← h2]; exact Below.refl _ _⟩
theorem heldA_says (v : Value) (k : Int) (n : Nat) (w : World) (hv : AV w v (marksA k n)) (hn : n ≤ 1048576) (hk0 : 0 ≤ k) (hk1 : k ≤ 1099511627776) :
    Calls Try.prog 59 #[v, .int .i64 k] w fun e w' => e = .returned (.int .i64 (k + ((4 * n : Nat) : Int))) ∧ Below w.heap.size w w' :=
  (heldArcS_any v k n w hv hn hk0 hk1).mono fun _ _ ⟨h1, h2⟩ => ⟨h1, by rw [← h2]; exact Below.refl _ _⟩

/-- The cells of arcs, one behind the other. -/
def flatA : List Ac → List Value
  | [] => []
  | a :: Z => .int .i64 a.f :: .int .i64 a.t :: .int .i64 a.r :: .int .i64 a.c :: flatA Z
theorem flatA_len : ∀ Z : List Ac, (flatA Z).length = Z.length * 4
  | [] => rfl
  | a :: Z => by simp [flatA, flatA_len Z]; omega
theorem flatA_append : ∀ Y Z : List Ac, flatA (Y ++ Z) = flatA Y ++ flatA Z
  | [], _ => rfl
  | a :: Y, Z => by simp [flatA, flatA_append Y Z]
theorem flatA_one : ∀ (Z : List Ac), ∀ u ∈ flatA Z, u.oneCell' = true
  | [], _, h => by cases h
  | a :: Z, u, h => by
    simp only [flatA, List.mem_cons] at h
    rcases h with rfl | rfl | rfl | rfl | h
    · rfl
    · rfl
    · rfl
    · rfl
    · exact flatA_one Z u h
theorem flatA_at : ∀ (Z : List Ac) (i : Nat), i < Z.length → (flatA Z)[i * 4]? = some (.int .i64 (Z.getD i zA).f) ∧ (flatA Z)[i * 4 + 1]? = some (.int .i64 (Z.getD i zA).t) ∧ (flatA Z)[i * 4 + 2]? = some (.int .i64 (Z.getD i zA).r) ∧ (flatA Z)[i * 4 + 3]? = some (.int .i64 (Z.getD i zA).c)
  | [], i, h => by simp at h
  | a :: Z, 0, _ => by simp [flatA]
  | a :: Z, i + 1, h => by
    have ih := flatA_at Z i (by simpa using h)
    have e : (i + 1) * 4 = i * 4 + 4 := by omega
    rw [e]
    simpa [flatA, Nat.add_assoc] using ih
/-- A list of arcs of the call's own that may be appended to. -/
def GrowsA (E : TypeId) (B : Nat) (v : Value) (Z : List Ac) (w : World) : Prop := w.ownsRow B E 4 v Z.length (flatA Z)
theorem GrowsA.si {E B : Nat} {v : Value} {Z : List Ac} {w : World} (h : GrowsA E B v Z w) : AI B w.heap.size w v Z := by
  refine ⟨Nat.le_refl _, ?_⟩
  rcases h.2 with ⟨hv, hn⟩ | ⟨g, cap, cur, rfl, hb, hg, hn, hc, hs, ht⟩
  · exact Or.inl ⟨List.eq_nil_of_length_eq_zero hn, none, 0, by rw [hv]⟩
  · by_cases hz : Z.length = 0
    · have : Z = [] := List.eq_nil_of_length_eq_zero hz
      subst this
      exact Or.inl ⟨rfl, _, _, rfl⟩
    · have hcell : ∀ j u, (flatA Z)[j]? = some u → w.cell? ⟨g, j, none⟩ = some u := by
        intro j u hu
        have hj : j < Z.length * 4 := by rw [← flatA_len]; exact (List.getElem?_eq_some_iff.1 hu).1
        simp only [World.cell?, hg]
        have h1 : (cur.toList.take (Z.length * 4))[j]? = (flatA Z)[j]? := by rw [ht]
        rw [List.getElem?_take, if_pos hj] at h1
        simp only [Option.isSome_none, Bool.false_eq_true, if_false]
        rw [← Array.getElem?_toList, h1, hu]
      refine Or.inr ⟨g, 0, cap - Z.length, by rw [Nat.add_sub_cancel' hn], by omega, hb, (Array.getElem?_eq_some_iff.1 hg).1, fun i => ?_, fun i hi => ?_⟩
      · simp [World.frozen?, hg]
      · obtain ⟨a0, a1, a2, a3⟩ := flatA_at Z i hi
        rw [Nat.zero_add]
        exact ⟨hcell _ _ a0, hcell _ _ a1, hcell _ _ a2, hcell _ _ a3⟩
/-- Cells that arcs fill. -/
theorem arcs_cells {w : World} {b off : Nat} {Z : List Ac} (h : ∀ i, i < Z.length → ArcAt w b (off + i * 4) (Z.getD i zA)) : ∀ j u, (flatA Z)[j]? = some u → w.cell? ((⟨b, off, none⟩ : Addr).add j) = some u := by
  intro j u hu
  have hj : j < Z.length * 4 := by rw [← flatA_len]; exact (List.getElem?_eq_some_iff.1 hu).1
  have hd : j = j / 4 * 4 + j % 4 := by omega
  have hm : j % 4 < 4 := Nat.mod_lt _ (by omega)
  have hi : j / 4 < Z.length := by omega
  obtain ⟨a0, a1, a2, a3⟩ := flatA_at Z _ hi
  obtain ⟨c0, c1, c2, c3⟩ := h _ hi
  rw [Go.WideShapes.add_plain]
  rw [hd] at hu ⊢
  generalize j / 4 = i at *
  generalize j % 4 = m at *
  match m, hm with
  | 0, _ => rw [Nat.add_zero, a0] at hu; cases hu; rw [Nat.add_zero]; exact c0
  | 1, _ => rw [a1] at hu; cases hu; rw [← Nat.add_assoc]; exact c1
  | 2, _ => rw [a2] at hu; cases hu; rw [← Nat.add_assoc]; exact c2
  | 3, _ => rw [a3] at hu; cases hu; rw [← Nat.add_assoc]; exact c3

def plainB (n : Int) (Z : List Ac) : Bool := okN ⟨n, Z⟩
def plainN (n : Int) (Z : List Ac) : Nt := bif plainB n Z then ⟨n, Z⟩ else ⟨0, []⟩
theorem plainN_len (n : Int) (Z : List Ac) : (plainN n Z).arcs.length ≤ 1048576 := by
  unfold plainN
  cases h : plainB n Z with
  | false => simp
  | true => have := (okN_ok h).l; simp only [cond_true]; exact Nat.le_trans this (by omega)
def SaysNB (N : Nt) (b : Bool) (w : World) (e : Ending) (w' : World) : Prop := ∃ v, e = .returned (.tuple #[v, .bool b]) ∧ ND w.heap.size w'.heap.size w' v N ∧ Below w.heap.size w w'
theorem run_append_none {P : Program} (t ty e : TypeId) (i : TypeInfo) (ht : P.underlying t = some (.slice e)) (hi : P.info? e = some i) (g c : Nat) (w : World) :
    (Builtin.append_ #[t, t] ty #[.slice (some ⟨g, 0, none⟩) 0 0, .slice none 0 c]).run P w = .ok (.slice (some ⟨g, 0, none⟩) 0 0) w := by
  simp [Builtin.append_, run_underlying ht, sizeOf, typeInfo, hi, Builtin.lenOf, Builtin.firstCells, storeCells]
theorem wpList_append_none {P : Program} {w : World} {ops : Array Oper} {rest : List Oper} {o : Oper} {a : Act} {Q : Exit → Act → World → Prop} (hgd : o.guard = none) (s x : Operand) (t e : TypeId)
    (ho : o.op = .call { callee := .builtin .append, args := #[s, x], argTypes := #[t, t] }) (i : TypeInfo) (ht : P.underlying t = some (.slice e)) (hi : P.info? e = some i)
    (g c : Nat) (hs : a.eval s = .slice (some ⟨g, 0, none⟩) 0 0) (hx : a.eval x = .slice none 0 c) (h : wpList P ops Q rest (a.put o.dst (.slice (some ⟨g, 0, none⟩) 0 0)) w) : wpList P ops Q (o :: rest) a w := by
  refine wpList_plain hgd fun K hK => ?_
  have hrun := run_append_none (P := P) t o.type e i ht hi g c w
  unfold Oper.wp
  simp [execOp, ho, resolve, invoke, builtin, hs, hx, hrun, Result.andThen]
  exact hK _ _ h
theorem GrowsA.empty (E B : Nat) (w : World) (h : B ≤ w.heap.size) : GrowsA E B (.slice (some ⟨w.heap.size, 0, none⟩) 0 0) [] (w.alloc (.cells #[] E)) := World.ownsRow_made w #[] 0 h (Nat.zero_le _) rfl
/-- Where a list of arcs lies, also an empty one, but nil. -/
def LiesA (w : World) (ad : Addr) (Z : List Ac) : Prop := ∀ (o : Obj) j u, (flatA Z)[j]? = some u → (w.alloc o).cell? (ad.add j) = some u
theorem AV.lies {w : World} {v : Value} {Z : List Ac} (h : AV w v Z) : (Z = [] ∧ ∃ cap, v = .slice none 0 cap) ∨ ∃ ad cap, v = .slice (some ad) Z.length cap ∧ LiesA w ad Z := by
  rcases h with ⟨rfl, ao, cap, rfl⟩ | ⟨b, off, cap, rfl, hpos, hbl, hcell⟩
  · cases ao with
    | none => exact Or.inl ⟨rfl, cap, rfl⟩
    | some ad => exact Or.inr ⟨ad, cap, rfl, fun o j u hu => by simp [flatA] at hu⟩
  · exact Or.inr ⟨_, _, rfl, fun o j u hu => arcs_cells (fun i hi => (hcell i hi).keep (below_alloc w o) hbl) j u hu⟩
set_option maxHeartbeats 1000000 in
theorem cloneA_any (v : Value) (Z : List Ac) (w : World) (hv : AV w v Z) (hn : Z.length ≤ 1048576) :
    Calls Try.prog 57 #[v] w (MadeA Z w) := by
  obtain ⟨i0, hi, hz0, hz1, hz2⟩ := info_parts Try.infoA
  rcases hv.lies with ⟨rfl, cap, rfl⟩ | ⟨ad, cap, rfl, hl⟩
  · have hnil := fun (W : World) => Lib.run_eql_slice_nil (P := Try.prog) W 27 65 none 0 cap 0 0 Try.underlying27
    clear hv
    go_enter Try.func57, Try.ntmps57
    go_wp2_with fail
    refine bodyPost_ret (results_tmp rfl _ _ _) rfl ?_
    exact ⟨_, rfl, AI.nil _ (Nat.le_refl _) _ _, Below.refl _ _⟩
  · have HL := Lib.hid hl
    clear hv hl
    have hnil := fun (W : World) => Lib.run_eql_slice_nil (P := Try.prog) W 27 65 (some ad) Z.length cap 0 0 Try.underlying27
    go_enter Try.func57, Try.ntmps57
    go_wp2_with (at_builtin; refine wpList_append_own _ rfl _ _ 27 rfl w.heap.size 65 i0 (.agg #[.int .i64 0, .int .i64 0, .int .i64 0, .int .i64 0]) 4 32 Try.underlying27 hi hz0 hz1 hz2 rfl (by decide) _ _ _ rfl (GrowsA.empty _ _ w (Nat.le_refl _)) ad Z.length cap (flatA Z) rfl (flatA_len Z) ?c1 ?c2 ?c3 ?c4 ?c5 ?_)
    case c1 => exact HL.out _
    case c2 => exact flatA_one Z
    case c3 => simp; unfold maxLen; omega
    case c4 => simp; omega
    case c5 => simp
    intro v' w' hown hgrow _
    have HN : Hid (GrowsA 65 w.heap.size v' Z w') := Lib.hid (by have h := hown; simp only [flatA, List.nil_append] at h; show World.ownsRow _ _ _ _ _ _ _; simpa using h)
    have HB := Lib.hid ((below_alloc w _).grown hgrow (by simp) (fun k hk => by simp [Value.ownBlock] at hk; omega))
    clear hown hgrow
    go_wp2_with fail
    refine bodyPost_ret (results_tmp rfl _ _ _) rfl ?_
    exact ⟨_, rfl, HN.out.si, HB.out⟩
set_option maxHeartbeats 2000000 in
theorem implPlainNet_any (n : Int) (v : Value) (Z : List Ac) (w : World) (hv : AV w v Z) (_on : -9223372036854775808 ≤ n ∧ n ≤ 9223372036854775807) (oZ : OKA Z) :
    Calls Try.prog 25 #[.int .i64 n, v] w (SaysNB (plainN n Z) (plainB n Z) w) := by
  have HB := Lib.hid (below_alloc w)
  have hn := oZ.size
  have HV := Lib.hid hv
  have oN : OKN ⟨n, Z⟩ := ⟨oZ.size, oZ.fit⟩
  have HN := Lib.hid (fun o => show NV (w.alloc o) (.agg #[.int .i64 n, v]) ⟨n, Z⟩ from ⟨v, rfl, hv.below (HB.out o) (Nat.le_refl _)⟩)
  obtain ⟨ao, cap, rfl⟩ := hv.long
  clear hv
  unfold plainN
  cases h1 : plainB n Z with
  | false =>
    have H1 : Hid (okN ⟨n, Z⟩ = false) := Lib.hid h1
    clear h1
    go_enter Try.func25, Try.ntmps25
    go_wp2_with fail
    go_at_call 18; refine (implValidNet_is false _ ⟨n, Z⟩ _ (HN.out _) oN H1.out).mono ?_; rintro e w1 ⟨rfl, bb⟩
    have B1 := Lib.hid ((HB.out _).trans (bb.mono (by simp)))
    obtain ⟨hc1, hf1⟩ := bcell bb
    have hz1 : w.heap.size < w1.heap.size := by have := bb.size; simp at this; omega
    clear bb
    go_wp2_with fail
    refine bodyPost_ret (v := .tuple #[.agg #[.int .i64 0, .slice none 0 0], .bool false]) (by simp [results, Try.results25, hc1, go_sem]) rfl ?_
    generalize hX : World.setCell _ _ _ = X
    have hT : Turned w.heap.size (w.heap.size + 1) w1 X := by
      rw [← hX]
      repeat (refine Turned.setCell ?_ (by simp) (by simp) _)
      exact Turned.refl _ _ _
    clear hX
    exact ⟨_, rfl, ⟨_, rfl, AI.nil _ (Nat.le_refl _) _ _⟩, B1.out.trans (hT.below (by omega))⟩
  | true =>
    have H1 : Hid (okN ⟨n, Z⟩ = true) := Lib.hid h1
    have HVB := Lib.hid (fun w' (b : Below w.heap.size w w') => HV.out.below b (Nat.le_refl _))
    clear h1
    go_enter Try.func25, Try.ntmps25
    go_wp2_with fail
    go_at_call 18; refine (implValidNet_is true _ ⟨n, Z⟩ _ (HN.out _) oN H1.out).mono ?_; rintro e w1 ⟨rfl, bb⟩
    have B1 := Lib.hid ((HB.out _).trans (bb.mono (by simp)))
    have hz1 : w.heap.size < w1.heap.size := by have := bb.size; simp at this; omega
    have hr1 : w1.cell? ⟨w.heap.size, 0, none⟩ = some (.int .i64 0) ∧ w1.cell? ⟨w.heap.size, 1, none⟩ = some (.slice none 0 0) := by
      obtain ⟨hc1, -⟩ := bcell bb
      exact ⟨by rw [hc1 _ _ (by simp)]; go_simp, by rw [hc1 _ _ (by simp)]; go_simp⟩
    have hf1 : ∀ i, w1.frozen? ⟨w.heap.size, i, none⟩ = false := by
      obtain ⟨-, hf⟩ := bcell bb
      exact fun i => by rw [hf _ _ (by simp)]; go_simp
    have R1 := Lib.hid hr1
    have FF := Lib.hid hf1
    clear bb hr1 hf1
    go_wp2_with fail
    go_at_call 57; refine (cloneA_any _ Z _ (HVB.out _ B1.out) hn).mono ?_; rintro e w2 ⟨v2, rfl, i2, b2⟩
    obtain ⟨x2, y2, rfl⟩ := i2.len'
    have hz2 : w.heap.size < w2.heap.size := Nat.lt_of_lt_of_le hz1 b2.size
    have hr2 : w2.cell? ⟨w.heap.size, 0, none⟩ = some (.int .i64 0) ∧ w2.cell? ⟨w.heap.size, 1, none⟩ = some (.slice none 0 0) := ⟨keep_cell R1.out.1 b2 hz1, keep_cell R1.out.2 b2 hz1⟩
    obtain ⟨g0, g1⟩ := hr2
    have f2 : w2.frozen? ⟨w.heap.size, 0, none⟩ = false := by rw [b2.frozen (p := ⟨w.heap.size, 0, none⟩) hz1]; exact FF.out 0
    have f3 : w2.frozen? ⟨w.heap.size, 1, none⟩ = false := by rw [b2.frozen (p := ⟨w.heap.size, 1, none⟩) hz1]; exact FF.out 1
    have I2 := Lib.hid i2
    have HZ1 := Lib.hid hz1
    have B2 := Lib.hid (B1.out.trans (b2.mono (Nat.le_of_lt hz1)))
    clear i2 b2
    go_wp2_with fail
    refine bodyPost_ret (v := .tuple #[.agg #[.int .i64 n, .slice x2 Z.length y2], .bool true]) (by simp [results, Try.results25, g0, g1, go_sem]) rfl ?_
    generalize hX : World.setCell _ _ _ = X
    have hT : Turned w.heap.size (w.heap.size + 1) w2 X := by
      rw [← hX]
      repeat (refine Turned.setCell ?_ (by simp) (by simp) _)
      exact Turned.refl _ _ _
    clear hX
    exact ⟨_, rfl, ⟨_, rfl, AI.wide (I2.out.kept' hT (Or.inr HZ1.out)) (Nat.le_of_lt HZ1.out) hT.size (Nat.le_refl _)⟩, B2.out.trans (hT.below (by omega))⟩
theorem l03Is_says (t : Bool) (g : Nat) (s1 : Value) (N : Nt) (w : World) (h : NP w g s1 N) (hn : N.arcs.length ≤ 1048576) (ht : okN N = t) :
    Calls Try.prog 52 #[.pointer (some ⟨g, 0, none⟩)] w (Says t w) := (l03Is_is t g s1 N w h hn ht).mono fun _ _ h => h.says
/-- A box for a result that is a net: its cells may be written. -/
structure Res2 (w : World) (g : Nat) : Prop where
  c0 : ∃ u, w.cell? ⟨g, 0, none⟩ = some u
  c1 : ∃ u, w.cell? ⟨g, 1, none⟩ = some u
  free : ∀ i, w.frozen? ⟨g, i, none⟩ = false
theorem Res2.keep {B : Nat} {w w' : World} {g : Nat} (h : Res2 w g) (hb : Below B w w') (hg : g < B) : Res2 w' g :=
  ⟨by obtain ⟨u, hu⟩ := h.c0; exact ⟨u, keep_cell hu hb hg⟩, by obtain ⟨u, hu⟩ := h.c1; exact ⟨u, keep_cell hu hb hg⟩, fun i => by rw [hb.frozen (p := ⟨g, i, none⟩) hg]; exact h.free i⟩
set_option maxHeartbeats 2000000 in
theorem specPlainNet_nil (n : Int) (cap : Nat) (t : Bool) (w : World) (ht : okN ⟨n, []⟩ = t) :
    Calls Try.prog 23 #[.int .i64 n, .slice none 0 cap] w (SaysNB (bif t then ⟨n, []⟩ else ⟨0, []⟩) t w) := by
  obtain ⟨i0, hi, hz0, hz1, hz2⟩ := info_parts Try.infoA
  have HB := Lib.hid (fun A B C => ((below_alloc w A).alloc (by simp) B).alloc (by simp; omega) C)
  have HT := Lib.hid ht
  have HP : Hid (∀ A B, NP (((w.alloc A).alloc B).alloc (.cells #[.int .i64 n, .slice (some ⟨w.heap.size + 1, 0, none⟩) 0 0] 29)) (w.heap.size + 1 + 1) (.slice (some ⟨w.heap.size + 1, 0, none⟩) 0 0) ⟨n, []⟩) := Lib.hid fun A B => ⟨by go_simp, by go_simp, Or.inl ⟨rfl, _, _, rfl⟩⟩
  have HR : Hid (∀ u v B C, Res2 (((w.alloc (.cells #[u, v] 29)).alloc B).alloc C) w.heap.size) := Lib.hid fun u v B C => ⟨⟨u, by go_simp⟩, ⟨v, by go_simp⟩, fun i => by go_simp⟩
  clear ht
  cases t with
  | false =>
    go_enter Try.func23, Try.ntmps23
    go_wp2_with (at_builtin; refine wpList_append_none rfl _ _ 27 65 rfl i0 Try.underlying27 hi (w.heap.size + 1) cap rfl rfl ?_)
    go_at_call 52; refine (l03Is_says false _ _ ⟨n, []⟩ _ (HP.out _ _) (Nat.zero_le _) HT.out).mono ?_; rintro e w1 ⟨rfl, b⟩
    have hz1 : w.heap.size < w1.heap.size := by have := b.size; simp at this; omega
    obtain ⟨⟨u0, g0⟩, ⟨u1, g1⟩, hf⟩ := (HR.out _ _ _ _).keep b (by simp; omega)
    have f0 := hf 0
    have f1 := hf 1
    have B1 := Lib.hid ((HB.out _ _ _).trans (b.mono (by simp; omega)))
    have HZ1 := Lib.hid hz1
    clear b hf
    go_wp2_with fail
    refine bodyPost_ret (v := .tuple #[.agg #[.int .i64 0, .slice none 0 0], .bool false]) (by simp [results, Try.results23, g0, g1, go_sem]) rfl ?_
    generalize hX : World.setCell _ _ _ = X
    have hT : Turned w.heap.size (w.heap.size + 1) w1 X := by
      rw [← hX]
      repeat (refine Turned.setCell ?_ (by simp) (by simp) _)
      exact Turned.refl _ _ _
    clear hX
    exact ⟨_, rfl, ⟨_, rfl, AI.nil _ (Nat.le_refl _) _ _⟩, B1.out.trans (hT.below (Nat.le_of_lt HZ1.out))⟩
  | true =>
    go_enter Try.func23, Try.ntmps23
    go_wp2_with (at_builtin; refine wpList_append_none rfl _ _ 27 65 rfl i0 Try.underlying27 hi (w.heap.size + 1) cap rfl rfl ?_)
    go_at_call 52; refine (l03Is_says true _ _ ⟨n, []⟩ _ (HP.out _ _) (Nat.zero_le _) HT.out).mono ?_; rintro e w1 ⟨rfl, b⟩
    have hz1 : w.heap.size < w1.heap.size := by have := b.size; simp at this; omega
    have hz2 : w.heap.size + 1 + 1 < w1.heap.size := by have := b.size; simp at this; omega
    obtain ⟨⟨u0, g0⟩, ⟨u1, g1⟩, hf⟩ := (HR.out _ _ _ _).keep b (by simp; omega)
    obtain ⟨p0, p1, -⟩ := (HP.out _ _).keep b (by simp) (by simp)
    have f0 := hf 0
    have f1 := hf 1
    have B1 := Lib.hid ((HB.out _ _ _).trans (b.mono (by simp; omega)))
    have HZ1 := Lib.hid hz1
    clear b hf
    go_wp2_with fail
    refine bodyPost_ret (v := .tuple #[.agg #[.int .i64 n, .slice (some ⟨w.heap.size + 1, 0, none⟩) 0 0], .bool true]) (by simp [results, Try.results23, g0, g1, go_sem]) rfl ?_
    generalize hX : World.setCell _ _ _ = X
    have hT : Turned w.heap.size (w.heap.size + 1) w1 X := by
      rw [← hX]
      repeat (refine Turned.setCell ?_ (by simp) (by simp) _)
      exact Turned.refl _ _ _
    clear hX
    exact ⟨_, rfl, ⟨_, rfl, AI.nil _ (Nat.le_refl _) _ _⟩, B1.out.trans (hT.below (Nat.le_of_lt HZ1.out))⟩
theorem GrowsA.empty1 (E B : Nat) (w : World) (o : Obj) (h : B ≤ w.heap.size + 1) : GrowsA E B (.slice (some ⟨w.heap.size + 1, 0, none⟩) 0 0) [] ((w.alloc o).alloc (.cells #[] E)) := by
  have e : (w.alloc o).heap.size = w.heap.size + 1 := by simp
  have := GrowsA.empty E B (w.alloc o) (by rw [e]; exact h)
  rw [e] at this
  exact this
set_option maxHeartbeats 4000000 in
theorem specPlainNet_some (n : Int) (ad : Addr) (cap : Nat) (Z : List Ac) (t : Bool) (w : World) (hl : LiesA w ad Z) (hn : Z.length ≤ 1048576) (ht : okN ⟨n, Z⟩ = t) :
    Calls Try.prog 23 #[.int .i64 n, .slice (some ad) Z.length cap] w (SaysNB (bif t then ⟨n, Z⟩ else ⟨0, []⟩) t w) := by
  obtain ⟨i0, hi, hz0, hz1, hz2⟩ := info_parts Try.infoA
  have HL := Lib.hid hl
  have HT := Lib.hid ht
  have HB := Lib.hid (fun A => below_alloc w A)
  have HR : Hid (∀ u v, Res2 (w.alloc (.cells #[u, v] 29)) w.heap.size) := Lib.hid fun u v => ⟨⟨u, by go_simp⟩, ⟨v, by go_simp⟩, fun i => by go_simp⟩
  have hl2 : ∀ (A B : Obj) j u, (flatA Z)[j]? = some u → ((w.alloc A).alloc B).cell? (ad.add j) = some u := by
    intro A B j u hu
    have h1 := hl A j u hu
    have hlt : (ad.add j).block < (w.alloc A).heap.size := by
      rcases Nat.lt_or_ge (ad.add j).block (w.alloc A).heap.size with h | h
      · exact h
      · exfalso
        have hnn : (w.alloc A).heap[(ad.add j).block]? = none := Array.getElem?_eq_none h
        simp [World.cell?, hnn] at h1
    rw [(below_alloc (w.alloc A) B).cell hlt]; exact h1
  have HL2 := Lib.hid hl2
  clear hl ht hl2
  go_enter Try.func23, Try.ntmps23
  go_wp2_with (at_builtin; refine wpList_append_own _ rfl _ _ 27 rfl (w.heap.size + 1) 65 i0 (.agg #[.int .i64 0, .int .i64 0, .int .i64 0, .int .i64 0]) 4 32 Try.underlying27 hi hz0 hz1 hz2 rfl (by decide) _ _ _ rfl (GrowsA.empty1 _ _ w _ (Nat.le_refl _)) ad Z.length cap (flatA Z) rfl (flatA_len Z) ?c1 ?c2 ?c3 ?c4 ?c5 ?_)
  case c1 => exact HL2.out _ _
  case c2 => exact flatA_one Z
  case c3 => simp; unfold maxLen; omega
  case c4 => simp; omega
  case c5 => simp
  intro v' w1 hown hgrow _
  have HN : Hid (GrowsA 65 (w.heap.size + 1) v' Z w1) := Lib.hid (by have h := hown; simp only [flatA, List.nil_append] at h; show World.ownsRow _ _ _ _ _ _ _; simpa using h)
  have b1 := (below_alloc (w.alloc (.cells #[.int .i64 0, .slice none 0 0] 29)) (.cells #[] 65)).grown hgrow (by simp) (fun k hk => by simp [Value.ownBlock] at hk; simp; omega)
  have R1 := Lib.hid ((HR.out (.int .i64 0) (.slice none 0 0)).keep b1 (by simp))
  have B1 := Lib.hid ((HB.out (.cells #[.int .i64 0, .slice none 0 0] 29)).trans (b1.mono (by simp)))
  have hz1 : w.heap.size < w1.heap.size := by have := b1.size; simp at this; omega
  have i1 := HN.out.si
  obtain ⟨x1, y1, rfl⟩ := i1.len'
  have HP := Lib.hid (NP.box (N := ⟨n, Z⟩) w1 i1.av)
  have I1 := Lib.hid i1
  clear hown hgrow b1 i1 HN
  cases t with
  | false =>
    go_wp2_with fail
    go_at_call 52; refine (l03Is_says false _ _ ⟨n, Z⟩ _ HP.out hn HT.out).mono ?_; rintro e w2 ⟨rfl, b⟩
    have bz := (below_alloc w1 _).trans (b.mono (by simp))
    obtain ⟨⟨u0, g0⟩, ⟨u1, g1⟩, hf⟩ := R1.out.keep bz hz1
    have f0 := hf 0
    have f1 := hf 1
    have hz2 : w.heap.size < w2.heap.size := Nat.lt_of_lt_of_le hz1 bz.size
    have B2 := Lib.hid (B1.out.trans (bz.mono (Nat.le_of_lt hz1)))
    have HZ1 := Lib.hid hz2
    clear b bz hf
    go_wp2_with fail
    refine bodyPost_ret (v := .tuple #[.agg #[.int .i64 0, .slice none 0 0], .bool false]) (by simp [results, Try.results23, g0, g1, go_sem]) rfl ?_
    generalize hX : World.setCell _ _ _ = X
    have hT : Turned w.heap.size (w.heap.size + 1) w2 X := by
      rw [← hX]
      repeat (refine Turned.setCell ?_ (by simp) (by simp) _)
      exact Turned.refl _ _ _
    clear hX
    exact ⟨_, rfl, ⟨_, rfl, AI.nil _ (Nat.le_refl _) _ _⟩, B2.out.trans (hT.below (Nat.le_of_lt HZ1.out))⟩
  | true =>
    go_wp2_with fail
    go_at_call 52; refine (l03Is_says true _ _ ⟨n, Z⟩ _ HP.out hn HT.out).mono ?_; rintro e w2 ⟨rfl, b⟩
    have bz := (below_alloc w1 (.cells #[.int .i64 n, .slice x1 Z.length y1] 29)).trans (b.mono (by simp))
    obtain ⟨⟨u0, g0⟩, ⟨u1, g1⟩, hf⟩ := R1.out.keep bz hz1
    obtain ⟨p0, p1, -⟩ := HP.out.keep b (by simp) (by simp)
    have f0 := hf 0
    have f1 := hf 1
    have hz2 : w.heap.size < w2.heap.size := Nat.lt_of_lt_of_le hz1 bz.size
    have hz3 : w1.heap.size < w2.heap.size := by have := b.size; simp at this; omega
    have B2 := Lib.hid (B1.out.trans (bz.mono (Nat.le_of_lt hz1)))
    have I2 := Lib.hid (I1.out.below' bz (Nat.le_refl _))
    have HZ1 := Lib.hid hz2
    have HZ0 := Lib.hid hz1
    have HZ3 := Lib.hid (Nat.le_of_lt hz3)
    have hne : ¬ w.heap.size = w1.heap.size := by omega
    clear b bz hf
    go_wp2_with fail
    refine bodyPost_ret (v := .tuple #[.agg #[.int .i64 n, .slice x1 Z.length y1], .bool true]) (by simp [results, Try.results23, g0, g1, go_sem]) rfl ?_
    generalize hX : World.setCell _ _ _ = X
    have hT : Turned w.heap.size (w.heap.size + 1) w2 X := by
      rw [← hX]
      repeat (refine Turned.setCell ?_ (by simp) (by simp) _)
      exact Turned.refl _ _ _
    clear hX
    exact ⟨_, rfl, ⟨_, rfl, AI.wide (I2.out.kept' hT (Or.inr (Nat.le_refl _))) (by omega) (Nat.le_trans HZ3.out hT.size) (Nat.le_refl _)⟩, B2.out.trans (hT.below (Nat.le_of_lt HZ1.out))⟩
theorem specPlainNet_any (n : Int) (v : Value) (Z : List Ac) (w : World) (hv : AV w v Z) (_on : -9223372036854775808 ≤ n ∧ n ≤ 9223372036854775807) (oZ : OKA Z) :
    Calls Try.prog 23 #[.int .i64 n, v] w (SaysNB (plainN n Z) (plainB n Z) w) := by
  rcases hv.lies with ⟨rfl, cap, rfl⟩ | ⟨ad, cap, rfl, hl⟩
  · exact specPlainNet_nil n cap _ w rfl
  · exact specPlainNet_some n ad cap Z _ w hl oZ.size rfl
end Go.Proofs.Ytkpdjbpfnepgaaa
