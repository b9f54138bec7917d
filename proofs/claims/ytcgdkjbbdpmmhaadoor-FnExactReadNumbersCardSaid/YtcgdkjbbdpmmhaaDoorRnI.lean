/- A list of numbers with digits of bits that is read: the program. -/
import Derived.Test.YtcgdkjbbdpmmhaaDoorRs4
import Derived.Test.YtcgdkjbbdpmmhaaDoorRn0
import Derived.Test.YtcgdkjbbdpmmhaaDoorHxI
import Derived.Maps.AppendAt
import Derived.RangeFuncBox
namespace Go.Proofs.YtcgdkjbbdpmmhaaDoor
open Go.RowKit Go.ChangeShapes Go.WideShapes Go.Shelf
attribute [local go_sem] Oper.semAt_some

abbrev readN : Value := .func (.func 55) #[] #[]
set_option maxRecDepth 100000 in
theorem listOfN_none (w : World) :
    Calls Tryd.prog 54 #[.string noneS, .int .i64 256, readN] w (SaysNB [] true w) := by
  have K := two_new w (.cells #[readN] 79) (.slice none 0 0) (.bool true) 28 4
  have e1 : noneS.toList = [110, 111, 110, 101] := (none_iff _).2 rfl
  have HK := Lib.hid K
  clear K
  go_enter Tryd.func54, Tryd.ntmps54
  go_wp2_with fail
  refine bodyPost_ret (v := .tuple #[.slice none 0 0, .bool true]) (by simp [results, Tryd.results54, go_sem, HK.out.1, HK.out.2.1]) rfl ?_
  exact ⟨_, rfl, SI.nil _ (Nat.le_refl _) _ _, HK.out.2.2⟩
set_option maxRecDepth 100000 in
theorem listOfN_long (s : ByteArray) (w : World) (h : s ≠ noneS) (hl : 256 < (ptY 44 s).length) :
    Calls Tryd.prog 54 #[.string s, .int .i64 256, readN] w (SaysNB [] false w) := by
  have K := two_new w (.cells #[readN] 79) (.slice none 0 0) (.bool false) 28 4
  have e1 : ¬ s.toList = [110, 111, 110, 101] := fun q => h ((none_iff _).1 q)
  have e2 : (s.toList == [110, 111, 110, 101]) = false := by rw [beq_eq_false_iff_ne]; exact e1
  have CN := Lib.hid (fun w => countC_any s w)
  have hle := ptY_le 44 s
  rw [ptY_len] at hl hle
  obtain ⟨n, hn⟩ : ∃ n, n = s.data.toList.count 44 := ⟨_, rfl⟩
  rw [← hn] at CN hl hle
  have d1 : decide ((n : Int) ≥ 256) = true := by simp; omega
  have HK := Lib.hid K
  clear K hn h
  go_enter Tryd.func54, Tryd.ntmps54
  go_wp2_with fail
  go_at_call 84; refine (CN.out _).mono ?_; rintro e w2 ⟨rfl, rfl⟩
  go_wp2_with fail
  refine bodyPost_ret (v := .tuple #[.slice none 0 0, .bool false]) (by simp [results, Tryd.results54, go_sem, HK.out.1, HK.out.2.1]) rfl ?_
  exact ⟨_, rfl, SI.nil _ (Nat.le_refl _) _ _, HK.out.2.2⟩
theorem Tryd.infoRn : (Tryd.prog.info? 67).map (fun i => (i.zero, i.size, i.bytes)) = some (some (.float .f32 0), 1, 4) := by kernel_rfl
/-- What the boxes hold behind k numbers. -/
structure RnS (w : World) (Z : List Nat) (v : Value) (X : World) : Prop where
  box : Rs4 w w.heap.size readN (.slice none 0 0) (.bool false) v X
  row : Grows (Value.float .f32) 67 (w.heap.size + 9) v Z X
theorem RnS.but {w : World} {Z : List Nat} {v : Value} {X X' : World} (h : RnS w Z v X) {S : Nat → Prop} (hb : But S X X') (hs : ∀ i, S i → w.heap.size + 4 ≤ i ∧ i < w.heap.size + 9) : RnS w Z v X' :=
  ⟨h.box.but hb (fun q => by have := hs _ q; omega) (fun q => by have := hs _ q; omega) (fun q => by have := hs _ q; omega) (fun q => by have := hs _ q; omega) (fun i q => by have := hs _ q; omega), h.row.but hb fun i q => (hs i q).2⟩
theorem RnS.keep {w : World} {Z : List Nat} {v : Value} {X X' : World} (h : RnS w Z v X) (hb : Below X.heap.size X X') : RnS w Z v X' := ⟨h.box.keep hb, h.row.below hb (Nat.le_refl _)⟩
structure RnS2 (w : World) (Z : List Nat) (v : Value) (X : World) : Prop where
  box : Rs4 w w.heap.size readN v (.bool true) v X
  row : Grows (Value.float .f32) 67 (w.heap.size + 9) v Z X
theorem RnS2.of {w : World} {Z : List Nat} {v : Value} {X : World} {N : Nat} (h : RnS w Z v X) (hN : w.heap.size + 4 ≤ N ∧ N < w.heap.size + 9) : RnS2 w Z v (((X.setCell ⟨w.heap.size + 1, 0, none⟩ v).setCell ⟨w.heap.size + 1 + 1, 0, none⟩ (.bool true)).putObj N (.deferred none)) :=
  ⟨(h.box.put23 (Nat.le_refl _) _ _).but (But.putObj (S := fun k => k = N) _ rfl) (by omega) (by omega) (by omega) (by omega) (fun i hi => by omega),
    h.row.but (S := fun i => i < w.heap.size + 9) ((((But.refl _ X).setCell (p := ⟨w.heap.size + 1, 0, none⟩) (by show w.heap.size + 1 < _; omega) _).setCell (p := ⟨w.heap.size + 1 + 1, 0, none⟩) (by show w.heap.size + 1 + 1 < _; omega) _).trans (But.putObj _ (by show N < _; omega))) fun i hi => hi⟩
set_option maxRecDepth 100000 in
set_option maxHeartbeats 4000000 in
theorem listOfN_main (s : ByteArray) (w : World) (h : s ≠ noneS) (hl : (ptY 44 s).length ≤ 256) (hs : s.size ≤ 1048576) :
    Calls Tryd.prog 54 #[.string s, .int .i64 256, readN] w (SaysNB (rnL s) (rnB s) w) := by
  have e1 : ¬ s.toList = [110, 111, 110, 101] := fun q => h ((none_iff _).1 q)
  have e2 : (s.toList == [110, 111, 110, 101]) = false := by rw [beq_eq_false_iff_ne]; exact e1
  have CN := Lib.hid (fun w => countC_any s w)
  have hle := ptY_le 44 s
  have HL := Lib.hid hl
  have hl2 := hl
  rw [ptY_len] at hl2 hle
  obtain ⟨n, hn⟩ : ∃ n, n = s.data.toList.count 44 := ⟨_, rfl⟩
  rw [← hn] at CN hl2 hle
  have d1 : decide ((n : Int) ≥ 256) = false := by simp; omega
  have HNN := Lib.hid h
  clear hn h hl
  refine (callsIn_wide (n := 5)).1 ?_
  refine callsIn_of_wp_marks Tryd.func54 rfl trivial ?_ rfl
  simp only [Tryd.ntmps54, List.size_toArray, List.length_cons, List.length_nil, Nat.reduceAdd, Nat.reduceSub, Array.replicate_succ, Array.replicate_zero, List.push_toArray, List.append_toArray, List.nil_append, List.cons_append]
  gi_wp2_with (first
    | (refine ⟨trivial, ?_⟩; gi_at_call 84; refine (callsIn_wide.2 (CN.out _)).mono ?_; rintro e w2 ⟨rfl, rfl⟩)
    | (refine ⟨trivial, ?_⟩; gi_at_call 85; refine (callsIn_wide.2 (splitSeqF_any _ _)).mono ?_; rintro e w' ⟨rfl, rfl⟩))
  obtain ⟨W4, hW4⟩ : ∃ W4, W4 = (((w.alloc (.cells #[readN] 79)).alloc (.cells #[.slice none 0 0] 28)).alloc (.cells #[.bool false] 4)).alloc (.cells #[.slice none 0 0] 28) := ⟨_, rfl⟩
  have hr4 : Rs4 w w.heap.size readN (.slice none 0 0) (.bool false) (.slice none 0 0) W4 := by rw [hW4]; exact rs4_new _ _ _ _ _ _ _ _ _
  have hz4 : W4.heap.size = w.heap.size + 1 + 1 + 1 + 1 := by rw [hW4]; simp
  rw [← hW4]
  clear hW4
  obtain ⟨W, hW⟩ : ∃ W, W = ((W4.alloc (.cells #[.string s] 9)).alloc (.cells #[.string ⟨#[44]⟩] 9)).alloc (.cells #[.int .i64 0] 3) := ⟨_, rfl⟩
  have hz : W.heap.size = w.heap.size + 7 := by rw [hW]; simp [hz4]
  have hb4 : Below W4.heap.size W4 W := by rw [hW]; exact ((below_alloc W4 _).alloc (by simp) _).alloc (by simp; omega) _
  have hbx : BoxT (w.heap.size + 1 + 1 + 1 + 1) s W ∧ SepT (w.heap.size + 1 + 1 + 1 + 1) W := by
    have k1 := World.cell?_alloc_new W4 #[.string s] 9 0
    have f1 := World.frozen?_alloc_new W4 #[.string s] 9 0
    have K := two_new W4 (.cells #[.string s] 9) (.string ⟨#[44]⟩) (.int .i64 0) 9 3
    rw [← hW, hz4] at K
    rw [hz4] at k1 f1
    have b1 : Below (W4.heap.size + 1) (W4.alloc (.cells #[.string s] 9)) W := by rw [hW]; exact ((Below.refl _ _).alloc (by simp) _).alloc (by simp) _
    exact ⟨⟨keep_cell k1 b1 (by omega), by rw [b1.frozen (p := ⟨w.heap.size + 1 + 1 + 1 + 1, 0, none⟩) (by show w.heap.size + 1 + 1 + 1 + 1 < _; omega)]; exact f1⟩, K.1, K.2.1⟩
  rw [← hW]
  have hR0 : RnS w (rnK s 0) (.slice none 0 0) W := ⟨hr4.keep hb4, Grows.nil _ _ _ _⟩
  clear hW hr4 hb4 hz4 W4
  have HB := Lib.hid hR0.box.below
  have HX := Lib.hid hbx
  have HR0 := Lib.hid hR0
  clear hbx hR0
  refine rangeS (c := w.heap.size + 1 + 1 + 1 + 1) (w0 := w) 5 133 _ (by rfl) rfl (enters_of Tryd.func133 (by kernel_rfl) rfl)
    (fun i => i = w.heap.size + 1 ∨ i = w.heap.size + 1 + 1 ∨ i = w.heap.size + 1 + 1 + 1 ∨ w.heap.size + 9 ≤ i)
    (fun pre X => ∃ v, (∀ j, j < pre.length → hxOk (ptK s j).data.toList = true) ∧ RnS w (rnK s pre.length) v X)
    (fun d _ X => d = .ret ∧ rnB s = false ∧ ∃ v, Rs4 w w.heap.size readN (.slice none 0 0) (.bool false) v X)
    (spm 44 s.data.toList) (fun X => BoxT (w.heap.size + 1 + 1 + 1 + 1) s X ∧ SepT (w.heap.size + 1 + 1 + 1 + 1) X)
    (fun n l S' J Jx hn0 T X hn hJ hX => split1_any w n l _ S' J Jx s T (by omega) X hn hJ hX.1 hX.2 (by omega))
    (fun X hb => ⟨⟨keep_cell HX.out.1.1 hb (by omega), by rw [hb.frozen (p := ⟨w.heap.size + 1 + 1 + 1 + 1, 0, none⟩) (by show w.heap.size + 1 + 1 + 1 + 1 < _; omega)]; exact HX.out.1.2⟩, keep_cell HX.out.2.1 hb (by omega), keep_cell HX.out.2.2 hb (by omega)⟩)
    HB.out (by omega) (by omega) (by omega) (by omega) (fun k h1 h2 => by omega) ?keep ?keepx ?low ⟨_, fun j hj => absurd hj (Nat.not_lt_zero _), HR0.out⟩ ?round ?done ?stop
  case keep =>
    rintro pre X X' ⟨v, h1, h2⟩ hb
    exact ⟨v, h1, h2.but hb fun i hi => by omega⟩
  case keepx =>
    rintro d q X X' ⟨h1, h2, v, h3⟩ hb
    exact ⟨h1, h2, v, h3.but hb (by omega) (by omega) (by omega) (by omega) (fun i hi => by omega)⟩
  case low =>
    rintro pre X ⟨v, -, h2⟩
    exact h2.box.below
  case round =>
    rintro pre C X hpre hI hzX
    refine ⟨_, fun K hK => by gi_wp2; exact hK, fun X2 hb2 hI2 hz2 => ?_⟩
    clear hI hzX hb2 X
    obtain ⟨v, hg, hS⟩ := hI2
    have HS := Lib.hid hS
    have HG := Lib.hid hg
    obtain ⟨hlt, hC⟩ := ptY_at hpre
    obtain ⟨k, hkk⟩ : ∃ k, k = pre.length := ⟨_, rfl⟩
    rw [← hkk] at HS HG hlt hC
    have HK1 : Hid ((pre ++ [C]).length = k + 1) := Lib.hid (by rw [List.length_append, ← hkk]; rfl)
    clear hS hg hkk hpre
    have hCs : bsOf C = ptK s k := by rw [hC]; exact bs_eq' _

    have RD := Lib.hid (fun W => readNumber_any (ptK s k) W)
    have hk256 : k < 256 := by have := HL.out; omega
    have HLB := Lib.hid (fun (h2 : hxOk (ptK s k).data.toList = false) => rn_bad HNN.out hlt h2)
    have HL1 := Lib.hid (rnK_succ s k)
    have hll : (rnK s k).length = k := rnK_len _ _
    have H6 := Lib.hid (fun w3 (b : Below X2.heap.size X2 w3) => (show w.heap.size + 9 ≤ w3.heap.size from by have := b.size; omega))
    rw [hCs]
    unfold SaysHx at RD
    have HT := Lib.hid (fun j (hj : j < k + 1) (hk : hxOk (ptK s k).data.toList = true) => (show hxOk (ptK s j).data.toList = true from by
      by_cases e : j = k
      · rw [e]; exact hk
      · exact HG.out j (by omega)))
    clear HG
    generalize ptK s k = y at *
    generalize hxR y.data.toList = z at *
    generalize hq : hxOk y.data.toList = q at *
    clear hC hCs hlt
    obtain ⟨i0, hi, hz0, hz1, hze⟩ := info_parts Tryd.infoRn
    have hm1 : (rnK s k).length + 1 ≤ maxLen := by unfold maxLen; omega
    have hm2 : ((rnK s k).length + 1) * 4 ≤ 140737488355328 := by omega
    have kc := HS.out.box.c1
    clear hll
    cases q with
    | false =>
      have HLL := Lib.hid (HLB.out rfl)
      clear HLB HT hm1 hm2 hi hz0 hz1 hze i0 hq
      gi_wp2_with (refine ⟨trivial, ?_⟩; gi_at_call 55; refine (CallsIn.inRound _ (callsIn_wide.2 (RD.out _))).mono ?_; rintro e w3 ⟨rfl, b3⟩; have B3 := Lib.hid b3; have S3 := Lib.hid (HS.out.keep b3); have k2 := S3.out.box.c2; have k3 := S3.out.box.c3; have k5 := S3.out.box.f2; have k6 := S3.out.box.f3; clear b3)
      exact ⟨((But.of_below B3.out).setCell (p := ⟨w.heap.size + 1, 0, none⟩) (Or.inl rfl) _).setCell (p := ⟨w.heap.size + 1 + 1, 0, none⟩) (Or.inr (Or.inl rfl)) _, rfl, HLL.out.1, v, S3.out.box.put23 (Nat.le_refl _) _ _⟩
    | true =>
      have HTT := Lib.hid (fun j hj => HT.out j hj rfl)
      clear HLB HT hq
      gi_wp2_with (first
        | (refine ⟨trivial, ?_⟩; gi_at_call 55; refine (CallsIn.inRound _ (callsIn_wide.2 (RD.out _))).mono ?_; rintro e w3 ⟨rfl, b3⟩; have B3 := Lib.hid b3; have S3 := Lib.hid (HS.out.keep b3); have k4 := S3.out.box.c4; have k7 := S3.out.box.f4; have h6 := H6.out _ b3; clear b3)
        | (gi_at_builtin; refine wpListIn_append_own _ rfl _ _ 28 rfl (w.heap.size + 9) 67 i0 (.float .f32 0) 1 4 Tryd.underlying28 hi hz0 hz1 hze rfl (by decide) _ _ _ rfl (Grows.alloc S3.out.row _) ⟨w3.heap.size, 0, none⟩ 1 1 [.float .f32 z] rfl rfl (cell_one_new _ _ _) (by simp [Value.oneCell']) hm1 hm2 (by simp; omega) ?_; intro v' w4 hown hgrow _; obtain ⟨g', cap', rfl⟩ := ownsRow_succ hown; have B4 := Lib.hid (((Below.refl (w.heap.size + 9) w3).alloc h6 _).grown hgrow (by simp; omega) (fun i hi => S3.out.row.block i hi)); have GN := Lib.hid (Grows.more (news := [z]) rfl hown); have R4 := Lib.hid (S3.out.box.low B4.out (by omega) (by omega)); have j4 := R4.out.c4; have j7 := R4.out.f4; clear k4 k7 hown hgrow))
      have BF : But (fun i => i < w.heap.size + 9) w4 (w4.setCell ⟨w.heap.size + 1 + 1 + 1, 0, none⟩ (.slice (some ⟨g', 0, none⟩) ((rnK s k).length + 1) cap')) :=
        (But.refl _ w4).setCell (p := ⟨w.heap.size + 1 + 1 + 1, 0, none⟩) (by show w.heap.size + 1 + 1 + 1 < _; omega) _
      have B34 : But (fun i => i = w.heap.size + 1 ∨ i = w.heap.size + 1 + 1 ∨ i = w.heap.size + 1 + 1 + 1 ∨ w.heap.size + 9 ≤ i) w3 w4 := ⟨B4.out.os, B4.out.tape, B4.out.output, B4.out.size, fun i _ hs => B4.out.block i (by omega)⟩
      refine ⟨((But.of_below B3.out).trans B34).setCell (p := ⟨w.heap.size + 1 + 1 + 1, 0, none⟩) (Or.inr (Or.inr (Or.inl rfl))) _, .slice (some ⟨g', 0, none⟩) ((rnK s k).length + 1) cap', fun j hj => ?_, ?_⟩
      · rw [HK1.out] at hj
        exact HTT.out j hj
      · rw [HK1.out, HL1.out]
        exact ⟨R4.out.put4 (Nat.le_refl _) _, GN.out.but BF fun i hi => hi⟩
  case done =>
    rintro X ⟨v, h1, h3⟩ hK
    have hlY : (spm 44 s.data.toList).length = (ptY 44 s).length := by rw [← ptY_spm, List.length_map]
    rw [hlY] at h1 h3
    have HF := Lib.hid (rn_good HNN.out HL.out h1)
    obtain ⟨va, vc, rfl⟩ := SI.len (d := (0 : Nat)) h3.row.si
    have H3 := Lib.hid h3
    have HKK := Lib.hid hK
    have c2 := h3.box.c2
    have c3 := h3.box.c3
    have c4 := h3.box.c4
    have f2 := h3.box.f2
    have f3 := h3.box.f3
    clear h1 h3 hK hlY
    obtain ⟨n, hn⟩ : ∃ n, n = (rnK s (ptY 44 s).length).length := ⟨_, rfl⟩
    rw [← hn] at c4
    have HNE := Lib.hid hn
    clear hn
    gi_wp2
    have hF : RnS2 w (rnK s (ptY 44 s).length) (.slice va n vc) (((X.setCell ⟨w.heap.size + 1, 0, none⟩ (.slice va n vc)).setCell ⟨w.heap.size + 1 + 1, 0, none⟩ (.bool true)).putObj W.heap.size (.deferred none)) :=
      RnS2.of (HNE.out ▸ H3.out) (by omega)
    refine ⟨by simp, .inl ⟨_, _, rfl, run_takeDeferred (ds := []) (((Below.heap_setCell _ _ _ _ (by show _ ≠ w.heap.size + 1 + 1; omega)).trans (Below.heap_setCell _ _ _ _ (by show _ ≠ w.heap.size + 1; omega))).trans HKK.out), ?_⟩⟩
    obtain ⟨q1, q2⟩ := And.intro hF.box.c2 hF.box.c3
    refine ⟨.tuple #[.slice va n vc, .bool true], by simp [results, Tryd.results54, go_sem, q1, q2], ?_⟩
    rw [HF.out.1, HF.out.2]
    exact ⟨_, rfl, SI.wide hF.row.si (by omega) (Nat.le_refl _) (Nat.le_refl _), hF.box.below⟩
  case stop =>
    rintro d q X - - ⟨rfl, h2, v, h3⟩ hK
    have HF := Lib.hid (And.intro h2 (rn_no HNN.out h2))
    have H3 := Lib.hid h3
    have HKK := Lib.hid hK
    have c2 := h3.c2
    have c3 := h3.c3
    clear h2 h3 hK
    gi_wp2
    have hF : Rs4 w w.heap.size readN (.slice none 0 0) (.bool false) v (X.putObj W.heap.size (.deferred none)) :=
      H3.out.but (But.putObj (S := fun k => k = W.heap.size) _ rfl) (by omega) (by omega) (by omega) (by omega) (fun i hi => by omega)
    refine ⟨by simp, .inl ⟨_, _, rfl, run_takeDeferred (ds := []) HKK.out, ?_⟩⟩
    obtain ⟨q1, q2⟩ := And.intro hF.c2 hF.c3
    refine ⟨.tuple #[.slice none 0 0, .bool false], by simp [results, Tryd.results54, go_sem, q1, q2], ?_⟩
    rw [HF.out.1, HF.out.2]
    exact ⟨_, rfl, SI.nil _ (Nat.le_refl _) _ _, hF.below⟩
-- the list that is read, and whether it is one
set_option maxRecDepth 100000 in
theorem implReadNumbers_any (s : ByteArray) (w : World) (hs : s.size ≤ 1048576) :
    Calls Tryd.prog 24 #[.string s] w (SaysNB (rnL s) (rnB s) w) := by
  have H : Calls Tryd.prog 54 #[.string s, .int .i64 256, readN] w (SaysNB (rnL s) (rnB s) w) := by
    by_cases h : s = noneS
    · rw [(rn_none h).1, (rn_none h).2, h]
      exact listOfN_none w
    · by_cases hl : (ptY 44 s).length ≤ 256
      · exact listOfN_main s w h hl hs
      · rw [(rn_long h (by omega)).1, (rn_long h (by omega)).2]
        exact listOfN_long s w h (by omega)
  have HH := Lib.hid H
  clear H
  go_enter Tryd.func24, Tryd.ntmps24
  go_wp2_with fail
  go_at_call 54; refine HH.out.mono ?_; rintro e w2 ⟨v, rfl, i2, b2⟩
  have I2 := Lib.hid i2
  have B2 := Lib.hid b2
  clear i2 b2
  go_wp2_with fail
  go_ret2
  exact ⟨_, rfl, I2.out, B2.out⟩
end Go.Proofs.YtcgdkjbbdpmmhaaDoor
