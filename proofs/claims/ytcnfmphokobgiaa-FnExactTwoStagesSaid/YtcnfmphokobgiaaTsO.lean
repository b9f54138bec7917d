/- Things on two machines: the program's order. -/
import Derived.Test.YtcnfmphokobgiaaTsC
import Derived.Test.YtcnfmphokobgiaaConI
import Derived.Deep.RegionHeld3
import Derived.Deep.RegionWith
import Derived.Outline
namespace Go.Proofs.Ytcnfmphokobgiaa
open Go.RowKit Go.ChangeShapes Go.WideShapes

theorem run_store_fn (P : Program) (w : World) (a : Addr) (m : Mode) (f : Fn) (r c : Array Value) : (store a (.func f r c) m).run P w = stored P w a (.func f r c) m := run_store P w a _ m rfl
attribute [local go_sem] run_store_fn
/-- What the boxes of the call hold, and the rest of what it asks. -/
structure StgAt (w : World) (v u : Value) (F S : List Int) (wr : World) : Prop where
  below : Below w.heap.size w wr
  c1 : wr.cell? ⟨w.heap.size, 0, none⟩ = some v
  c2 : wr.cell? ⟨w.heap.size + 1, 0, none⟩ = some u
  c3 : wr.cell? ⟨w.heap.size + 1 + 1, 0, none⟩ = some (earF w.heap.size (w.heap.size + 1))
theorem StgAt.keep {w wr w' : World} {v u : Value} {F S : List Int} (h : StgAt w v u F S wr) (hb : Below wr.heap.size wr w') : StgAt w v u F S w' :=
  ⟨h.below.trans (hb.mono h.below.size), by rw [hb.cell (p := ⟨w.heap.size, 0, none⟩) (cell_block h.c1)]; exact h.c1,
    by rw [hb.cell (p := ⟨w.heap.size + 1, 0, none⟩) (cell_block h.c2)]; exact h.c2, by rw [hb.cell (p := ⟨w.heap.size + 1 + 1, 0, none⟩) (cell_block h.c3)]; exact h.c3⟩
theorem turned_old {B : Nat} {w w' : World} (h : Turned B (B + 1) w w') {c o : Nat} {x : Value} (hc : w.cell? ⟨c, o, none⟩ = some x) (hne : c ≠ B) : w'.cell? ⟨c, o, none⟩ = some x := by
  rw [World.cell?_of_block (w := w) (a := ⟨c, o, none⟩) (h.block c (cell_block hc) (by omega))]; exact hc
/-- The predicates, whatever the row holds meanwhile. -/
theorem early_pred {w wr : World} {v u : Value} {F S : List Int} {blk : Nat} (h : StgAt w v u F S wr) (hv : IL w v F) (hu : IL w u S) (hl : S.length = F.length) (hn : F.length ≤ 1048576) (hB : w.heap.size + 1 + 1 < blk) (hG : blk < wr.heap.size) :
    PredOf 117 #[.pointer (some ⟨w.heap.size, 0, none⟩), .pointer (some ⟨w.heap.size + 1, 0, none⟩)] (earB F S) F.length blk wr := fun W t x hx => by
  have hb : Below w.heap.size w W := h.below.trans ((t.below (Nat.le_of_lt hG)).mono (by omega))
  exact early_any v u F S _ _ x W (VL.below hv hb (Nat.le_refl _)) (VL.below hu hb (Nat.le_refl _)) hl hn hx (turned_old t h.c1 (by omega)) (turned_old t h.c2 (by omega))
theorem late_pred {w wr : World} {v u : Value} {F S : List Int} {blk : Nat} (h : StgAt w v u F S wr) (hv : IL w v F) (hu : IL w u S) (hl : S.length = F.length) (hn : F.length ≤ 1048576) (hB : w.heap.size + 1 + 1 < blk) (hG : blk < wr.heap.size) :
    PredOf 118 #[.pointer (some ⟨w.heap.size + 1 + 1, 0, none⟩)] (fun x => !earB F S x) F.length blk wr := fun W t x hx => by
  have hb : Below w.heap.size w W := h.below.trans ((t.below (Nat.le_of_lt hG)).mono (by omega))
  exact late_any v u F S _ _ _ x W (VL.below hv hb (Nat.le_refl _)) (VL.below hu hb (Nat.le_refl _)) hl hn hx (turned_old t h.c1 (by omega)) (turned_old t h.c2 (by omega)) (turned_old t h.c3 (by omega))
theorem StgAt.turn {w wr w' : World} {v u : Value} {F S : List Int} {b : Nat} (h : StgAt w v u F S wr) (t : Turned b (b + 1) wr w') (hB : w.heap.size + 1 + 1 < b) (hG : b < wr.heap.size) : StgAt w v u F S w' :=
  ⟨h.below.trans ((t.below (Nat.le_of_lt hG)).mono (by omega)), turned_old t h.c1 (by omega), turned_old t h.c2 (by omega), turned_old t h.c3 (by omega)⟩
theorem StgAt.drewN {w wr : World} {v u : Value} {F S : List Int} (h : StgAt w v u F S wr) (n : Nat) : StgAt w v u F S (wr.drewN n) := ⟨below_drewN h.below n, h.c1, h.c2, h.c3⟩
theorem StgAt.big {w wr : World} {v u : Value} {F S : List Int} (h : StgAt w v u F S wr) : w.heap.size + 1 + 1 < wr.heap.size := cell_block h.c3
theorem integerIn_at (ao : Option Addr) (n cap : Nat) (w : World) :
    Calls Try.prog 120 #[.slice ao n cap] w (fun e w' => ∃ c, e = .returned (inF c) ∧ w'.cell? ⟨c, 0, none⟩ = some (.slice ao n cap) ∧ Below w.heap.size w w') :=
  (integerIn_any ao n cap w).mono fun _ _ ⟨h1, h2⟩ => by subst h2; exact ⟨_, h1, World.cell?_alloc_new _ _ _ _, below_alloc _ _⟩
theorem ascending_at (c : Nat) (w : World) :
    Calls Try.prog 54 #[inF c] w (fun e w' => ∃ d, e = .returned (.func (.func 108) #[] #[.pointer (some ⟨d, 0, none⟩)]) ∧ w'.cell? ⟨d, 0, none⟩ = some (inF c) ∧ Below w.heap.size w w') :=
  (ascending_any _ _ _ w).mono fun _ _ ⟨h1, h2⟩ => by subst h2; exact ⟨_, h1, World.cell?_alloc_new _ _ _ _, below_alloc _ _⟩
theorem descending_at (c : Nat) (w : World) :
    Calls Try.prog 64 #[inF c] w (fun e w' => ∃ d, e = .returned (.func (.func 114) #[] #[.pointer (some ⟨d, 0, none⟩)]) ∧ w'.cell? ⟨d, 0, none⟩ = some (inF c) ∧ Below w.heap.size w w') :=
  (descending_any _ _ _ w).mono fun _ _ ⟨h1, h2⟩ => by subst h2; exact ⟨_, h1, World.cell?_alloc_new _ _ _ _, below_alloc _ _⟩
/-- A row of the call's own. -/
def RowOf (lo : Nat) (x : Value) (L : List Nat) (w : World) : Prop := ∃ b off cap, x = .slice (some ⟨b, off, none⟩) L.length cap ∧ lo ≤ b ∧ b < w.heap.size ∧ L.length ≤ cap ∧ Arr (Value.int .i64) 0 w b off (intsN L)
theorem RowOf.keep {lo : Nat} {x : Value} {L : List Nat} {w w' : World} (h : RowOf lo x L w) (hb : Below w.heap.size w w') : RowOf lo x L w' := by
  obtain ⟨b, off, cap, e, h1, h2, h3, h4⟩ := h
  exact ⟨b, off, cap, e, h1, Nat.lt_of_lt_of_le h2 hb.size, h3, h4.below hb h2⟩
theorem RowOf.made {lo : Nat} {x : Value} {L : List Nat} {w : World} (h : II lo w.heap.size w x (intsN L)) (h0 : 0 < L.length) : RowOf lo x L w := by
  obtain ⟨_, hz | ⟨b, off, cap, rfl, hp, hl, hh, hf, hc⟩⟩ := h
  · have := congrArg List.length hz.1
    rw [intsN_len, List.length_nil] at this
    omega
  · exact ⟨b, off, _, by rw [intsN_len], hl, hh, by omega, ⟨hc, hf⟩⟩
theorem RowOf.lies {lo : Nat} {x : Value} {L : List Nat} {w : World} (h : RowOf lo x L w) : ∃ ad cap, x = .slice (some ad) (intsN L).length cap ∧ LiesC w ad (intsN L) := by
  obtain ⟨b, off, cap, rfl, _, h2, _, h4⟩ := h
  refine ⟨⟨b, off, none⟩, cap, by rw [intsN_len], fun w' hb j u hu => ?_⟩
  have hj : j < (intsN L).length := by
    have := (List.getElem?_eq_some_iff.1 hu).1
    simpa using this
  rw [Go.WideShapes.add_plain, hb.cell (p := ⟨b, off + j, none⟩) h2, h4.cells j hj]
  rw [← hu]
  simp [List.getD, hj]
/-- DeleteFunc of such a row. -/
theorem del_at {w wr : World} {v u x : Value} {F S : List Int} {lo g : Nat} {cb : Array Value} {p : Nat → Bool} {Y : List Nat} (h : StgAt w v u F S wr) (hr : RowOf lo x Y wr) (hlo : w.heap.size + 1 + 1 < lo) (n1 : 1 ≤ F.length) (hY : ∀ y ∈ Y, y < F.length) (hs : Y.length ≤ 1048576)
    (eg : ∀ args w, (callFunc g args).run Try.prog w = .ok (.enter g args) w) (hp : ∀ b, w.heap.size + 1 + 1 < b → b < wr.heap.size → PredOf g cb p F.length b wr) :
    Calls Try.prog 119 #[x, .func (.func g) #[] cb] wr (fun e w' => ∃ y, e = .returned y ∧ RowOf lo y (Y.filter fun z => !p z) w' ∧ StgAt w v u F S w' ∧ ∃ b, lo ≤ b ∧ Turned b (b + 1) wr w') := by
  obtain ⟨b, off, cap, rfl, h1, h2, h3, h4⟩ := hr
  refine (delN_any F.length n1 g cb p b off cap Y wr hY hs h3 eg (hp b (by omega) h2) h4 h2).mono ?_
  rintro e w' ⟨rfl, t, a⟩
  exact ⟨_, rfl, ⟨b, off, cap, rfl, h1, Nat.lt_of_lt_of_le h2 t.size, Nat.le_trans (List.length_filter_le _ _) h3, a⟩, h.turn t (by omega) h2, b, h1, t⟩
theorem RowOf.turn {lo lo' b : Nat} {x : Value} {L : List Nat} {w w' : World} (h : RowOf lo x L w) (t : Turned b (b + 1) w w') (hb : lo' ≤ b) (hx : ∀ ad n c, x = .slice (some ad) n c → ad.block < lo') : RowOf lo x L w' := by
  obtain ⟨b0, off, cap, rfl, h1, h2, h3, h4⟩ := h
  have hne := hx _ _ _ rfl
  refine ⟨b0, off, cap, rfl, h1, Nat.lt_of_lt_of_le h2 t.size, h3, ⟨fun i hi => ?_, fun i => ?_⟩⟩
  · exact turned_old t (h4.cells i hi) (by simp at hne; omega)
  · have hbk := t.block b0 h2 (by simp at hne; omega)
    rw [World.frozen?_of_block (w := w) (a := ⟨b0, i, none⟩) hbk]
    exact h4.free i
theorem order_of_second {F S : List Int} {g : Nat} {cb : Array Value} {w : World} (n1 : 1 ≤ F.length) (n2 : F.length ≤ 12) (hl : S.length = F.length) (eg : ∀ args w, (callFunc g args).run Try.prog w = .ok (.enter g args) w)
    (hd : ltC (fun x y => cmpI (S.getD y 0) (S.getD x 0)) = ltK fun i => - S.getD i 0) (h : CmpOf g cb (fun x y => cmpI (S.getD y 0) (S.getD x 0)) S.length w) :
    Calls Try.prog 53 #[.int .i64 F.length, .func (.func g) #[] cb] w (Made (Value.int .i64) (0 : Int) (intsN (ordN (ltK fun i => - S.getD i 0) F.length)) w) := by
  rw [hl] at h
  have := orderBy_any F.length g cb (fun x y => cmpI (S.getD y 0) (S.getD x 0)) w n1 (by omega) eg h
  rw [hd] at this
  exact this
theorem ordN_all {K : Nat → Int} {n : Nat} : ∀ y ∈ ordN (ltK K) n, y < n := fun _ h => ordN_mem.1 h
set_option maxRecDepth 100000 in
set_option maxHeartbeats 8000000 in
theorem stageOrder_any (v u : Value) (F S : List Int) (w : World) (hv : IL w v F) (hu : IL w u S) (ok : StgOk F S) :
    Calls Try.prog 69 #[v, u] w (Made (Value.int .i64) (0 : Int) (intsN (tsO F S)) w) := by
  have HV := Lib.hid hv
  have HU := Lib.hid hu
  obtain ⟨a1, k1, rfl⟩ := hv.long
  obtain ⟨a2, k2, rfl⟩ := hu.long
  have n1 := ok.n1
  have n2 := ok.n2
  have HL := Lib.hid ok.l
  have HJ := Lib.hid (ts_join ok)
  have HA : Hid (ltC (fun x y => cmpI (F.getD x 0) (F.getD y 0)) = ltK fun i => F.getD i 0) := Lib.hid (ltC_asc fun i => F.getD i 0)
  have HD : Hid (ltC (fun x y => cmpI (S.getD y 0) (S.getD x 0)) = ltK fun i => - S.getD i 0) := Lib.hid (ltC_desc fun i => S.getD i 0)
  have EA := Lib.hid (enters_of Try.func108 (by kernel_rfl) rfl)
  have ED := Lib.hid (enters_of Try.func114 (by kernel_rfl) rfl)
  have EE := Lib.hid (enters_of Try.func117 (by kernel_rfl) rfl)
  have EL := Lib.hid (enters_of Try.func118 (by kernel_rfl) rfl)
  have AT0 : Hid (StgAt w (.slice a1 F.length k1) (.slice a2 S.length k2) F S (((w.alloc (.cells #[.slice a1 F.length k1] 24)).alloc (.cells #[.slice a2 S.length k2] 24)).alloc (.cells #[.func (.func 117) #[] #[.pointer (some ⟨w.heap.size, 0, none⟩), .pointer (some ⟨w.heap.size + 1, 0, none⟩)]] 120))) := Lib.hid (by
    have s1 : (w.alloc (.cells #[.slice a1 F.length k1] 24)).heap.size = w.heap.size + 1 := by simp
    have s2 : ((w.alloc (.cells #[.slice a1 F.length k1] 24)).alloc (.cells #[.slice a2 S.length k2] 24)).heap.size = w.heap.size + 1 + 1 := by simp
    have x1 := World.cell?_alloc_new w #[.slice a1 F.length k1] 24 0
    have x2 := World.cell?_alloc_new (w.alloc (.cells #[.slice a1 F.length k1] 24)) #[.slice a2 S.length k2] 24 0
    have x3 := World.cell?_alloc_new ((w.alloc (.cells #[.slice a1 F.length k1] 24)).alloc (.cells #[.slice a2 S.length k2] 24)) #[.func (.func 117) #[] #[.pointer (some ⟨w.heap.size, 0, none⟩), .pointer (some ⟨w.heap.size + 1, 0, none⟩)]] 120 0
    rw [s1] at x2
    rw [s2] at x3
    have e1 := (below_alloc (w.alloc (.cells #[.slice a1 F.length k1] 24)) (.cells #[.slice a2 S.length k2] 24))
    have e2 := (below_alloc ((w.alloc (.cells #[.slice a1 F.length k1] 24)).alloc (.cells #[.slice a2 S.length k2] 24)) (.cells #[.func (.func 117) #[] #[.pointer (some ⟨w.heap.size, 0, none⟩), .pointer (some ⟨w.heap.size + 1, 0, none⟩)]] 120))
    refine ⟨((below_alloc w _).trans (e1.mono (by omega))).trans (e2.mono (by omega)), ?_, ?_, x3⟩
    · rw [e2.cell (p := ⟨w.heap.size, 0, none⟩) (by show w.heap.size < _; omega), e1.cell (p := ⟨w.heap.size, 0, none⟩) (by show w.heap.size < _; omega)]; exact x1
    · rw [e2.cell (p := ⟨w.heap.size + 1, 0, none⟩) (by show w.heap.size + 1 < _; omega)]; exact x2)
  clear hv hu ok
  go_enter Try.func69, Try.ntmps69
  go_wp2_with fail
  obtain ⟨w3, hw3⟩ : ∃ x, x = (((w.alloc (.cells #[.slice a1 F.length k1] 24)).alloc (.cells #[.slice a2 S.length k2] 24)).alloc (.cells #[.func (.func 117) #[] #[.pointer (some ⟨w.heap.size, 0, none⟩), .pointer (some ⟨w.heap.size + 1, 0, none⟩)]] 120)) := ⟨_, rfl⟩
  rw [← hw3] at AT0 ⊢
  clear hw3
  have big3 := AT0.out.big
  have d0 := AT0.out.c1
  go_region_held3 (fun w' => w'.cell? ⟨w.heap.size, 0, none⟩ = some (.slice a1 F.length k1)) (first | exact d0 | exact d4 | exact d5 | exact d6 | exact d7) (first
    | (go_at_call 120; refine (integerIn_at _ _ _ _).mono ?_; rintro e w4 ⟨c, rfl, hc, b⟩; have A4 := Lib.hid ((AT0.out.drewN 1).keep b); have C4 := Lib.hid hc; have d4 := A4.out.c1; clear b hc)
    | (go_at_call 54; refine (ascending_at c _).mono ?_; rintro e w5 ⟨d, rfl, hd, b⟩; have A5 := Lib.hid (A4.out.keep b); have C5 := Lib.hid (show w5.cell? ⟨c, 0, none⟩ = some (.slice a1 F.length k1) by rw [b.cell (p := ⟨c, 0, none⟩) (cell_block C4.out)]; exact C4.out); have D5 := Lib.hid hd; have d5 := A5.out.c1; clear b hd)
    | (go_at_call 53; refine (orderBy_any F.length 108 _ (fun x y => cmpI (F.getD x 0) (F.getD y 0)) _ n1 (by omega) EA.out (asc_of _ F c d _ (VL.below HV.out A5.out.below (Nat.le_refl _)) (by omega) C5.out D5.out)).mono ?_; rintro e w6 ⟨o, rfl, io, b⟩; rw [HA.out] at io; have A6 := Lib.hid (A5.out.keep b); have R6 := Lib.hid (RowOf.made io (by rw [ordN_len]; omega)); have L6 := Lib.hid A5.out.big; have d6 := A6.out.c1; clear b io)
    | (go_at_call 119; refine (del_at (p := fun x => !earB F S x) A6.out R6.out L6.out n1 ordN_all (by rw [ordN_len]; omega) EL.out (fun bb h1 h2 => late_pred A6.out HV.out HU.out HL.out (by omega) h1 h2)).mono ?_; rintro e w7 ⟨y, rfl, ry, A7, b7, hb7, t7⟩; have R7 := Lib.hid ry; have A7 := Lib.hid A7; have d7 := A7.out.c1; have H7 : Hid (∀ ad n c, y = .slice (some ad) n c → ad.block < w7.heap.size) := Lib.hid (by obtain ⟨_, _, _, rfl, _, hq, _⟩ := ry; intro ad n c he; cases he; exact hq); clear ry t7 hb7))
  rename_i K7
  go_wp2_with fail
  clear d0 d4 d5 d6 d7 C4 C5 D5 R6 L6 A4 A5 A6 AT0
  have q0 : _ ∧ _ ∧ _ := ⟨A7.out.c1, A7.out.c2, A7.out.c3⟩
  have LO7 : Hid (w.heap.size + 1 + 1 < w7.heap.size) := Lib.hid A7.out.big
  go_region_held3 (fun w' => w'.cell? ⟨w.heap.size, 0, none⟩ = some (.slice a1 F.length k1) ∧ w'.cell? ⟨w.heap.size + 1, 0, none⟩ = some (.slice a2 S.length k2) ∧ w'.cell? ⟨w.heap.size + 1 + 1, 0, none⟩ = some (.func (.func 117) #[] #[.pointer (some ⟨w.heap.size, 0, none⟩), .pointer (some ⟨w.heap.size + 1, 0, none⟩)])) (first | exact q0 | exact q8 | exact q9 | exact q10 | exact q11) (first
    | (go_at_call 120; refine (integerIn_at _ _ _ _).mono ?_; rintro e w8 ⟨c', rfl, hc, b⟩; have A8 := Lib.hid ((A7.out.drewN 1).keep b); have R8 := Lib.hid (R7.out.keep ((below_drewN (Below.refl w7.heap.size w7) 1).trans b)); have Z8 := Lib.hid (((below_drewN (Below.refl w7.heap.size w7) 1).trans b)); have C8 := Lib.hid hc; have q8 : _ ∧ _ ∧ _ := ⟨A8.out.c1, A8.out.c2, A8.out.c3⟩; clear b hc)
    | (go_at_call 64; refine (descending_at c' _).mono ?_; rintro e w9 ⟨d', rfl, hd, b⟩; have A9 := Lib.hid (A8.out.keep b); have R9 := Lib.hid (R8.out.keep b); have Z9 := Lib.hid (Z8.out.trans (b.mono Z8.out.size)); have C9 := Lib.hid (show w9.cell? ⟨c', 0, none⟩ = some (.slice a2 S.length k2) by rw [b.cell (p := ⟨c', 0, none⟩) (cell_block C8.out)]; exact C8.out); have D9 := Lib.hid hd; have q9 : _ ∧ _ ∧ _ := ⟨A9.out.c1, A9.out.c2, A9.out.c3⟩; clear b hd)
    | (go_at_call 53; refine (order_of_second n1 n2 HL.out ED.out HD.out (dsc_of _ S c' d' _ (VL.below HU.out A9.out.below (Nat.le_refl _)) (by rw [HL.out]; omega) C9.out D9.out)).mono ?_; rintro e w10 ⟨o', rfl, io, b⟩; have A10 := Lib.hid (A9.out.keep b); have R10 := Lib.hid (R9.out.keep b); have Z10 := Lib.hid (Z9.out.trans (b.mono Z9.out.size)); have Q10 := Lib.hid (RowOf.made (SI.wide io (lo' := w7.heap.size) Z9.out.size (Nat.le_refl _) (Nat.le_refl _)) (by rw [ordN_len]; omega)); have q10 : _ ∧ _ ∧ _ := ⟨A10.out.c1, A10.out.c2, A10.out.c3⟩; clear b io)
    | (go_at_call 119; refine (del_at (p := earB F S) A10.out Q10.out LO7.out n1 ordN_all (by rw [ordN_len]; omega) EE.out (fun bb h1 h2 => early_pred A10.out HV.out HU.out HL.out (by omega) h1 h2)).mono ?_; rintro e w11 ⟨y', rfl, ry, A11, b11, hb11, t11⟩; have Q11 := Lib.hid ry; have A11 := Lib.hid A11; have R11 := Lib.hid (R10.out.turn t11 hb11 H7.out); have q11 : _ ∧ _ ∧ _ := ⟨A11.out.c1, A11.out.c2, A11.out.c3⟩; clear ry t11 hb11))
  have BW := Lib.hid A11.out.below
  have hE : (fun z => !!earB F S z) = earB F S := by funext z; simp
  have r1 := R11.out
  rw [hE] at r1
  have r2 := Q11.out
  have hlen : ((ordN (ltK fun i => F.getD i 0) F.length).filter (earB F S)).length + ((ordN (ltK fun i => - S.getD i 0) F.length).filter (fun x => !earB F S x)).length = F.length := by
    rw [← List.length_append, HJ.out, tsO_len]
  have hcat : intsN ((ordN (ltK fun i => F.getD i 0) F.length).filter (earB F S)) ++ intsN ((ordN (ltK fun i => - S.getD i 0) F.length).filter (fun x => !earB F S x)) = intsN (tsO F S) := by
    rw [← HJ.out]; unfold intsN; rw [List.map_append]
  generalize (ordN (ltK fun i => F.getD i 0) F.length).filter (earB F S) = E1 at r1 hlen hcat
  generalize (ordN (ltK fun i => - S.getD i 0) F.length).filter (fun x => !earB F S x) = E2 at r2 hlen hcat
  obtain ⟨ad1, cp1, rfl, l1⟩ := r1.lies
  obtain ⟨ad2, cp2, rfl, l2⟩ := r2.lies
  have HX := Lib.hid (Box2.mk' w11 (.slice (some ad1) (intsN E1).length cp1) (.slice (some ad2) (intsN E2).length cp2) 24)
  have L1 : Hid (LiesC (w11.alloc (.cells #[.slice (some ad1) (intsN E1).length cp1, .slice (some ad2) (intsN E2).length cp2] 24)) ad1 (intsN E1)) := Lib.hid fun w' hb => l1 w' ((below_alloc w11 _).trans (hb.mono (below_alloc w11 _).size))
  have L2 : Hid (LiesC (w11.alloc (.cells #[.slice (some ad1) (intsN E1).length cp1, .slice (some ad2) (intsN E2).length cp2] 24)) ad2 (intsN E2)) := Lib.hid fun w' hb => l2 w' ((below_alloc w11 _).trans (hb.mono (below_alloc w11 _).size))
  have z1 : (intsN E1).length = E1.length := intsN_len _
  have z2 : (intsN E2).length = E2.length := intsN_len _
  have HC := Lib.hid hcat
  have b1 : (intsN E1).length ≤ 524288 := by omega
  have b2 : (intsN E2).length ≤ 524288 := by omega
  have b3 : 0 < (intsN E1).length + (intsN E2).length := by omega
  have BA := Lib.hid (BW.out.trans ((below_alloc w11 (.cells #[.slice (some ad1) (intsN E1).length cp1, .slice (some ad2) (intsN E2).length cp2] 24)).mono BW.out.size))
  clear q0 q8 q9 q10 q11 A8 A9 A10 A11 C8 C9 D9 R8 R9 R10 R11 Z8 Z9 Z10 Q10 Q11 R7 A7 H7 LO7 hE r1 r2 hlen hcat l1 l2 z1 z2
  generalize intsN E1 = Y1 at *
  generalize intsN E2 = Y2 at *
  go_wp2_with fail
  go_at_call 88; refine (concatI_any w11.heap.size ad1 ad2 cp1 cp2 Y1 Y2 _ HX.out L1.out L2.out b1 b2 b3).mono ?_; rintro e w12 ⟨z, rfl, iz, b12⟩
  have IZ := Lib.hid (SI.wide iz (lo' := w.heap.size) BA.out.size (Nat.le_refl _) (Nat.le_refl _))
  have BZ := Lib.hid (BA.out.trans (b12.mono BA.out.size))
  clear iz b12
  go_wp2_with fail
  refine bodyPost_ret (results_tmp rfl _ _ _) rfl ?_
  exact ⟨_, rfl, by rw [← HC.out]; exact IZ.out, BZ.out⟩
end Go.Proofs.Ytcnfmphokobgiaa
