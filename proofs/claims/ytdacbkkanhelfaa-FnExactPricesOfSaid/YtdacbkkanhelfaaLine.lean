/- Rows of a table, and its numbers, on both sides. -/
import Derived.Test.YtdacbkkanhelfaaVt4
namespace Go.Proofs.Ytdacbkkanhelfaa
open Go.RowKit Go.ChangeShapes Go.WideShapes

/-- How many numbers a row has, as a natural number. -/
def Tb.wn (T : Tb) : Nat := T.vars.toNat + T.S.length + 1
theorem Tb.wide_wn {T : Tb} (h : 1 ≤ T.vars) : T.wide = (T.wn : Int) := by unfold Tb.wide Tb.wn; omega
/-- What valid tables are. -/
structure OkT (T : Tb) : Prop where
  v1 : 1 ≤ T.vars
  v2 : T.vars ≤ 8
  b1 : 1 ≤ T.S.length
  b2 : T.S.length ≤ 8
  n : T.N.length = (T.S.length + 1) * T.wn
  fn : finAll T.N = true
  bas : basB T = true
theorem okT_ok {T : Tb} (h : okT T = true) : OkT T := by
  unfold okT at h
  simp only [Bool.and_eq_true, decide_eq_true_eq] at h
  obtain ⟨⟨a, b⟩, ⟨c, d⟩, e, f, g⟩ := h
  refine ⟨a, b, by omega, by omega, ?_, f, g⟩
  rw [Tb.wide_wn a] at e
  exact_mod_cast e
theorem OkT.wn {T : Tb} (h : OkT T) : T.wide = (T.wn : Int) := Tb.wide_wn h.v1
theorem OkT.w3 {T : Tb} (h : OkT T) : 3 ≤ T.wn := by have := h.v1; have := h.b1; unfold Tb.wn; omega
theorem OkT.w17 {T : Tb} (h : OkT T) : T.wn ≤ 17 := by have := h.v2; have := h.b2; unfold Tb.wn; omega
theorem OkT.hn {T : Tb} (h : OkT T) : T.N.length ≤ 153 := by
  rw [h.n]
  have h1 := h.b2
  have h2 := h.w17
  calc (T.S.length + 1) * T.wn ≤ 9 * 17 := Nat.mul_le_mul (by omega) h2
    _ = 153 := rfl
theorem OkT.at {T : Tb} (h : OkT T) {i k : Nat} (hi : i ≤ T.S.length) (hk : k < T.wn) : i * T.wn + k < T.N.length := by
  rw [h.n]
  have : i * T.wn ≤ T.S.length * T.wn := Nat.mul_le_mul_right _ hi
  have : (T.S.length + 1) * T.wn = T.S.length * T.wn + T.wn := by rw [Nat.add_mul, Nat.one_mul]
  omega

/-- A row of a list of rows. -/
def lineL (Z : List Nat) (W r : Nat) : List Nat := (Z.drop (r * W)).take W
theorem lineL_len {Z : List Nat} {W r : Nat} (h : r * W + W ≤ Z.length) : (lineL Z W r).length = W := by unfold lineL; rw [List.length_take, List.length_drop]; omega
theorem lineL_at {Z : List Nat} {W r i : Nat} (hi : i < W) : (lineL Z W r).getD i 0 = Z.getD (r * W + i) 0 := by
  unfold lineL
  simp [List.getD, hi, List.getElem?_drop]

/-- A call that answers a list that lies where it lay. -/
def Lists (Z : List Nat) (w : World) (e : Ending) (w' : World) : Prop := ∃ v, e = .returned v ∧ SL w' v Z ∧ Below w.heap.size w w'

set_option maxHeartbeats 1000000 in
theorem lineAt_any (v : Value) (Z : List Nat) (W r : Nat) (w : World) (hv : SL w v Z) (hW : 1 ≤ W) (h : r * W + W ≤ Z.length) (hn : Z.length ≤ 1048576) :
    Calls Try.prog 81 #[v, .int .i64 W, .int .i64 r] w (Lists (lineL Z W r) w) := by
  rcases hv with ⟨rfl, ao, cap, rfl⟩ | ⟨b, off, cap, rfl, hpos, hbl, hcell⟩
  · simp at h; omega
  have hr : r ≤ r * W := Nat.le_mul_of_pos_right _ hW
  have hw1 : IntKind.i64.wrap ((r : Int) * (W : Int)) = ((r * W : Nat) : Int) := by rw [← Int.natCast_mul]; exact IntWalk.i64_in _ (by omega)
  have hw2 : IntKind.i64.wrap (((r : Int) + 1) * (W : Int)) = ((r * W + W : Nat) : Int) := by
    have e : ((r : Int) + 1) * (W : Int) = ((r * W + W : Nat) : Int) := by rw [Int.add_mul, Int.one_mul]; simp
    rw [e]; exact IntWalk.i64_in _ (by omega)
  have b1 : (0 : Int) ≤ ((r * W : Nat) : Int) := by omega
  have b2 : ((r * W : Nat) : Int) ≤ ((r * W + W : Nat) : Int) := by omega
  have b3 : ((r * W + W : Nat) : Int) ≤ ((Z.length + cap : Nat) : Int) := by omega
  have HL := Lib.hid (lineL_len (Z := Z) h)
  have HC := Lib.hid hcell
  clear hcell
  go_enter Try.func81, Try.ntmps81
  go_wp2_with fail
  go_ret
  refine ⟨_, rfl, Or.inr ⟨b, off + r * W, 0, ?_, by rw [HL.out]; exact hW, hbl, fun i hi => ?_⟩, Below.refl _ _⟩
  · rw [HL.out, Nat.add_sub_cancel_left]; rfl
  · rw [HL.out] at hi
    rw [lineL_at hi, Nat.add_assoc]
    exact HC.out _ (by omega)

theorem widthOf_ok (v : Value) (T : Tb) (w : World) (hv : TV w v T) (hT : OkT T) :
    Calls Try.prog 74 #[v] w (SaysI (T.wn : Nat) w) := by
  have h := widthOf_any v T w hv hT.v1 hT.v2 (by have := hT.b2; omega)
  rw [hT.wn] at h
  exact h
set_option maxHeartbeats 1000000 in
theorem tableLine_any (v : Value) (T : Tb) (r : Nat) (w : World) (hv : TV w v T) (hT : OkT T) (hr : r ≤ T.S.length) :
    Calls Try.prog 80 #[v, .int .i64 r] w (Lists (lineL T.N T.wn r) w) := by
  have HB := Lib.hid (below_alloc w)
  have HV := Lib.hid hv
  have HT := Lib.hid hT
  obtain ⟨s1, s2, rfl, g1, g2⟩ := hv
  have G1 := Lib.hid g1
  have X0 := Lib.hid (Box3.mk' w (.int .i64 T.vars) s1 s2 51)
  clear g1 g2 hT
  go_enter Try.func80, Try.ntmps80
  go_wp2_with fail
  obtain ⟨c0, c1, c2⟩ := X0.out
  go_region_with (first
    | (go_at_call 74; refine (widthOf_ok _ T _ (HV.out.below (show Below w.heap.size w (World.drew (w.alloc _)) from below_drewN (HB.out _) 1) (Nat.le_refl _)) HT.out).mono ?_; rintro e w1 ⟨rfl, b⟩; have bz := (below_drewN (Below.refl _ (w.alloc (.cells #[.int .i64 T.vars, s1, s2] 51))) 1).trans b; have H1 := Lib.hid ((HB.out _).trans (bz.mono (by simp))); have X1 := Lib.hid (X0.out.keep bz X0.out.lt); clear b bz; obtain ⟨d0, d1, d2⟩ := X1.out)
    | (go_at_call 81; refine (lineAt_any _ T.N T.wn r _ (G1.out.below H1.out (Nat.le_refl _)) (by have := HT.out.w3; omega) (by have := HT.out.at hr (Nat.sub_lt (by have := HT.out.w3; omega : 0 < T.wn) Nat.one_pos); have := HT.out.w3; omega) (by have := HT.out.hn; omega)).mono ?_; rintro e w2 ⟨u, rfl, hu, b⟩; have H2 := Lib.hid (H1.out.trans (b.mono H1.out.size)); have HU := Lib.hid hu; clear hu b))
  all_goals
    go_wp2_with fail
    go_ret
    exact ⟨_, rfl, HU.out, H2.out⟩
theorem gainLine_any (v : Value) (T : Tb) (w : World) (hv : TV w v T) (hT : OkT T) :
    Calls Try.prog 83 #[v] w (Lists (lineL T.N T.wn T.S.length) w) := by
  have HB := Lib.hid (below_alloc w)
  have HV := Lib.hid hv
  have HT := Lib.hid hT
  obtain ⟨s1, s2, rfl, g1, g2⟩ := hv
  obtain ⟨ao, cap, rfl⟩ := g2.long
  clear g1 g2 hT
  go_enter Try.func83, Try.ntmps83
  go_wp2_with fail
  go_at_call 80; refine (tableLine_any _ T T.S.length _ (HV.out.below (HB.out _) (Nat.le_refl _)) HT.out (Nat.le_refl _)).mono ?_; rintro e w1 ⟨u, rfl, hu, b⟩
  have H1 := Lib.hid ((HB.out _).trans (b.mono (by simp)))
  have HU := Lib.hid hu
  clear hu b
  go_wp2_with fail
  go_ret
  exact ⟨_, rfl, HU.out, H1.out⟩
theorem lastOf_ok (v : Value) (T : Tb) (w : World) (hv : TV w v T) (hT : OkT T) :
    Calls Try.prog 82 #[v] w (SaysI (T.wn - 1 : Nat) w) := by
  have h := lastOf_any v T w hv hT.v1 hT.v2 (by have := hT.b2; omega)
  have e : T.wide - 1 = ((T.wn - 1 : Nat) : Int) := by have := hT.wn; have := hT.w3; omega
  rw [e] at h
  exact h

theorem l02Wide_ok (g : Nat) (s1 s2 : Value) (T : Tb) (w : World) (h : TP w g s1 s2 T) (hT : OkT T) :
    Calls Try.prog 105 #[.pointer (some ⟨g, 0, none⟩)] w (Num (T.wn : Nat) w) := by
  have q := l02Wide_any g s1 s2 T w h ⟨hT.v1, hT.v2⟩ (by have := hT.b2; omega)
  rw [hT.wn] at q
  exact q
/-- The number in a row and a column. -/
def Tb.at (T : Tb) (i k : Nat) : Nat := T.N.getD (i * T.wn + k) 0
/-- A call that reads a number. -/
def Reads (x : Nat) (w : World) (e : Ending) (w' : World) : Prop := e = .returned (.float .f32 x) ∧ ∃ n, w' = w.drewN n
set_option maxHeartbeats 1000000 in
theorem l02At_any (g : Nat) (s1 s2 : Value) (T : Tb) (i k : Nat) (w : World) (h : TP w g s1 s2 T) (hT : OkT T) (hi : i ≤ T.S.length) (hk : k < T.wn) :
    Calls Try.prog 108 #[.pointer (some ⟨g, 0, none⟩), .int .i64 i, .int .i64 k] w (Reads (T.at i k) w) := by
  have HP := Lib.hid h
  have HT := Lib.hid hT
  have ha := hT.at hi hk
  have hn := hT.hn
  have hr : i ≤ i * T.wn := Nat.le_mul_of_pos_right _ (by have := hT.w3; omega)
  obtain ⟨c0, c1, c2, r1, r2⟩ := h
  rcases r1 with ⟨hz, -⟩ | ⟨b, off, cap, rfl, hpos, hbl, hcell⟩
  · rw [hz] at ha; exact absurd ha (by simp)
  have hc := hcell _ ha
  obtain ⟨m, hm⟩ : ∃ m : Nat, m = i * T.wn := ⟨_, rfl⟩
  unfold Tb.at
  rw [← hm] at hc ha ⊢
  have hw1 : IntKind.i64.wrap ((i : Int) * (T.wn : Int)) = (m : Int) := by rw [← Int.natCast_mul, ← hm]; exact IntWalk.i64_in _ (by omega)
  have hw2 : IntKind.i64.wrap ((m : Int) + (k : Int)) = (m : Int) + (k : Int) := IntWalk.i64_in _ (by omega)
  have ha0 : (0 : Int) ≤ (m : Int) + (k : Int) := by omega
  have ha1 : (m : Int) + (k : Int) < (T.N.length : Int) := by omega
  have e1 : ((m : Int) + (k : Int)).toNat = m + k := by omega
  generalize T.N.getD (m + k) 0 = y at hc ⊢
  clear hcell r2 hT hr hm
  go_enter Try.func108, Try.ntmps108
  go_wp2_with fail
  go_quiet ((go_at_call 105; exact Calls.quiet_of (l02Wide_ok _ _ _ T _ (TP.dn HP.out) HT.out)))
  go_wp2_with fail
  go_ret
  exact ⟨rfl, _, rfl⟩
end Go.Proofs.Ytdacbkkanhelfaa
