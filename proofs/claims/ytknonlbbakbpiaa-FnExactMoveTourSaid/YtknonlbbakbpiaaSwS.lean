/- Shorter tours by turned parts: the model. -/
import Derived.Test.YtknonlbbakbpiaaSw0
import Derived.Test.YtknonlbbakbpiaaTourV
import Derived.Test.YtknonlbbakbpiaaLiI
namespace Go.Proofs.Ytknonlbbakbpiaa
open Go.RowKit Go.ChangeShapes Go.WideShapes
set_option maxRecDepth 100000

/-- The part from i to k, turned up to j. -/
def upF (T : List Int) (i k j : Nat) : List Int := (List.range T.length).map fun x => if i ≤ x ∧ x ≤ k ∧ x < j then T.getD (i + k - x) 0 else T.getD x 0
theorem upF_len (T : List Int) (i k j : Nat) : (upF T i k j).length = T.length := by simp [upF]
theorem upF_at {T : List Int} {i k j x : Nat} (h : x < T.length) : (upF T i k j).getD x 0 = if i ≤ x ∧ x ≤ k ∧ x < j then T.getD (i + k - x) 0 else T.getD x 0 := by simp [upF, List.getD, h]
theorem upF_0 (T : List Int) (i k : Nat) : upF T i k i = T := by
  refine List.ext_getElem (upF_len _ _ _ _) fun j a b => ?_
  have h := upF_at (i := i) (k := k) (j := i) b
  rw [if_neg (by omega)] at h
  simpa [List.getD, a, b] using h
theorem upF_end {T : List Int} {i k j : Nat} (h : k < j) : upF T i k j = turnF T i k := by
  unfold upF turnF
  refine List.map_congr_left fun x _ => ?_
  by_cases q : i ≤ x ∧ x ≤ k
  · rw [if_pos q, if_pos ⟨q.1, q.2, by omega⟩]
  · rw [if_neg q, if_neg (fun p => q ⟨p.1, p.2.1⟩)]
theorem upF_step {T : List Int} {i k j : Nat} (h1 : i ≤ j) (h2 : j ≤ k) : (upF T i k j).set j (T.getD (i + k - j) 0) = upF T i k (j + 1) := by
  refine List.ext_getElem (by simp [upF_len]) fun x a b => ?_
  have hx : x < T.length := by rw [upF_len] at b; exact b
  have e2 : (upF T i k (j + 1))[x] = (upF T i k (j + 1)).getD x 0 := by simp [List.getD, b]
  have e1 : (upF T i k j)[x]'(by rw [upF_len]; exact hx) = (upF T i k j).getD x 0 := by simp [List.getD, upF_len, hx]
  rw [e2, upF_at hx, List.getElem_set]
  by_cases q : j = x
  · subst q
    rw [if_pos rfl, if_pos ⟨h1, h2, by omega⟩]
  · rw [if_neg q, e1, upF_at hx]
    by_cases p : i ≤ x ∧ x ≤ k ∧ x < j
    · rw [if_pos p, if_pos ⟨p.1, p.2.1, by omega⟩]
    · rw [if_neg p, if_neg (fun r => p ⟨r.1, r.2.1, by omega⟩)]
structure UpAt (w : World) (b off : Nat) (Z : List Int) (wr : World) : Prop where
  turned : Turned b (b + 1) w wr
  arr : Arr (Value.int .i64) 0 wr b off Z
set_option maxHeartbeats 4000000 in
theorem l04Turned_any (v : Value) (T : List Int) (i k : Nat) (w : World) (hv : IL w v T) (hik : i ≤ k) (hk : k < T.length) (hl : T.length ≤ 1000) :
    Calls Try.prog 141 #[v, .int .i64 i, .int .i64 k] w (Made (Value.int .i64) (0 : Int) (turnF T i k) w) := by
  obtain ⟨i0, hi, hz0, hz1, hz2⟩ := info_parts Try.infoI
  rcases hv.lies with ⟨rfl, cap, rfl⟩ | ⟨ad, vcap, rfl, hl2⟩
  · simp at hk
  have HL := Lib.hid hl2
  have HV : Hid (∀ W, Below w.heap.size w W → IL W (.slice (some ad) T.length vcap) T) := Lib.hid fun W b => hv.below b (Nat.le_refl _)
  clear hl2 hv
  go_enter Try.func141, Try.ntmps141
  go_wp2_with (at_builtin; refine wpList_append_own _ rfl _ _ 35 rfl w.heap.size 2 i0 (.int .i64 0) 1 8 Try.underlying35 hi hz0 hz1 hz2 rfl (by decide) _ _ _ rfl (Grows.empty (Value.int .i64) _ _ w (Nat.le_refl _)) ad T.length vcap (T.map (Value.int .i64)) rfl (by simp) ?c1 ?c2 ?c3 ?c4 ?c5 ?_)
  case c1 => exact HL.out _
  case c2 => exact map_oneI T
  case c3 => simp; unfold maxLen; omega
  case c4 => simp; omega
  case c5 => simp
  intro v' w2 hown hgrow _
  have HN : Hid (Grows (Value.int .i64) 2 w.heap.size v' T w2) := Lib.hid (by have h := hown; show World.ownsRow _ _ _ _ _ _ _; simpa using h)
  have B2 := Lib.hid ((below_alloc w _).grown hgrow (by simp) (fun k hk => by simp [Value.ownBlock] at hk; omega))
  clear hown hgrow
  obtain ⟨hh, ⟨hz, -⟩ | ⟨b, off, cap, rfl, hpos, hb1, hb2, hfr, hcell⟩⟩ := Grows.si (d := (0 : Int)) HN.out
  · rw [hz] at hk; simp at hk
  have H0 : Hid (UpAt w2 b off (upF T i k i) w2) := Lib.hid ⟨Turned.refl _ _ _, by rw [upF_0]; exact ⟨hcell, hfr⟩⟩
  have HVC : Hid (∀ W, Below w.heap.size w W → ∀ x, x < T.length → ∃ vb vo, ad = ⟨vb, vo, none⟩ ∧ vb < w.heap.size ∧ W.cell? ⟨vb, vo + x, none⟩ = some (.int .i64 (T.getD x 0))) := Lib.hid fun W hb x hx => by
    rcases HV.out w (Below.refl _ _) with ⟨hz, -⟩ | ⟨vb, vo, vc, e, -, hbl, hc⟩
    · rw [hz] at hx; simp at hx
    · injection e with e1 _ _
      injection e1 with e1
      exact ⟨vb, vo, e1, hbl, keep_cell (hc x hx) hb hbl⟩
  have hw2 : w.heap.size ≤ w2.heap.size := B2.out.size
  clear hcell hfr hh
  go_wp2_with fail
  go_loopg [8] (k + 1 - i) (fun gk j wr => ∃ x : Nat, i ≤ x ∧ x ≤ k + 1 ∧ gk + x = k + 1 ∧ j = .int .i64 x ∧ UpAt w2 b off (upF T i k x) wr)
  case atStart => exact ⟨i, Nat.le_refl _, by omega, by omega, rfl, H0.out⟩
  case round =>
    clear H0
    obtain ⟨x, hx1, hx2, hgk, rfl, hat⟩ := hrel
    have HA := Lib.hid hat
    have HBW : Hid (Below w.heap.size w wr) := Lib.hid (B2.out.trans ((hat.turned.below (by omega)).mono hb1))
    by_cases hlt : x ≤ k
    · obtain ⟨q, hq⟩ : ∃ q : Nat, i + k = q + x := ⟨i + k - x, by omega⟩
      obtain ⟨vb, vo, rfl, hvb, cx⟩ := HVC.out _ HBW.out q (by omega)
      have cy := hat.arr.cells x (by rw [upF_len]; omega)
      have fy := hat.arr.free (off + x)
      have hst := hat.arr.set (i := x) (by rw [upF_len]; omega) (T.getD q 0)
      have hup := upF_step (T := T) hx1 hlt
      rw [show i + k - x = q by omega] at hup
      rw [hup] at hst
      have HN : Hid (UpAt w2 b off (upF T i k (x + 1)) (wr.setCell ⟨b, off + x, none⟩ (.int .i64 (T.getD q 0)))) := Lib.hid ⟨hat.turned.setCell (Nat.le_refl _) (Nat.lt_succ_self _) _, hst⟩
      have f1 : IntKind.i64.wrap ((i : Int) + (k : Int)) = (i : Int) + (k : Int) := IntWalk.i64_in _ (by omega)
      have f2 : (i : Int) + (k : Int) - (x : Int) = (q : Int) := by omega
      have f3 : IntKind.i64.wrap ((i : Int) + (k : Int) - (x : Int)) = (q : Int) := by rw [f2]; exact IntWalk.i64_in _ (by omega)
      have f4 : (q : Int) < (T.length : Int) := by omega
      have f5 : (x : Int) < (T.length : Int) := by omega
      have f6 : (x : Int) ≤ (k : Int) := by omega
      generalize (upF T i k x).getD x 0 = old at cy
      generalize T.getD q 0 = y at cx HN
      have HQ := Lib.hid hq
      clear hst hup hat hq
      go_wp2_with fail
      go_roundg (gk - 1)
      case measure => omega
      case rel => exact ⟨x + 1, by omega, by omega, by omega, by go_num, HN.out⟩
    · have hxk : x = k + 1 := by omega
      have HE := Lib.hid (upF_end (T := T) (i := i) (k := k) (j := x) (by omega))
      have f6 : ¬ (x : Int) ≤ (k : Int) := by omega
      have HXK := Lib.hid hxk
      clear hat hxk
      go_wp2_with fail
      refine bodyPost_ret (v := .slice (some ⟨b, off, none⟩) T.length (T.length + cap)) (by simp [results, Try.results141, go_sem]) rfl ?_
      have h3 := HA.out
      rw [HE.out] at h3
      exact ⟨_, rfl, ⟨Nat.le_refl _, Or.inr ⟨b, off, cap, by rw [turnF_len], by rw [turnF_len]; omega, hb1, Nat.lt_of_lt_of_le hb2 h3.turned.size, h3.arr.free, h3.arr.cells⟩⟩, HBW.out⟩
end Go.Proofs.Ytknonlbbakbpiaa
