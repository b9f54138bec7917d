/- The prices of a table, on both sides. -/
import Derived.Test.YtdacbkkanhelfaaPlan2
import Derived.Test.YtdacbkkanhelfaaOwn
import Derived.WalkSpells
import Derived.Outline
namespace Go.Proofs.Ytdacbkkanhelfaa
open Go.RowKit Go.ChangeShapes Go.WideShapes
attribute [local go_sem] run_store_float

def priA (T : Tb) (j : Nat) : List Nat := (List.range j).map fun i => T.at T.S.length (T.vars.toNat + i)
theorem priA_succ (T : Tb) (j : Nat) : priA T (j + 1) = priA T j ++ [T.at T.S.length (T.vars.toNat + j)] := by unfold priA; rw [List.range_succ, List.map_append]; rfl
theorem priA_len (T : Tb) (j : Nat) : (priA T j).length = j := by simp [priA]
def priceL (T : Tb) : List Nat := bif okT T then priA T T.S.length else []
theorem priceL_len (T : Tb) : (priceL T).length ≤ 1048576 := by
  unfold priceL
  cases h : okT T with
  | false => simp
  | true => have := (okT_ok h).b2; simp only [cond_true]; rw [priA_len]; omega
structure PrAt (T : Tb) (w : World) (j : Nat) (v : Value) (wr : World) : Prop where
  below : Below w.heap.size w wr
  grows : Grows (Value.float .f32) 32 w.heap.size v (priA T j) wr
set_option maxHeartbeats 4000000 in
theorem l02Prices_any (g : Nat) (s1 s2 : Value) (T : Tb) (w : World) (h : TP w g s1 s2 T) (hT : OkT T) :
    Calls Try.prog 95 #[.pointer (some ⟨g, 0, none⟩)] w (Makes (priA T T.S.length) w) := by
  obtain ⟨i0, hi, hz0, hz1, hz2⟩ := info_parts Try.infoF
  have HP := Lib.hid h
  have HT := Lib.hid hT
  have v1 := hT.v1
  have v2 := hT.v2
  have n2 := hT.b2
  have hg : g < w.heap.size := cell_block h.c0
  have hw3 := hT.w3
  have hw17 := hT.w17
  have hwd : T.wn = T.vars.toNat + T.S.length + 1 := rfl
  obtain ⟨c0, c1, c2, r1, r2⟩ := h
  obtain ⟨ao, cap, rfl⟩ := r2.long
  obtain ⟨nv, hnv⟩ : ∃ nv : Nat, T.vars = (nv : Int) := ⟨T.vars.toNat, by omega⟩
  have hnn : T.vars.toNat = nv := by omega
  have HNV := Lib.hid hnv
  have HNN := Lib.hid hnn
  have HWD : Hid (T.wn = nv + T.S.length + 1) := Lib.hid (by rw [hwd, hnn])
  rw [hnv] at c0
  have hn8 : nv ≤ 8 := by omega
  have hm : IntKind.i64.wrap ((T.wn : Int) - 1) = (nv : Int) + (T.S.length : Int) := by
    have e : (T.wn : Int) - 1 = (nv : Int) + (T.S.length : Int) := by omega
    rw [e]; exact IntWalk.i64_in _ (by omega)
  have HAT : Hid (∀ (j : Nat) (W : World), j < T.S.length → TP W g s1 (.slice ao T.S.length cap) T → Calls Try.prog 108 #[.pointer (some ⟨g, 0, none⟩), .int .i64 T.S.length, .int .i64 ((nv : Int) + (j : Int))] W (Reads (T.at T.S.length (nv + j)) W)) := Lib.hid (fun j W hj hW => by
    have q := l02At_any g s1 _ T T.S.length (nv + j) W hW HT.out (Nat.le_refl _) (by rw [HWD.out]; omega)
    rw [Int.natCast_add] at q
    exact q)
  have HSU := Lib.hid (priA_succ T)
  rw [hnn] at HSU
  clear r1 r2 hT hwd hnv hnn
  go_enter Try.func95, Try.ntmps95
  go_wp2_with fail
  go_loopg [3, 4] (T.S.length + 1) (fun gk v i wr => ∃ j : Nat, j ≤ T.S.length ∧ gk + j = T.S.length + 1 ∧ i = .int .i64 ((nv : Int) + (j : Int)) ∧ PrAt T w j v wr)
  case atStart => exact ⟨0, Nat.zero_le _, by omega, rfl, ⟨below_alloc _ _, Grows.empty _ _ _ _ (Nat.le_refl _)⟩⟩
  case round =>
    obtain ⟨j, hj, hgj, rfl, hat⟩ := hrel
    have HA := Lib.hid hat
    have HPW := Lib.hid (show TP wr g s1 (.slice ao T.S.length cap) T from ⟨keep_cell HP.out.c0 HA.out.below hg, keep_cell HP.out.c1 HA.out.below hg, keep_cell HP.out.c2 HA.out.below hg, HP.out.r1.below HA.out.below (Nat.le_refl _), HP.out.r2.below HA.out.below (Nat.le_refl _)⟩)
    have d2 := HPW.out.c2
    clear hat
    by_cases hlt : j < T.S.length
    · go_wp2_with fail
      go_at_call 105; refine (l02Wide_ok _ _ _ T _ HPW.out HT.out).mono ?_; rintro e w' ⟨rfl, m1, rfl⟩
      go_wp2_with fail
      go_at_call 108; refine (HAT.out j _ hlt (TP.dn HPW.out)).mono ?_; rintro e w' ⟨rfl, m2, rfl⟩
      go_wp2_with (at_builtin; refine wpList_append_own _ rfl _ _ 22 rfl w.heap.size 32 i0 (.float .f32 0) 1 4 Try.underlying22 hi hz0 hz1 hz2 rfl (by decide) _ _ _ rfl ((HA.out.grows.drewN _).alloc _) ⟨wr.heap.size, 0, none⟩ 1 1 [.float .f32 (T.at T.S.length (nv + j))] rfl rfl ?c1 ?c2 ?c3 ?c4 ?c5 ?_)
      case c1 => exact one_new
      case c2 => intro u hu; simp at hu; subst hu; rfl
      case c3 => rw [priA_len]; unfold maxLen; omega
      case c4 => rw [priA_len]; omega
      case c5 => have := HA.out.below.size; simp; omega
      intro v' w' hown hgrow _
      have HN := Lib.hid (show PrAt T w (j + 1) v' w' from ⟨((below_drewN HA.out.below _).alloc (by have := HA.out.below.size; simpa using this) _).grown hgrow (by have := HA.out.below.size; simp; omega) (fun k hk => HA.out.grows.block k hk), by rw [HSU.out]; exact Grows.more rfl hown⟩)
      clear hown hgrow
      go_wp2_with fail
      go_roundg (gk - 1)
      case measure => omega
      case rel => exact ⟨j + 1, by omega, by omega, by go_num, HN.out⟩
    · obtain rfl : j = T.S.length := by omega
      go_wp2_with fail
      go_at_call 105; refine (l02Wide_ok _ _ _ T _ HPW.out HT.out).mono ?_; rintro e w' ⟨rfl, m1, rfl⟩
      go_wp2_with fail
      refine bodyPost_ret (results_tmp rfl _ _ _) rfl ?_
      exact ⟨_, rfl, (HA.out.grows.drewN _).si, below_drewN HA.out.below _⟩
set_option maxHeartbeats 1000000 in
theorem specPricesOf_any (v : Value) (T : Tb) (w : World) (hv : TV w v T) (oT : OKT T) :
    Calls Try.prog 51 #[v] w (SaysLB (priceL T) (okT T) w) := by
  unfold priceL
  have HB := Lib.hid (below_alloc w)
  obtain ⟨s1, s2, rfl, g1, g2⟩ := hv
  have HP := Lib.hid (TP.box w g1 g2)
  clear g1 g2
  cases h1 : okT T with
  | false =>
    have H1 := Lib.hid h1
    clear h1
    go_enter Try.func51, Try.ntmps51
    go_wp2_with (go_at_call 70; refine (l02Table_is _ _ s1 s2 T _ HP.out oT H1.out).mono ?_; rintro e w' ⟨rfl, n1, rfl⟩)
    refine bodyPost_ret (results_tmp2 rfl _ _ _) rfl ?_
    exact ⟨_, rfl, SI.nil _ (Nat.le_refl _) _ _, below_drewN (HB.out _) _⟩
  | true =>
    have H1 := Lib.hid h1
    have HT := Lib.hid (okT_ok h1)
    clear h1
    go_enter Try.func51, Try.ntmps51
    go_wp2_with fail
    go_at_call 70; refine (l02Table_is _ _ s1 s2 T _ HP.out oT H1.out).mono ?_; rintro e w' ⟨rfl, n1, rfl⟩
    go_wp2_with fail
    go_at_call 95; refine (l02Prices_any _ s1 s2 T _ (TP.dn HP.out) HT.out).mono ?_; rintro e w2 ⟨u, rfl, hu, b⟩
    have HU := Lib.hid hu
    have B := Lib.hid ((below_drewN (HB.out _) n1).trans (b.mono (by simp)))
    clear hu b
    go_wp2_with fail
    refine bodyPost_ret (results_tmp2 rfl _ _ _) rfl ?_
    exact ⟨_, rfl, SI.wide HU.out (by simp) (Nat.le_refl _) (Nat.le_refl _), B.out⟩

/-! ### Clone -/
def MakesF (Z : List Nat) (w : World) (e : Ending) (w' : World) : Prop := ∃ v, e = .returned v ∧ FI w.heap.size w'.heap.size w' v Z ∧ Below w.heap.size w w'
set_option maxHeartbeats 1000000 in
theorem cloneF_any (v : Value) (Z : List Nat) (w : World) (hv : SL w v Z) (hz : 0 < Z.length) (hn : Z.length ≤ 1048576) :
    Calls Try.prog 96 #[v] w (MakesF Z w) := by
  obtain ⟨i0, hi, hz0, hz1, hz2⟩ := info_parts Try.infoF
  rcases hv with ⟨rfl, -⟩ | ⟨b, off, cap, rfl, hpos, hbl, hcell⟩
  · exact absurd hz (by simp)
  have HC := Lib.hid hcell
  clear hcell
  have hnil := fun (W : World) => Lib.run_eql_slice_nil (P := Try.prog) W 22 32 (some ⟨b, off, none⟩) Z.length (Z.length + cap) 0 0 Try.underlying22
  go_enter Try.func96, Try.ntmps96
  go_wp2_with (at_builtin; refine wpList_append_own _ rfl _ _ 22 rfl w.heap.size 32 i0 (.float .f32 0) 1 4 Try.underlying22 hi hz0 hz1 hz2 rfl (by decide) _ _ _ rfl (Grows.empty (Value.float .f32) _ _ w (Nat.le_refl _)) ⟨b, off, none⟩ Z.length (Z.length + cap) (Z.map (Value.float .f32)) rfl (by simp) ?c1 ?c2 ?c3 ?c4 ?c5 ?_)
  case c1 =>
    intro j u hu
    rw [List.getElem?_map] at hu
    obtain ⟨x, hx, rfl⟩ := Option.map_eq_some_iff.1 hu
    have hj : j < Z.length := (List.getElem?_eq_some_iff.1 hx).1
    rw [Go.WideShapes.add_plain, World.cell?_alloc_lt (w := w) (a := ⟨b, off + j, none⟩) (h := hbl), HC.out j hj]
    simp [List.getD, hx]
  case c2 =>
    intro u hu
    obtain ⟨x, -, rfl⟩ := List.mem_map.1 hu
    rfl
  case c3 => simp; unfold maxLen; omega
  case c4 => simp; omega
  case c5 => simp
  intro v' w' hown hgrow _
  have HN : Hid (Grows (Value.float .f32) 32 w.heap.size v' Z w') := Lib.hid hown
  have HB := Lib.hid ((below_alloc w _).grown hgrow (by simp) (fun k hk => by simp [Value.ownBlock] at hk; omega))
  clear hown hgrow
  go_wp2_with fail
  refine bodyPost_ret (results_tmp rfl _ _ _) rfl ?_
  exact ⟨_, rfl, HN.out.si, HB.out⟩

theorem pri_eq {T : Tb} (hT : OkT T) : priA T T.S.length = ((lineL T.N T.wn T.S.length).take (T.wn - 1)).drop T.vars.toNat := by
  have hl := line_len hT (Nat.le_refl T.S.length)
  have hw : T.wn = T.vars.toNat + T.S.length + 1 := rfl
  refine List.ext_getElem ?_ fun i h1 h2 => ?_
  · rw [priA_len, List.length_drop, List.length_take, hl]; omega
  · rw [priA_len] at h1
    have e1 : (priA T T.S.length)[i]'(by rw [priA_len]; exact h1) = T.at T.S.length (T.vars.toNat + i) := by simp [priA]
    rw [e1]
    have e2 : (lineL T.N T.wn T.S.length).getD (T.vars.toNat + i) 0 = T.at T.S.length (T.vars.toNat + i) := by rw [lineL_at (by omega)]; rfl
    rw [← e2]
    simp [List.getD, hl, show T.vars.toNat + i < T.wn by omega]
end Go.Proofs.Ytdacbkkanhelfaa
