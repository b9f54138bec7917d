/- Cities of ways: the program's side. -/
import Derived.Test.YtknonlbbakbpiaaCitW
namespace Go.Proofs.Ytknonlbbakbpiaa
open Go.RowKit Go.ChangeShapes Go.WideShapes

/-- A box of three cells of the call's own: its cells are there and may be written. -/
structure Res3 (w : World) (g : Nat) : Prop where
  c0 : ∃ u, w.cell? ⟨g, 0, none⟩ = some u
  c1 : ∃ u, w.cell? ⟨g, 1, none⟩ = some u
  c2 : ∃ u, w.cell? ⟨g, 2, none⟩ = some u
  free : ∀ i, w.frozen? ⟨g, i, none⟩ = false
theorem Res3.keep {B : Nat} {w w' : World} {g : Nat} (h : Res3 w g) (hb : Below B w w') (hg : g < B) : Res3 w' g :=
  ⟨by obtain ⟨u, hu⟩ := h.c0; exact ⟨u, keep_cell hu hb hg⟩, by obtain ⟨u, hu⟩ := h.c1; exact ⟨u, keep_cell hu hb hg⟩, by obtain ⟨u, hu⟩ := h.c2; exact ⟨u, keep_cell hu hb hg⟩, fun i => by rw [hb.frozen (p := ⟨g, i, none⟩) hg]; exact h.free i⟩
theorem Res3.lt {w : World} {g : Nat} (h : Res3 w g) : g < w.heap.size := by obtain ⟨u, hu⟩ := h.c0; exact cell_block hu
theorem Res3.new (w : World) (a b c : Value) (T : TypeId) : Res3 (w.alloc (.cells #[a, b, c] T)) w.heap.size :=
  ⟨⟨a, World.cell?_alloc_new _ _ _ _⟩, ⟨b, World.cell?_alloc_new _ _ _ _⟩, ⟨c, World.cell?_alloc_new _ _ _ _⟩, fun i => by go_simp⟩
/-- What holds while pairs are looked at: the result's box, the row of prices in block B, the cities' box in block g. -/
structure CitAt (w : World) (k : Nat) (v : Value) (B g : Nat) (wr : World) : Prop where
  below : Below w.heap.size w wr
  res : Res3 wr w.heap.size
  arr : Arr (Value.int .i64) 0 wr B 0 (List.replicate k 0)
  lt : B < wr.heap.size
  ge : w.heap.size < B
  box : Box3 wr g (.int .i64 k) v (.slice (some ⟨B, 0, none⟩) k k)
theorem CitAt.next {w wr w' : World} {k B g : Nat} {v : Value} (h : CitAt w k v B g wr) (b : Below wr.heap.size wr w') : CitAt w k v B g w' :=
  ⟨h.below.trans (b.mono h.below.size), h.res.keep b h.res.lt, h.arr.below b h.lt, Nat.lt_of_lt_of_le h.lt b.size, h.ge, h.box.keep b h.box.lt⟩
theorem CitAt.prices {w wr : World} {k B g : Nat} {v : Value} (h : CitAt w k v B g wr) : IL wr (.slice (some ⟨B, 0, none⟩) k k) (List.replicate k 0) := by
  have := (h.arr.si (lo := 0) (Nat.zero_le _) h.lt).vl
  rw [List.length_replicate] at this
  exact this
theorem rep0 (k a : Nat) : (List.replicate k (0 : Int)).getD a 0 = 0 := by
  simp only [List.getD]
  cases h : (List.replicate k (0 : Int))[a]? with
  | none => rfl
  | some x => exact List.eq_of_mem_replicate (List.mem_of_getElem? h)
theorem way0_any (k : Nat) (v pv : Value) (L : List Int) (i j : Nat) (w : World) (hv : IL w v L) (hp : IL w pv (List.replicate k 0)) (hk : k ≤ 10) (hsq : k * k = L.length) (hi : i < k) (hj : j < k) (ha : allIn L 0 1000 = true) :
    Calls Try.prog 191 #[.agg #[.int .i64 k, v, pv], .int .i64 i, .int .i64 j] w (SaysI (atW L k i j) w) := by
  have h := way_any k v pv L (List.replicate k 0) i j w hv hp hk hsq (List.length_replicate ..) hi hj (allIn_at ha (by rw [← hsq]; exact at_lt hi hj)) (fun a _ => by rw [rep0]; omega)
  rw [rep0, rep0, Int.add_zero, Int.add_zero] at h
  exact h
/-- The answer for what are cities. -/
def SaysCit (k : Nat) (v : Value) (w : World) (e : Ending) (w' : World) : Prop := ∃ B, e = .returned (.tuple #[.agg #[.int .i64 k, v, .slice (some ⟨B, 0, none⟩) k k], .bool true]) ∧ RowAt w B (List.replicate k 0) w'
def SaysNoCit (w : World) (e : Ending) (w' : World) : Prop := e = .returned (.tuple #[.agg #[.int .i64 0, .slice none 0 0, .slice none 0 0], .bool false]) ∧ Below w.heap.size w w'
def SaysC (t : Bool) (k : Nat) (v : Value) (w : World) (e : Ending) (w' : World) : Prop := bif t then SaysCit k v w e w' else SaysNoCit w e w'
theorem saysC_no {t : Bool} {k : Nat} {v : Value} {w w' : World} (h : t = false) (hb : Below w.heap.size w w') : SaysC t k v w (.returned (.tuple #[.agg #[.int .i64 0, .slice none 0 0, .slice none 0 0], .bool false])) w' := by subst h; exact ⟨rfl, hb⟩
theorem saysC_yes {t : Bool} {k n : Nat} {v : Value} {w w' : World} {B : Nat} (h : t = true) (hk : k = n) (hr : RowAt w B (List.replicate k 0) w') : SaysC t n v w (.returned (.tuple #[.agg #[.int .i64 k, v, .slice (some ⟨B, 0, none⟩) k k], .bool true])) w' := by subst h; subst hk; exact ⟨B, rfl, hr⟩
set_option maxRecDepth 100000 in
set_option maxHeartbeats 8000000 in
theorem citiesOf_any (v : Value) (L : List Int) (w : World) (hv : IL w v L) (hn : L.length ≤ 1048576) :
    Calls Try.prog 142 #[v] w (SaysC (cityB L) (rootN L.length) v w) := by
  obtain ⟨i0, hi, hz0, hz1, hz2⟩ := info_parts Try.infoI
  have HV := Lib.hid hv
  obtain ⟨ao, cap, rfl⟩ := hv.long
  have R0 := Lib.hid (Res3.new w (.int .i64 0) (.slice none 0 0) (.slice none 0 0) 106)
  have B0 := Lib.hid (below_alloc w)
  clear hv
  go_enter Try.func142, Try.ntmps142
  go_wp2_with fail
  go_loopg [4] 10 (fun gk n wr => ∃ k : Nat, 1 ≤ k ∧ k ≤ rootN L.length ∧ gk + k = 11 ∧ n = .int .i64 k ∧ wr = w.alloc (.cells #[.int .i64 0, .slice none 0 0, .slice none 0 0] 106))
  case atStart => exact ⟨1, Nat.le_refl _, (rootN_in _).1, rfl, rfl, rfl⟩
  case round =>
    obtain ⟨k, hk1, hk2, hgk, rfl, rfl⟩ := hrel
    have hk10 : k ≤ 10 := Nat.le_trans hk2 (rootN_in _).2
    obtain ⟨q, hq, hqk, hq100⟩ := root_sq hk2
    have HQK := Lib.hid hqk
    have HK2 := Lib.hid hk2
    clear hqk hk2
    by_cases hgo : k < 10 ∧ q < L.length
    · obtain ⟨h1, h2⟩ := hgo
      have HST := Lib.hid (rootN_step (m := L.length) hk1 h1 (by rw [← HQK.out]; exact h2))
      have d1 : decide ((k : Int) < 10) = true := by simp; omega
      have d2 : decide ((q : Int) < (L.length : Int)) = true := by simp; omega
      go_wp2_with fail
      go_roundg (gk - 1)
      case measure => omega
      case rel => exact ⟨k + 1, by omega, HST.out, by omega, by go_num, rfl⟩
    · have HE := Lib.hid (rootN_end (m := L.length) hk1 HK2.out (by rw [← HQK.out]; omega))
      have hgo2 : (decide ((k : Int) < 10) = false) ∨ (decide ((k : Int) < 10) = true ∧ decide (q < L.length) = false) := by
        by_cases h1 : k < 10
        · exact Or.inr ⟨by simp; omega, by simp; omega⟩
        · exact Or.inl (by simp; omega)
      clear hgo
      by_cases hsq : q = L.length
      · have HSQ : Hid (k * k = L.length) := Lib.hid (by rw [← HQK.out]; exact hsq)
        have hne : ((q : Int) != (L.length : Int)) = false := by simp; omega
        clear hsq
        cases ha : allIn L 0 1000 with
        | false =>
          have HA := Lib.hid ha
          have HNO := Lib.hid (cityB_noR (L := L) (by rw [← HE.out]; exact HSQ.out) ha)
          clear ha
          rcases hgo2 with d1 | ⟨d1, d2⟩
          all_goals
            go_wp2_with fail
            go_at_call 151; refine (areFrom_is false 0 _ L 1000 _ (HV.out.below (B0.out _) (Nat.le_refl _)) hn HA.out).mono ?_; rintro e w' ⟨rfl, m, rfl⟩
            go_wp2_with fail
            refine bodyPost_ret (v := .tuple #[.agg #[.int .i64 0, .slice none 0 0, .slice none 0 0], .bool false]) (by simp [results, Try.results142, go_sem]) rfl ?_
            exact saysC_no HNO.out (by
              repeat (refine Below.setCell ?_ (by simp) _)
              first | exact B0.out _ | exact below_drewN (B0.out _) _)
        | true =>
          have HA := Lib.hid ha
          clear ha
          rcases hgo2 with d1 | ⟨d1, d2⟩
          all_goals
            go_wp2_with fail
            go_at_call 151; refine (areFrom_is true 0 _ L 1000 _ (HV.out.below (B0.out _) (Nat.le_refl _)) hn HA.out).mono ?_; rintro e w' ⟨rfl, m, rfl⟩
            generalize hW : World.drewN (World.alloc w _) m = w1
            have R1 : Hid (Res3 w1 w.heap.size) := Lib.hid (by rw [← hW]; exact R0.out.keep (below_drewN (Below.refl _ _) m) R0.out.lt)
            have B1 : Hid (Below w.heap.size w w1) := Lib.hid (by rw [← hW]; exact below_drewN (B0.out _) _)
            clear hW
            go_wp2_with (at_make; refine wpList_make_full _ rfl _ _ 35 rfl w1.heap.size 2 i0 (.int .i64 0) 1 Try.underlying35 hi hz0 hz1 _ _ _ _ k rfl rfl rfl rfl (by rw [hz2]; omega) (by unfold maxLen; omega) (Nat.le_refl _) ?_; intro w2 hown hgrow; have bm := (Below.refl w1.heap.size w1).grown hgrow (Nat.le_refl _) (fun g hg => by cases hg); have AR := Lib.hid (Arr.made_i hown); have LT := Lib.hid (hown.lt _ rfl).2; have B2 := Lib.hid bm; clear hown hgrow bm)
            have H0 : Hid (CitAt w k (.slice ao L.length cap) w1.heap.size w2.heap.size (w2.alloc (.cells #[.int .i64 k, .slice ao L.length cap, .slice (some ⟨w1.heap.size, 0, none⟩) k k] 106))) := Lib.hid
              ⟨B1.out.trans ((B2.out.trans ((below_alloc w2 _).mono B2.out.size)).mono B1.out.size), (R1.out.keep B2.out R1.out.lt).keep (below_alloc w2 _) (Nat.lt_of_lt_of_le R1.out.lt B2.out.size), AR.out.below (below_alloc w2 _) LT.out, by have := LT.out; simp; omega, R1.out.lt, Box3.mk' _ _ _ _ _⟩
            obtain ⟨g0, rfl⟩ : ∃ x : Nat, x = gk := ⟨_, rfl⟩
            clear R1 B1 AR LT B2
            go_loopg [38] k (fun gk i wr => ∃ a : Nat, a ≤ k ∧ gk + a = k ∧ i = .int .i64 a ∧ (∀ c, c < a → ∀ d, d ≤ c → atW L k c d = atW L k d c) ∧ (∀ c, c < a → atW L k c c = 0) ∧ CitAt w k (.slice ao L.length cap) w1.heap.size w2.heap.size wr)
            case atStart => exact ⟨0, Nat.zero_le _, rfl, rfl, fun c hc => by omega, fun c hc => by omega, H0.out⟩
            case round =>
              clear H0
              obtain ⟨a, ha, hga, rfl, hs, hzz, hat⟩ := hrel
              have HS := Lib.hid hs
              have HZ := Lib.hid hzz
              have HC := Lib.hid hat
              clear hs hzz hat
              by_cases hak : a < k
              · go_wp2_with fail
                obtain ⟨wo, rfl⟩ : ∃ x : World, x = wr := ⟨_, rfl⟩
                obtain ⟨g1, rfl⟩ : ∃ x : Nat, x = gk := ⟨_, rfl⟩
                go_loopg [43] (a + 1) (fun gk j wr => ∃ c : Nat, c ≤ a + 1 ∧ gk + c = a + 1 ∧ j = .int .i64 c ∧ (∀ d, d < c → atW L k a d = atW L k d a) ∧ (a < c → atW L k a a = 0) ∧ CitAt w k (.slice ao L.length cap) w1.heap.size w2.heap.size wr)
                case atStart => exact ⟨0, Nat.zero_le _, rfl, rfl, fun d hd => by omega, fun h => by omega, HC.out⟩
                case round =>
                  obtain ⟨c, hc, hgc, rfl, hr, hz3, hat⟩ := hrel
                  have HR := Lib.hid hr
                  have HZ3 := Lib.hid hz3
                  have HX := Lib.hid hat
                  have HX0 := Lib.hid hat
                  clear hr hz3
                  by_cases hca : c ≤ a
                  · have hck : c < k := by omega
                    obtain ⟨x, hx⟩ : ∃ x, x = atW L k a c := ⟨_, rfl⟩
                    obtain ⟨y, hy⟩ : ∃ y, y = atW L k c a := ⟨_, rfl⟩
                    have WAY : Hid (∀ (W : World), CitAt w k (.slice ao L.length cap) w1.heap.size w2.heap.size W → ∀ i j : Nat, i < k → j < k → Calls Try.prog 191 #[.agg #[.int .i64 k, .slice ao L.length cap, .slice (some ⟨w1.heap.size, 0, none⟩) k k], .int .i64 i, .int .i64 j] W (SaysI (atW L k i j) W)) := Lib.hid fun W h i j hi hj => way0_any k _ _ L i j W (HV.out.below h.below (Nat.le_refl _)) h.prices hk10 HSQ.out hi hj HA.out
                    have HXX := Lib.hid hx
                    have HYY := Lib.hid hy
                    have WX : Hid (∀ (W : World), CitAt w k (.slice ao L.length cap) w1.heap.size w2.heap.size W → Calls Try.prog 191 #[.agg #[.int .i64 k, .slice ao L.length cap, .slice (some ⟨w1.heap.size, 0, none⟩) k k], .int .i64 a, .int .i64 c] W (SaysI x W)) := Lib.hid fun W h => by rw [HXX.out]; exact WAY.out W h a c hak hck
                    have WY : Hid (∀ (W : World), CitAt w k (.slice ao L.length cap) w1.heap.size w2.heap.size W → Calls Try.prog 191 #[.agg #[.int .i64 k, .slice ao L.length cap, .slice (some ⟨w1.heap.size, 0, none⟩) k k], .int .i64 c, .int .i64 a] W (SaysI y W)) := Lib.hid fun W h => by rw [HYY.out]; exact WAY.out W h c a hck hak
                    clear hx hy WAY
                    obtain ⟨c0, c1, c2⟩ := hat.box
                    have hc4 : (c : Int) < (a : Int) + 1 := by omega
                    have HXD := Lib.hid (hat.next (show Below wr.heap.size wr wr.drew from below_drewN (Below.refl wr.heap.size wr) 1))
                    clear hat
                    by_cases hac : a = c
                    · subst hac
                      have n1 : (x != x) = false := by simp
                      clear WY HYY
                      by_cases hx0 : x = 0
                      · have HX00 := Lib.hid hx0
                        subst hx0
                        clear n1
                        go_wp2_with fail
                        refine wp_region_held_drew (S := fun w' => w'.cell? ⟨w2.heap.size, 0, none⟩ = some (.int .i64 k) ∧ w'.cell? ⟨w2.heap.size, 1, none⟩ = some (.slice ao L.length cap) ∧ w'.cell? ⟨w2.heap.size, 2, none⟩ = some (.slice (some ⟨w1.heap.size, 0, none⟩) k k)) (by kernel_rfl) (by first | exact ⟨c0, c1, c2⟩ | (dsimp only; exact ⟨c0, c1, c2⟩)) (fun hHeld => ?_)
                        refine wpAnyH_take (i := 0) (v := ?_) rfl (by kernel_rfl) (by kernel_rfl) (by kernel_rfl) (fun _ _ _ h => h) (Or.inl ⟨by rfl, ?_⟩) hHeld ?_
                        rotate_left
                        · (intro w hSw; (try dsimp only at hSw); go_simp <;> first | done | with_reducible rfl)
                        try simp only [Act.put, List.getElem_toArray, List.getElem_cons_zero, List.setIfInBounds_toArray, List.set_cons_zero, List.set_cons_succ]
                        refine wpAnyH_take (i := 1) (v := ?_) rfl (by kernel_rfl) (by kernel_rfl) (by kernel_rfl) (fun _ _ _ h => h) (Or.inl ⟨by rfl, ?_⟩) hHeld ?_
                        rotate_left
                        · (intro w hSw; (try dsimp only at hSw); go_simp <;> first | done | with_reducible rfl)
                        try simp only [Act.put, List.getElem_toArray, List.getElem_cons_succ, List.getElem_cons_zero, List.setIfInBounds_toArray, List.set_cons_zero, List.set_cons_succ]
                        refine wpAnyH_take (i := 2) (v := ?_) rfl (by kernel_rfl) (by kernel_rfl) (by kernel_rfl) (fun _ _ _ h => h) (Or.inl ⟨by rfl, ?_⟩) hHeld ?_
                        rotate_left
                        · (intro w hSw; (try dsimp only at hSw); go_simp <;> first | done | with_reducible rfl)
                        try simp only [Act.put, List.getElem_toArray, List.getElem_cons_succ, List.getElem_cons_zero, List.setIfInBounds_toArray, List.set_cons_zero, List.set_cons_succ]
                        refine wpAnyH_take (i := 4) (v := ?_) rfl (by kernel_rfl) (by kernel_rfl) (by kernel_rfl) (fun _ _ _ h => h) (Or.inl ⟨by rfl, ?_⟩) hHeld ?_
                        rotate_left
                        · (intro w hSw; (try dsimp only at hSw); go_simp <;> first | done | with_reducible rfl)
                        try simp only [Act.put, List.getElem_toArray, List.getElem_cons_succ, List.getElem_cons_zero, List.setIfInBounds_toArray, List.set_cons_zero, List.set_cons_succ]
                        refine wpAnyH_take (i := 5) (v := ?_) rfl (by kernel_rfl) (by kernel_rfl) (by kernel_rfl) (fun _ _ _ h => h) (Or.inl ⟨by rfl, ?_⟩) hHeld ?_
                        rotate_left
                        · (intro w hSw; (try dsimp only at hSw); go_simp <;> first | done | with_reducible rfl)
                        try simp only [Act.put, List.getElem_toArray, List.getElem_cons_succ, List.getElem_cons_zero, List.setIfInBounds_toArray, List.set_cons_zero, List.set_cons_succ]
                        refine wpAnyH_take (i := 6) (v := ?_) rfl (by kernel_rfl) (by kernel_rfl) (by kernel_rfl) (fun _ _ _ h => h) (Or.inl ⟨by rfl, ?_⟩) hHeld ?_
                        rotate_left
                        · (intro w hSw; (try dsimp only at hSw); go_simp <;> first | done | with_reducible rfl)
                        try simp only [Act.put, List.getElem_toArray, List.getElem_cons_succ, List.getElem_cons_zero, List.setIfInBounds_toArray, List.set_cons_zero, List.set_cons_succ]
                        refine wpAnyH_ready (rs := [3]) (by kernel_rfl) (by simp) (AllReadyH.cons rfl (fun K hK => ?_) AllReadyH.nil)
                        go_simp
                        go_at_call 191; (with_reducible refine (WX.out _ HXD.out).mono ?_); rintro e wz ⟨rfl, bz⟩; have HXD := Lib.hid (HXD.out.next bz); clear bz; obtain ⟨d0, d1, d2⟩ := HXD.out.box
                        refine hK.out _ _ (by first | exact ⟨d0, d1, d2⟩ | (dsimp only; exact ⟨d0, d1, d2⟩)) (fun hHeld2 => ?_)
                        clear hK K hHeld
                        rename _ => hHeld
                        try simp only [Act.put, List.getElem_toArray, List.getElem_cons_succ, List.getElem_cons_zero, List.setIfInBounds_toArray, List.set_cons_zero, List.set_cons_succ]
                        refine wpAnyH_ready (rs := [7]) (by kernel_rfl) (by simp) (AllReadyH.cons rfl (fun K hK => ?_) AllReadyH.nil)
                        go_simp
                        go_at_call 191; (with_reducible refine (WX.out _ HXD.out).mono ?_); rintro e wz ⟨rfl, bz⟩; have HXD := Lib.hid (HXD.out.next bz); clear bz; obtain ⟨d0, d1, d2⟩ := HXD.out.box
                        refine hK.out _ _ (by first | exact ⟨d0, d1, d2⟩ | (dsimp only; exact ⟨d0, d1, d2⟩)) (fun hHeld2 => ?_)
                        clear hK K hHeld
                        rename _ => hHeld
                        try simp only [Act.put, List.getElem_toArray, List.getElem_cons_succ, List.getElem_cons_zero, List.setIfInBounds_toArray, List.set_cons_zero, List.set_cons_succ]
                        refine wpAnyH_take (i := 8) (v := ?_) rfl (by kernel_rfl) (by kernel_rfl) (by kernel_rfl) (fun _ _ _ h => h) (Or.inl ⟨by rfl, ?_⟩) hHeld ?_
                        rotate_left
                        · (intro w hSw; (try dsimp only at hSw); go_simp <;> first | done | with_reducible rfl)
                        try simp only [Act.put, List.getElem_toArray, List.getElem_cons_succ, List.getElem_cons_zero, List.setIfInBounds_toArray, List.set_cons_zero, List.set_cons_succ]
                        refine wpAnyH_take (i := 9) (v := ?_) rfl (by kernel_rfl) (by kernel_rfl) (by kernel_rfl) (fun _ _ _ h => h) (Or.inl ⟨by rfl, ?_⟩) hHeld ?_
                        rotate_left
                        · (intro w hSw; (try dsimp only at hSw); go_simp <;> first | done | with_reducible rfl)
                        try simp only [Act.put, List.getElem_toArray, List.getElem_cons_succ, List.getElem_cons_zero, List.setIfInBounds_toArray, List.set_cons_zero, List.set_cons_succ]
                        refine wpAnyH_take (i := 10) (v := ?_) rfl (by kernel_rfl) (by kernel_rfl) (by kernel_rfl) (fun _ _ _ h => h) (Or.inl ⟨by rfl, ?_⟩) hHeld ?_
                        rotate_left
                        · (intro w hSw; (try dsimp only at hSw); go_simp <;> first | done | with_reducible rfl)
                        try simp only [Act.put, List.getElem_toArray, List.getElem_cons_succ, List.getElem_cons_zero, List.setIfInBounds_toArray, List.set_cons_zero, List.set_cons_succ]
                        refine wpAnyH_take (i := 11) (v := ?_) rfl (by kernel_rfl) (by kernel_rfl) (by kernel_rfl) (fun _ _ _ h => h) (Or.inl ⟨by rfl, ?_⟩) hHeld ?_
                        rotate_left
                        · (intro w hSw; (try dsimp only at hSw); go_simp <;> first | done | with_reducible rfl)
                        try simp only [Act.put, List.getElem_toArray, List.getElem_cons_succ, List.getElem_cons_zero, List.setIfInBounds_toArray, List.set_cons_zero, List.set_cons_succ]
                        refine wpAnyH_take (i := 12) (v := ?_) rfl (by kernel_rfl) (by kernel_rfl) (by kernel_rfl) (fun _ _ _ h => h) (Or.inl ⟨by rfl, ?_⟩) hHeld ?_
                        rotate_left
                        · (intro w hSw; (try dsimp only at hSw); go_simp <;> first | done | with_reducible rfl)
                        try simp only [Act.put, List.getElem_toArray, List.getElem_cons_succ, List.getElem_cons_zero, List.setIfInBounds_toArray, List.set_cons_zero, List.set_cons_succ]
                        refine wpAnyH_take (i := 13) (v := ?_) rfl (by kernel_rfl) (by kernel_rfl) (by kernel_rfl) (fun _ _ _ h => h) (Or.inl ⟨by rfl, ?_⟩) hHeld ?_
                        rotate_left
                        · (intro w hSw; (try dsimp only at hSw); go_simp <;> first | done | with_reducible rfl)
                        try simp only [Act.put, List.getElem_toArray, List.getElem_cons_succ, List.getElem_cons_zero, List.setIfInBounds_toArray, List.set_cons_zero, List.set_cons_succ]
                        refine wpAnyH_take (i := 14) (v := ?_) rfl (by kernel_rfl) (by kernel_rfl) (by kernel_rfl) (fun _ _ _ h => h) (Or.inl ⟨by rfl, ?_⟩) hHeld ?_
                        rotate_left
                        · (intro w hSw; (try dsimp only at hSw); go_simp <;> first | done | with_reducible rfl)
                        try simp only [Act.put, List.getElem_toArray, List.getElem_cons_succ, List.getElem_cons_zero, List.setIfInBounds_toArray, List.set_cons_zero, List.set_cons_succ]
                        refine wpAnyH_take (i := 15) (v := ?_) rfl (by kernel_rfl) (by kernel_rfl) (by kernel_rfl) (fun _ _ _ h => h) (Or.inl ⟨by rfl, ?_⟩) hHeld ?_
                        rotate_left
                        · (intro w hSw; (try dsimp only at hSw); go_simp <;> first | done | with_reducible rfl)
                        try simp only [Act.put, List.getElem_toArray, List.getElem_cons_succ, List.getElem_cons_zero, List.setIfInBounds_toArray, List.set_cons_zero, List.set_cons_succ]
                        refine wpAnyH_take (i := 16) (v := ?_) rfl (by kernel_rfl) (by kernel_rfl) (by kernel_rfl) (fun _ _ _ h => h) (Or.inl ⟨by rfl, ?_⟩) hHeld ?_
                        rotate_left
                        · (intro w hSw; (try dsimp only at hSw); go_simp <;> first | done | with_reducible rfl)
                        try simp only [Act.put, List.getElem_toArray, List.getElem_cons_succ, List.getElem_cons_zero, List.setIfInBounds_toArray, List.set_cons_zero, List.set_cons_succ]
                        refine wpAnyH_ready (rs := [17]) (by kernel_rfl) (by simp) (AllReadyH.cons rfl (fun K hK => ?_) AllReadyH.nil)
                        go_simp
                        go_at_call 191; (with_reducible refine (WX.out _ HXD.out).mono ?_); rintro e wz ⟨rfl, bz⟩; have HXD := Lib.hid (HXD.out.next bz); clear bz; obtain ⟨d0, d1, d2⟩ := HXD.out.box
                        refine hK.out _ _ (by first | exact ⟨d0, d1, d2⟩ | (dsimp only; exact ⟨d0, d1, d2⟩)) (fun hHeld2 => ?_)
                        clear hK K hHeld
                        rename _ => hHeld
                        try simp only [Act.put, List.getElem_toArray, List.getElem_cons_succ, List.getElem_cons_zero, List.setIfInBounds_toArray, List.set_cons_zero, List.set_cons_succ]
                        refine wpAnyH_take (i := 18) (v := ?_) rfl (by kernel_rfl) (by kernel_rfl) (by kernel_rfl) (fun _ _ _ h => h) (Or.inl ⟨by rfl, ?_⟩) hHeld ?_
                        rotate_left
                        · (intro w hSw; (try dsimp only at hSw); go_simp <;> first | done | with_reducible rfl)
                        try simp only [Act.put, List.getElem_toArray, List.getElem_cons_succ, List.getElem_cons_zero, List.setIfInBounds_toArray, List.set_cons_zero, List.set_cons_succ]
                        refine wpAnyH_take (i := 19) (v := ?_) rfl (by kernel_rfl) (by kernel_rfl) (by kernel_rfl) (fun _ _ _ h => h) (Or.inl ⟨by rfl, ?_⟩) hHeld ?_
                        rotate_left
                        · (intro w hSw; (try dsimp only at hSw); go_simp <;> first | done | with_reducible rfl)
                        try simp only [Act.put, List.getElem_toArray, List.getElem_cons_succ, List.getElem_cons_zero, List.setIfInBounds_toArray, List.set_cons_zero, List.set_cons_succ]
                        refine wpAnyH_take (i := 20) (v := ?_) rfl (by kernel_rfl) (by kernel_rfl) (by kernel_rfl) (fun _ _ _ h => h) (Or.inl ⟨by rfl, ?_⟩) hHeld ?_
                        rotate_left
                        · (intro w hSw; (try dsimp only at hSw); go_simp <;> first | done | with_reducible rfl)
                        try simp only [Act.put, List.getElem_toArray, List.getElem_cons_succ, List.getElem_cons_zero, List.setIfInBounds_toArray, List.set_cons_zero, List.set_cons_succ]
                        refine wpAnyH_done (by kernel_rfl) ?_ _
                        go_wp2_with fail
                        go_roundg (gk - 1)
                        case measure => omega
                        case rel => exact ⟨a + 1, by omega, by omega, by go_num, fun d hd => by
                          by_cases e : d = a
                          · subst e; rfl
                          · exact HR.out d (by omega), fun _ => by rw [← HXX.out], HXD.out⟩
                      · have n3 : (x != 0) = true := by simpa using hx0
                        have HX00 := Lib.hid hx0
                        clear hx0
                        go_wp2_with fail
                        refine wp_region_held_drew (S := fun w' => w'.cell? ⟨w2.heap.size, 0, none⟩ = some (.int .i64 k) ∧ w'.cell? ⟨w2.heap.size, 1, none⟩ = some (.slice ao L.length cap) ∧ w'.cell? ⟨w2.heap.size, 2, none⟩ = some (.slice (some ⟨w1.heap.size, 0, none⟩) k k)) (by kernel_rfl) (by first | exact ⟨c0, c1, c2⟩ | (dsimp only; exact ⟨c0, c1, c2⟩)) (fun hHeld => ?_)
                        refine wpAnyH_take (i := 0) (v := ?_) rfl (by kernel_rfl) (by kernel_rfl) (by kernel_rfl) (fun _ _ _ h => h) (Or.inl ⟨by rfl, ?_⟩) hHeld ?_
                        rotate_left
                        · (intro w hSw; (try dsimp only at hSw); go_simp <;> first | done | with_reducible rfl)
                        try simp only [Act.put, List.getElem_toArray, List.getElem_cons_zero, List.setIfInBounds_toArray, List.set_cons_zero, List.set_cons_succ]
                        refine wpAnyH_take (i := 1) (v := ?_) rfl (by kernel_rfl) (by kernel_rfl) (by kernel_rfl) (fun _ _ _ h => h) (Or.inl ⟨by rfl, ?_⟩) hHeld ?_
                        rotate_left
                        · (intro w hSw; (try dsimp only at hSw); go_simp <;> first | done | with_reducible rfl)
                        try simp only [Act.put, List.getElem_toArray, List.getElem_cons_succ, List.getElem_cons_zero, List.setIfInBounds_toArray, List.set_cons_zero, List.set_cons_succ]
                        refine wpAnyH_take (i := 2) (v := ?_) rfl (by kernel_rfl) (by kernel_rfl) (by kernel_rfl) (fun _ _ _ h => h) (Or.inl ⟨by rfl, ?_⟩) hHeld ?_
                        rotate_left
                        · (intro w hSw; (try dsimp only at hSw); go_simp <;> first | done | with_reducible rfl)
                        try simp only [Act.put, List.getElem_toArray, List.getElem_cons_succ, List.getElem_cons_zero, List.setIfInBounds_toArray, List.set_cons_zero, List.set_cons_succ]
                        refine wpAnyH_take (i := 4) (v := ?_) rfl (by kernel_rfl) (by kernel_rfl) (by kernel_rfl) (fun _ _ _ h => h) (Or.inl ⟨by rfl, ?_⟩) hHeld ?_
                        rotate_left
                        · (intro w hSw; (try dsimp only at hSw); go_simp <;> first | done | with_reducible rfl)
                        try simp only [Act.put, List.getElem_toArray, List.getElem_cons_succ, List.getElem_cons_zero, List.setIfInBounds_toArray, List.set_cons_zero, List.set_cons_succ]
                        refine wpAnyH_take (i := 5) (v := ?_) rfl (by kernel_rfl) (by kernel_rfl) (by kernel_rfl) (fun _ _ _ h => h) (Or.inl ⟨by rfl, ?_⟩) hHeld ?_
                        rotate_left
                        · (intro w hSw; (try dsimp only at hSw); go_simp <;> first | done | with_reducible rfl)
                        try simp only [Act.put, List.getElem_toArray, List.getElem_cons_succ, List.getElem_cons_zero, List.setIfInBounds_toArray, List.set_cons_zero, List.set_cons_succ]
                        refine wpAnyH_take (i := 6) (v := ?_) rfl (by kernel_rfl) (by kernel_rfl) (by kernel_rfl) (fun _ _ _ h => h) (Or.inl ⟨by rfl, ?_⟩) hHeld ?_
                        rotate_left
                        · (intro w hSw; (try dsimp only at hSw); go_simp <;> first | done | with_reducible rfl)
                        try simp only [Act.put, List.getElem_toArray, List.getElem_cons_succ, List.getElem_cons_zero, List.setIfInBounds_toArray, List.set_cons_zero, List.set_cons_succ]
                        refine wpAnyH_ready (rs := [3]) (by kernel_rfl) (by simp) (AllReadyH.cons rfl (fun K hK => ?_) AllReadyH.nil)
                        go_simp
                        go_at_call 191; (with_reducible refine (WX.out _ HXD.out).mono ?_); rintro e wz ⟨rfl, bz⟩; have HXD := Lib.hid (HXD.out.next bz); clear bz; obtain ⟨d0, d1, d2⟩ := HXD.out.box
                        refine hK.out _ _ (by first | exact ⟨d0, d1, d2⟩ | (dsimp only; exact ⟨d0, d1, d2⟩)) (fun hHeld2 => ?_)
                        clear hK K hHeld
                        rename _ => hHeld
                        try simp only [Act.put, List.getElem_toArray, List.getElem_cons_succ, List.getElem_cons_zero, List.setIfInBounds_toArray, List.set_cons_zero, List.set_cons_succ]
                        refine wpAnyH_ready (rs := [7]) (by kernel_rfl) (by simp) (AllReadyH.cons rfl (fun K hK => ?_) AllReadyH.nil)
                        go_simp
                        go_at_call 191; (with_reducible refine (WX.out _ HXD.out).mono ?_); rintro e wz ⟨rfl, bz⟩; have HXD := Lib.hid (HXD.out.next bz); clear bz; obtain ⟨d0, d1, d2⟩ := HXD.out.box
                        refine hK.out _ _ (by first | exact ⟨d0, d1, d2⟩ | (dsimp only; exact ⟨d0, d1, d2⟩)) (fun hHeld2 => ?_)
                        clear hK K hHeld
                        rename _ => hHeld
                        try simp only [Act.put, List.getElem_toArray, List.getElem_cons_succ, List.getElem_cons_zero, List.setIfInBounds_toArray, List.set_cons_zero, List.set_cons_succ]
                        refine wpAnyH_take (i := 8) (v := ?_) rfl (by kernel_rfl) (by kernel_rfl) (by kernel_rfl) (fun _ _ _ h => h) (Or.inl ⟨by rfl, ?_⟩) hHeld ?_
                        rotate_left
                        · (intro w hSw; (try dsimp only at hSw); go_simp <;> first | done | with_reducible rfl)
                        try simp only [Act.put, List.getElem_toArray, List.getElem_cons_succ, List.getElem_cons_zero, List.setIfInBounds_toArray, List.set_cons_zero, List.set_cons_succ]
                        refine wpAnyH_take (i := 9) (v := ?_) rfl (by kernel_rfl) (by kernel_rfl) (by kernel_rfl) (fun _ _ _ h => h) (Or.inl ⟨by rfl, ?_⟩) hHeld ?_
                        rotate_left
                        · (intro w hSw; (try dsimp only at hSw); go_simp <;> first | done | with_reducible rfl)
                        try simp only [Act.put, List.getElem_toArray, List.getElem_cons_succ, List.getElem_cons_zero, List.setIfInBounds_toArray, List.set_cons_zero, List.set_cons_succ]
                        refine wpAnyH_take (i := 10) (v := ?_) rfl (by kernel_rfl) (by kernel_rfl) (by kernel_rfl) (fun _ _ _ h => h) (Or.inl ⟨by rfl, ?_⟩) hHeld ?_
                        rotate_left
                        · (intro w hSw; (try dsimp only at hSw); go_simp <;> first | done | with_reducible rfl)
                        try simp only [Act.put, List.getElem_toArray, List.getElem_cons_succ, List.getElem_cons_zero, List.setIfInBounds_toArray, List.set_cons_zero, List.set_cons_succ]
                        refine wpAnyH_take (i := 11) (v := ?_) rfl (by kernel_rfl) (by kernel_rfl) (by kernel_rfl) (fun _ _ _ h => h) (Or.inl ⟨by rfl, ?_⟩) hHeld ?_
                        rotate_left
                        · (intro w hSw; (try dsimp only at hSw); go_simp <;> first | done | with_reducible rfl)
                        try simp only [Act.put, List.getElem_toArray, List.getElem_cons_succ, List.getElem_cons_zero, List.setIfInBounds_toArray, List.set_cons_zero, List.set_cons_succ]
                        refine wpAnyH_take (i := 12) (v := ?_) rfl (by kernel_rfl) (by kernel_rfl) (by kernel_rfl) (fun _ _ _ h => h) (Or.inl ⟨by rfl, ?_⟩) hHeld ?_
                        rotate_left
                        · (intro w hSw; (try dsimp only at hSw); go_simp <;> first | done | with_reducible rfl)
                        try simp only [Act.put, List.getElem_toArray, List.getElem_cons_succ, List.getElem_cons_zero, List.setIfInBounds_toArray, List.set_cons_zero, List.set_cons_succ]
                        refine wpAnyH_take (i := 13) (v := ?_) rfl (by kernel_rfl) (by kernel_rfl) (by kernel_rfl) (fun _ _ _ h => h) (Or.inl ⟨by rfl, ?_⟩) hHeld ?_
                        rotate_left
                        · (intro w hSw; (try dsimp only at hSw); go_simp <;> first | done | with_reducible rfl)
                        try simp only [Act.put, List.getElem_toArray, List.getElem_cons_succ, List.getElem_cons_zero, List.setIfInBounds_toArray, List.set_cons_zero, List.set_cons_succ]
                        refine wpAnyH_take (i := 14) (v := ?_) rfl (by kernel_rfl) (by kernel_rfl) (by kernel_rfl) (fun _ _ _ h => h) (Or.inl ⟨by rfl, ?_⟩) hHeld ?_
                        rotate_left
                        · (intro w hSw; (try dsimp only at hSw); go_simp <;> first | done | with_reducible rfl)
                        try simp only [Act.put, List.getElem_toArray, List.getElem_cons_succ, List.getElem_cons_zero, List.setIfInBounds_toArray, List.set_cons_zero, List.set_cons_succ]
                        refine wpAnyH_take (i := 15) (v := ?_) rfl (by kernel_rfl) (by kernel_rfl) (by kernel_rfl) (fun _ _ _ h => h) (Or.inl ⟨by rfl, ?_⟩) hHeld ?_
                        rotate_left
                        · (intro w hSw; (try dsimp only at hSw); go_simp <;> first | done | with_reducible rfl)
                        try simp only [Act.put, List.getElem_toArray, List.getElem_cons_succ, List.getElem_cons_zero, List.setIfInBounds_toArray, List.set_cons_zero, List.set_cons_succ]
                        refine wpAnyH_take (i := 16) (v := ?_) rfl (by kernel_rfl) (by kernel_rfl) (by kernel_rfl) (fun _ _ _ h => h) (Or.inl ⟨by rfl, ?_⟩) hHeld ?_
                        rotate_left
                        · (intro w hSw; (try dsimp only at hSw); go_simp <;> first | done | with_reducible rfl)
                        try simp only [Act.put, List.getElem_toArray, List.getElem_cons_succ, List.getElem_cons_zero, List.setIfInBounds_toArray, List.set_cons_zero, List.set_cons_succ]
                        refine wpAnyH_ready (rs := [17]) (by kernel_rfl) (by simp) (AllReadyH.cons rfl (fun K hK => ?_) AllReadyH.nil)
                        go_simp
                        go_at_call 191; (with_reducible refine (WX.out _ HXD.out).mono ?_); rintro e wz ⟨rfl, bz⟩; have HXD := Lib.hid (HXD.out.next bz); clear bz; obtain ⟨d0, d1, d2⟩ := HXD.out.box
                        refine hK.out _ _ (by first | exact ⟨d0, d1, d2⟩ | (dsimp only; exact ⟨d0, d1, d2⟩)) (fun hHeld2 => ?_)
                        clear hK K hHeld
                        rename _ => hHeld
                        try simp only [Act.put, List.getElem_toArray, List.getElem_cons_succ, List.getElem_cons_zero, List.setIfInBounds_toArray, List.set_cons_zero, List.set_cons_succ]
                        refine wpAnyH_take (i := 18) (v := ?_) rfl (by kernel_rfl) (by kernel_rfl) (by kernel_rfl) (fun _ _ _ h => h) (Or.inl ⟨by rfl, ?_⟩) hHeld ?_
                        rotate_left
                        · (intro w hSw; (try dsimp only at hSw); go_simp <;> first | done | with_reducible rfl)
                        try simp only [Act.put, List.getElem_toArray, List.getElem_cons_succ, List.getElem_cons_zero, List.setIfInBounds_toArray, List.set_cons_zero, List.set_cons_succ]
                        refine wpAnyH_take (i := 19) (v := ?_) rfl (by kernel_rfl) (by kernel_rfl) (by kernel_rfl) (fun _ _ _ h => h) (Or.inl ⟨by rfl, ?_⟩) hHeld ?_
                        rotate_left
                        · (intro w hSw; (try dsimp only at hSw); go_simp <;> first | done | with_reducible rfl)
                        try simp only [Act.put, List.getElem_toArray, List.getElem_cons_succ, List.getElem_cons_zero, List.setIfInBounds_toArray, List.set_cons_zero, List.set_cons_succ]
                        refine wpAnyH_take (i := 20) (v := ?_) rfl (by kernel_rfl) (by kernel_rfl) (by kernel_rfl) (fun _ _ _ h => h) (Or.inl ⟨by rfl, ?_⟩) hHeld ?_
                        rotate_left
                        · (intro w hSw; (try dsimp only at hSw); go_simp <;> first | done | with_reducible rfl)
                        try simp only [Act.put, List.getElem_toArray, List.getElem_cons_succ, List.getElem_cons_zero, List.setIfInBounds_toArray, List.set_cons_zero, List.set_cons_succ]
                        refine wpAnyH_done (by kernel_rfl) ?_ _
                        have HNO := Lib.hid (cityB_no4 (L := L) (i := a) (by rw [← HE.out]; exact hak) (by rw [← HE.out, ← HXX.out]; exact HX00.out))
                        obtain ⟨⟨u0, g0⟩, ⟨u1, g1⟩, ⟨u2, g2⟩, hfr⟩ := HXD.out.res
                        have f0 := hfr 0
                        have f1 := hfr 1
                        have f2 := hfr 2
                        clear hfr
                        go_wp2_with fail
                        refine bodyPost_ret (v := .tuple #[.agg #[.int .i64 0, .slice none 0 0, .slice none 0 0], .bool false]) (by simp [results, Try.results142, g0, g1, g2, go_sem]) rfl ?_
                        exact saysC_no HNO.out (by
                          repeat (refine Below.setCell ?_ (by simp) _)
                          exact HXD.out.below)
                    · have n2 : ((a : Int) == (c : Int)) = false := by simp; omega
                      by_cases hxy : x = y
                      · subst hxy
                        have n1 : (x != x) = false := by simp
                        go_wp2_with fail
                        refine wp_region_held_drew (S := fun w' => w'.cell? ⟨w2.heap.size, 0, none⟩ = some (.int .i64 k) ∧ w'.cell? ⟨w2.heap.size, 1, none⟩ = some (.slice ao L.length cap) ∧ w'.cell? ⟨w2.heap.size, 2, none⟩ = some (.slice (some ⟨w1.heap.size, 0, none⟩) k k)) (by kernel_rfl) (by first | exact ⟨c0, c1, c2⟩ | (dsimp only; exact ⟨c0, c1, c2⟩)) (fun hHeld => ?_)
                        refine wpAnyH_take (i := 0) (v := ?_) rfl (by kernel_rfl) (by kernel_rfl) (by kernel_rfl) (fun _ _ _ h => h) (Or.inl ⟨by rfl, ?_⟩) hHeld ?_
                        rotate_left
                        · (intro w hSw; (try dsimp only at hSw); go_simp <;> first | done | with_reducible rfl)
                        try simp only [Act.put, List.getElem_toArray, List.getElem_cons_zero, List.setIfInBounds_toArray, List.set_cons_zero, List.set_cons_succ]
                        refine wpAnyH_take (i := 1) (v := ?_) rfl (by kernel_rfl) (by kernel_rfl) (by kernel_rfl) (fun _ _ _ h => h) (Or.inl ⟨by rfl, ?_⟩) hHeld ?_
                        rotate_left
                        · (intro w hSw; (try dsimp only at hSw); go_simp <;> first | done | with_reducible rfl)
                        try simp only [Act.put, List.getElem_toArray, List.getElem_cons_succ, List.getElem_cons_zero, List.setIfInBounds_toArray, List.set_cons_zero, List.set_cons_succ]
                        refine wpAnyH_take (i := 2) (v := ?_) rfl (by kernel_rfl) (by kernel_rfl) (by kernel_rfl) (fun _ _ _ h => h) (Or.inl ⟨by rfl, ?_⟩) hHeld ?_
                        rotate_left
                        · (intro w hSw; (try dsimp only at hSw); go_simp <;> first | done | with_reducible rfl)
                        try simp only [Act.put, List.getElem_toArray, List.getElem_cons_succ, List.getElem_cons_zero, List.setIfInBounds_toArray, List.set_cons_zero, List.set_cons_succ]
                        refine wpAnyH_take (i := 4) (v := ?_) rfl (by kernel_rfl) (by kernel_rfl) (by kernel_rfl) (fun _ _ _ h => h) (Or.inl ⟨by rfl, ?_⟩) hHeld ?_
                        rotate_left
                        · (intro w hSw; (try dsimp only at hSw); go_simp <;> first | done | with_reducible rfl)
                        try simp only [Act.put, List.getElem_toArray, List.getElem_cons_succ, List.getElem_cons_zero, List.setIfInBounds_toArray, List.set_cons_zero, List.set_cons_succ]
                        refine wpAnyH_take (i := 5) (v := ?_) rfl (by kernel_rfl) (by kernel_rfl) (by kernel_rfl) (fun _ _ _ h => h) (Or.inl ⟨by rfl, ?_⟩) hHeld ?_
                        rotate_left
                        · (intro w hSw; (try dsimp only at hSw); go_simp <;> first | done | with_reducible rfl)
                        try simp only [Act.put, List.getElem_toArray, List.getElem_cons_succ, List.getElem_cons_zero, List.setIfInBounds_toArray, List.set_cons_zero, List.set_cons_succ]
                        refine wpAnyH_take (i := 6) (v := ?_) rfl (by kernel_rfl) (by kernel_rfl) (by kernel_rfl) (fun _ _ _ h => h) (Or.inl ⟨by rfl, ?_⟩) hHeld ?_
                        rotate_left
                        · (intro w hSw; (try dsimp only at hSw); go_simp <;> first | done | with_reducible rfl)
                        try simp only [Act.put, List.getElem_toArray, List.getElem_cons_succ, List.getElem_cons_zero, List.setIfInBounds_toArray, List.set_cons_zero, List.set_cons_succ]
                        refine wpAnyH_ready (rs := [3]) (by kernel_rfl) (by simp) (AllReadyH.cons rfl (fun K hK => ?_) AllReadyH.nil)
                        go_simp
                        go_at_call 191; (with_reducible refine (WX.out _ HXD.out).mono ?_); rintro e wz ⟨rfl, bz⟩; have HXD := Lib.hid (HXD.out.next bz); clear bz; obtain ⟨d0, d1, d2⟩ := HXD.out.box
                        refine hK.out _ _ (by first | exact ⟨d0, d1, d2⟩ | (dsimp only; exact ⟨d0, d1, d2⟩)) (fun hHeld2 => ?_)
                        clear hK K hHeld
                        rename _ => hHeld
                        try simp only [Act.put, List.getElem_toArray, List.getElem_cons_succ, List.getElem_cons_zero, List.setIfInBounds_toArray, List.set_cons_zero, List.set_cons_succ]
                        refine wpAnyH_ready (rs := [7]) (by kernel_rfl) (by simp) (AllReadyH.cons rfl (fun K hK => ?_) AllReadyH.nil)
                        go_simp
                        go_at_call 191; (with_reducible refine (WY.out _ HXD.out).mono ?_); rintro e wz ⟨rfl, bz⟩; have HXD := Lib.hid (HXD.out.next bz); clear bz; obtain ⟨d0, d1, d2⟩ := HXD.out.box
                        refine hK.out _ _ (by first | exact ⟨d0, d1, d2⟩ | (dsimp only; exact ⟨d0, d1, d2⟩)) (fun hHeld2 => ?_)
                        clear hK K hHeld
                        rename _ => hHeld
                        try simp only [Act.put, List.getElem_toArray, List.getElem_cons_succ, List.getElem_cons_zero, List.setIfInBounds_toArray, List.set_cons_zero, List.set_cons_succ]
                        refine wpAnyH_take (i := 8) (v := ?_) rfl (by kernel_rfl) (by kernel_rfl) (by kernel_rfl) (fun _ _ _ h => h) (Or.inl ⟨by rfl, ?_⟩) hHeld ?_
                        rotate_left
                        · (intro w hSw; (try dsimp only at hSw); go_simp <;> first | done | with_reducible rfl)
                        try simp only [Act.put, List.getElem_toArray, List.getElem_cons_succ, List.getElem_cons_zero, List.setIfInBounds_toArray, List.set_cons_zero, List.set_cons_succ]
                        refine wpAnyH_take (i := 9) (v := ?_) rfl (by kernel_rfl) (by kernel_rfl) (by kernel_rfl) (fun _ _ _ h => h) (Or.inl ⟨by rfl, ?_⟩) hHeld ?_
                        rotate_left
                        · (intro w hSw; (try dsimp only at hSw); go_simp <;> first | done | with_reducible rfl)
                        try simp only [Act.put, List.getElem_toArray, List.getElem_cons_succ, List.getElem_cons_zero, List.setIfInBounds_toArray, List.set_cons_zero, List.set_cons_succ]
                        refine wpAnyH_take (i := 10) (v := ?_) rfl (by kernel_rfl) (by kernel_rfl) (by kernel_rfl) (fun _ _ _ h => h) (Or.inl ⟨by rfl, ?_⟩) hHeld ?_
                        rotate_left
                        · (intro w hSw; (try dsimp only at hSw); go_simp <;> first | done | with_reducible rfl)
                        try simp only [Act.put, List.getElem_toArray, List.getElem_cons_succ, List.getElem_cons_zero, List.setIfInBounds_toArray, List.set_cons_zero, List.set_cons_succ]
                        refine wpAnyH_take (i := 11) (v := ?_) rfl (by kernel_rfl) (by kernel_rfl) (by kernel_rfl) (fun _ _ _ h => h) (Or.inl ⟨by rfl, ?_⟩) hHeld ?_
                        rotate_left
                        · (intro w hSw; (try dsimp only at hSw); go_simp <;> first | done | with_reducible rfl)
                        try simp only [Act.put, List.getElem_toArray, List.getElem_cons_succ, List.getElem_cons_zero, List.setIfInBounds_toArray, List.set_cons_zero, List.set_cons_succ]
                        refine wpAnyH_take (i := 12) (v := ?_) rfl (by kernel_rfl) (by kernel_rfl) (by kernel_rfl) (fun _ _ _ h => h) (Or.inl ⟨by rfl, ?_⟩) hHeld ?_
                        rotate_left
                        · (intro w hSw; (try dsimp only at hSw); go_simp <;> first | done | with_reducible rfl)
                        try simp only [Act.put, List.getElem_toArray, List.getElem_cons_succ, List.getElem_cons_zero, List.setIfInBounds_toArray, List.set_cons_zero, List.set_cons_succ]
                        refine wpAnyH_take (i := 13) (v := ?_) rfl (by kernel_rfl) (by kernel_rfl) (by kernel_rfl) (fun _ _ _ h => h) (Or.inl ⟨by rfl, ?_⟩) hHeld ?_
                        rotate_left
                        · (intro w hSw; (try dsimp only at hSw); go_simp <;> first | done | with_reducible rfl)
                        try simp only [Act.put, List.getElem_toArray, List.getElem_cons_succ, List.getElem_cons_zero, List.setIfInBounds_toArray, List.set_cons_zero, List.set_cons_succ]
                        refine wpAnyH_take (i := 14) (v := undef) rfl (by kernel_rfl) (by kernel_rfl) (by kernel_rfl) (fun _ _ _ h => h) (Or.inr ⟨by rfl, rfl⟩) hHeld ?_
                        try simp only [Act.put, List.getElem_toArray, List.getElem_cons_succ, List.getElem_cons_zero, List.setIfInBounds_toArray, List.set_cons_zero, List.set_cons_succ]
                        refine wpAnyH_take (i := 15) (v := undef) rfl (by kernel_rfl) (by kernel_rfl) (by kernel_rfl) (fun _ _ _ h => h) (Or.inr ⟨by rfl, rfl⟩) hHeld ?_
                        try simp only [Act.put, List.getElem_toArray, List.getElem_cons_succ, List.getElem_cons_zero, List.setIfInBounds_toArray, List.set_cons_zero, List.set_cons_succ]
                        refine wpAnyH_take (i := 16) (v := undef) rfl (by kernel_rfl) (by kernel_rfl) (by kernel_rfl) (fun _ _ _ h => h) (Or.inr ⟨by rfl, rfl⟩) hHeld ?_
                        try simp only [Act.put, List.getElem_toArray, List.getElem_cons_succ, List.getElem_cons_zero, List.setIfInBounds_toArray, List.set_cons_zero, List.set_cons_succ]
                        refine wpAnyH_take (i := 17) (v := undef) rfl (by kernel_rfl) (by kernel_rfl) (by kernel_rfl) (fun _ _ _ h => h) (Or.inr ⟨by rfl, rfl⟩) hHeld ?_
                        try simp only [Act.put, List.getElem_toArray, List.getElem_cons_succ, List.getElem_cons_zero, List.setIfInBounds_toArray, List.set_cons_zero, List.set_cons_succ]
                        refine wpAnyH_take (i := 18) (v := undef) rfl (by kernel_rfl) (by kernel_rfl) (by kernel_rfl) (fun _ _ _ h => h) (Or.inr ⟨by rfl, rfl⟩) hHeld ?_
                        try simp only [Act.put, List.getElem_toArray, List.getElem_cons_succ, List.getElem_cons_zero, List.setIfInBounds_toArray, List.set_cons_zero, List.set_cons_succ]
                        refine wpAnyH_take (i := 19) (v := ?_) rfl (by kernel_rfl) (by kernel_rfl) (by kernel_rfl) (fun _ _ _ h => h) (Or.inl ⟨by rfl, ?_⟩) hHeld ?_
                        rotate_left
                        · (intro w hSw; (try dsimp only at hSw); go_simp <;> first | done | with_reducible rfl)
                        try simp only [Act.put, List.getElem_toArray, List.getElem_cons_succ, List.getElem_cons_zero, List.setIfInBounds_toArray, List.set_cons_zero, List.set_cons_succ]
                        refine wpAnyH_take (i := 20) (v := ?_) rfl (by kernel_rfl) (by kernel_rfl) (by kernel_rfl) (fun _ _ _ h => h) (Or.inl ⟨by rfl, ?_⟩) hHeld ?_
                        rotate_left
                        · (intro w hSw; (try dsimp only at hSw); go_simp <;> first | done | with_reducible rfl)
                        try simp only [Act.put, List.getElem_toArray, List.getElem_cons_succ, List.getElem_cons_zero, List.setIfInBounds_toArray, List.set_cons_zero, List.set_cons_succ]
                        refine wpAnyH_done (by kernel_rfl) ?_ _
                        go_wp2_with fail
                        go_roundg (gk - 1)
                        case measure => omega
                        case rel => exact ⟨c + 1, by omega, by omega, by go_num, fun d hd => by
                          by_cases e : d = c
                          · subst e; rw [← HXX.out, ← HYY.out]
                          · exact HR.out d (by omega), fun h => HZ3.out (by omega), HXD.out⟩
                      · have n1 : (x != y) = true := by simpa using hxy
                        have HXY := Lib.hid hxy
                        clear hxy
                        go_wp2_with fail
                        refine wp_region_held_drew (S := fun w' => w'.cell? ⟨w2.heap.size, 0, none⟩ = some (.int .i64 k) ∧ w'.cell? ⟨w2.heap.size, 1, none⟩ = some (.slice ao L.length cap) ∧ w'.cell? ⟨w2.heap.size, 2, none⟩ = some (.slice (some ⟨w1.heap.size, 0, none⟩) k k)) (by kernel_rfl) (by first | exact ⟨c0, c1, c2⟩ | (dsimp only; exact ⟨c0, c1, c2⟩)) (fun hHeld => ?_)
                        refine wpAnyH_take (i := 0) (v := ?_) rfl (by kernel_rfl) (by kernel_rfl) (by kernel_rfl) (fun _ _ _ h => h) (Or.inl ⟨by rfl, ?_⟩) hHeld ?_
                        rotate_left
                        · (intro w hSw; (try dsimp only at hSw); go_simp <;> first | done | with_reducible rfl)
                        try simp only [Act.put, List.getElem_toArray, List.getElem_cons_zero, List.setIfInBounds_toArray, List.set_cons_zero, List.set_cons_succ]
                        refine wpAnyH_take (i := 1) (v := ?_) rfl (by kernel_rfl) (by kernel_rfl) (by kernel_rfl) (fun _ _ _ h => h) (Or.inl ⟨by rfl, ?_⟩) hHeld ?_
                        rotate_left
                        · (intro w hSw; (try dsimp only at hSw); go_simp <;> first | done | with_reducible rfl)
                        try simp only [Act.put, List.getElem_toArray, List.getElem_cons_succ, List.getElem_cons_zero, List.setIfInBounds_toArray, List.set_cons_zero, List.set_cons_succ]
                        refine wpAnyH_take (i := 2) (v := ?_) rfl (by kernel_rfl) (by kernel_rfl) (by kernel_rfl) (fun _ _ _ h => h) (Or.inl ⟨by rfl, ?_⟩) hHeld ?_
                        rotate_left
                        · (intro w hSw; (try dsimp only at hSw); go_simp <;> first | done | with_reducible rfl)
                        try simp only [Act.put, List.getElem_toArray, List.getElem_cons_succ, List.getElem_cons_zero, List.setIfInBounds_toArray, List.set_cons_zero, List.set_cons_succ]
                        refine wpAnyH_take (i := 4) (v := ?_) rfl (by kernel_rfl) (by kernel_rfl) (by kernel_rfl) (fun _ _ _ h => h) (Or.inl ⟨by rfl, ?_⟩) hHeld ?_
                        rotate_left
                        · (intro w hSw; (try dsimp only at hSw); go_simp <;> first | done | with_reducible rfl)
                        try simp only [Act.put, List.getElem_toArray, List.getElem_cons_succ, List.getElem_cons_zero, List.setIfInBounds_toArray, List.set_cons_zero, List.set_cons_succ]
                        refine wpAnyH_take (i := 5) (v := ?_) rfl (by kernel_rfl) (by kernel_rfl) (by kernel_rfl) (fun _ _ _ h => h) (Or.inl ⟨by rfl, ?_⟩) hHeld ?_
                        rotate_left
                        · (intro w hSw; (try dsimp only at hSw); go_simp <;> first | done | with_reducible rfl)
                        try simp only [Act.put, List.getElem_toArray, List.getElem_cons_succ, List.getElem_cons_zero, List.setIfInBounds_toArray, List.set_cons_zero, List.set_cons_succ]
                        refine wpAnyH_take (i := 6) (v := ?_) rfl (by kernel_rfl) (by kernel_rfl) (by kernel_rfl) (fun _ _ _ h => h) (Or.inl ⟨by rfl, ?_⟩) hHeld ?_
                        rotate_left
                        · (intro w hSw; (try dsimp only at hSw); go_simp <;> first | done | with_reducible rfl)
                        try simp only [Act.put, List.getElem_toArray, List.getElem_cons_succ, List.getElem_cons_zero, List.setIfInBounds_toArray, List.set_cons_zero, List.set_cons_succ]
                        refine wpAnyH_ready (rs := [3]) (by kernel_rfl) (by simp) (AllReadyH.cons rfl (fun K hK => ?_) AllReadyH.nil)
                        go_simp
                        go_at_call 191; (with_reducible refine (WX.out _ HXD.out).mono ?_); rintro e wz ⟨rfl, bz⟩; have HXD := Lib.hid (HXD.out.next bz); clear bz; obtain ⟨d0, d1, d2⟩ := HXD.out.box
                        refine hK.out _ _ (by first | exact ⟨d0, d1, d2⟩ | (dsimp only; exact ⟨d0, d1, d2⟩)) (fun hHeld2 => ?_)
                        clear hK K hHeld
                        rename _ => hHeld
                        try simp only [Act.put, List.getElem_toArray, List.getElem_cons_succ, List.getElem_cons_zero, List.setIfInBounds_toArray, List.set_cons_zero, List.set_cons_succ]
                        refine wpAnyH_ready (rs := [7]) (by kernel_rfl) (by simp) (AllReadyH.cons rfl (fun K hK => ?_) AllReadyH.nil)
                        go_simp
                        go_at_call 191; (with_reducible refine (WY.out _ HXD.out).mono ?_); rintro e wz ⟨rfl, bz⟩; have HXD := Lib.hid (HXD.out.next bz); clear bz; obtain ⟨d0, d1, d2⟩ := HXD.out.box
                        refine hK.out _ _ (by first | exact ⟨d0, d1, d2⟩ | (dsimp only; exact ⟨d0, d1, d2⟩)) (fun hHeld2 => ?_)
                        clear hK K hHeld
                        rename _ => hHeld
                        try simp only [Act.put, List.getElem_toArray, List.getElem_cons_succ, List.getElem_cons_zero, List.setIfInBounds_toArray, List.set_cons_zero, List.set_cons_succ]
                        refine wpAnyH_take (i := 8) (v := ?_) rfl (by kernel_rfl) (by kernel_rfl) (by kernel_rfl) (fun _ _ _ h => h) (Or.inl ⟨by rfl, ?_⟩) hHeld ?_
                        rotate_left
                        · (intro w hSw; (try dsimp only at hSw); go_simp <;> first | done | with_reducible rfl)
                        try simp only [Act.put, List.getElem_toArray, List.getElem_cons_succ, List.getElem_cons_zero, List.setIfInBounds_toArray, List.set_cons_zero, List.set_cons_succ]
                        refine wpAnyH_take (i := 9) (v := ?_) rfl (by kernel_rfl) (by kernel_rfl) (by kernel_rfl) (fun _ _ _ h => h) (Or.inl ⟨by rfl, ?_⟩) hHeld ?_
                        rotate_left
                        · (intro w hSw; (try dsimp only at hSw); go_simp <;> first | done | with_reducible rfl)
                        try simp only [Act.put, List.getElem_toArray, List.getElem_cons_succ, List.getElem_cons_zero, List.setIfInBounds_toArray, List.set_cons_zero, List.set_cons_succ]
                        refine wpAnyH_take (i := 10) (v := undef) rfl (by kernel_rfl) (by kernel_rfl) (by kernel_rfl) (fun _ _ _ h => h) (Or.inr ⟨by rfl, rfl⟩) hHeld ?_
                        try simp only [Act.put, List.getElem_toArray, List.getElem_cons_succ, List.getElem_cons_zero, List.setIfInBounds_toArray, List.set_cons_zero, List.set_cons_succ]
                        refine wpAnyH_take (i := 11) (v := undef) rfl (by kernel_rfl) (by kernel_rfl) (by kernel_rfl) (fun _ _ _ h => h) (Or.inr ⟨by rfl, rfl⟩) hHeld ?_
                        try simp only [Act.put, List.getElem_toArray, List.getElem_cons_succ, List.getElem_cons_zero, List.setIfInBounds_toArray, List.set_cons_zero, List.set_cons_succ]
                        refine wpAnyH_take (i := 12) (v := undef) rfl (by kernel_rfl) (by kernel_rfl) (by kernel_rfl) (fun _ _ _ h => h) (Or.inr ⟨by rfl, rfl⟩) hHeld ?_
                        try simp only [Act.put, List.getElem_toArray, List.getElem_cons_succ, List.getElem_cons_zero, List.setIfInBounds_toArray, List.set_cons_zero, List.set_cons_succ]
                        refine wpAnyH_take (i := 13) (v := undef) rfl (by kernel_rfl) (by kernel_rfl) (by kernel_rfl) (fun _ _ _ h => h) (Or.inr ⟨by rfl, rfl⟩) hHeld ?_
                        try simp only [Act.put, List.getElem_toArray, List.getElem_cons_succ, List.getElem_cons_zero, List.setIfInBounds_toArray, List.set_cons_zero, List.set_cons_succ]
                        refine wpAnyH_take (i := 14) (v := undef) rfl (by kernel_rfl) (by kernel_rfl) (by kernel_rfl) (fun _ _ _ h => h) (Or.inr ⟨by rfl, rfl⟩) hHeld ?_
                        try simp only [Act.put, List.getElem_toArray, List.getElem_cons_succ, List.getElem_cons_zero, List.setIfInBounds_toArray, List.set_cons_zero, List.set_cons_succ]
                        refine wpAnyH_take (i := 15) (v := undef) rfl (by kernel_rfl) (by kernel_rfl) (by kernel_rfl) (fun _ _ _ h => h) (Or.inr ⟨by rfl, rfl⟩) hHeld ?_
                        try simp only [Act.put, List.getElem_toArray, List.getElem_cons_succ, List.getElem_cons_zero, List.setIfInBounds_toArray, List.set_cons_zero, List.set_cons_succ]
                        refine wpAnyH_take (i := 16) (v := undef) rfl (by kernel_rfl) (by kernel_rfl) (by kernel_rfl) (fun _ _ _ h => h) (Or.inr ⟨by rfl, rfl⟩) hHeld ?_
                        try simp only [Act.put, List.getElem_toArray, List.getElem_cons_succ, List.getElem_cons_zero, List.setIfInBounds_toArray, List.set_cons_zero, List.set_cons_succ]
                        refine wpAnyH_take (i := 17) (v := undef) rfl (by kernel_rfl) (by kernel_rfl) (by kernel_rfl) (fun _ _ _ h => h) (Or.inr ⟨by rfl, rfl⟩) hHeld ?_
                        try simp only [Act.put, List.getElem_toArray, List.getElem_cons_succ, List.getElem_cons_zero, List.setIfInBounds_toArray, List.set_cons_zero, List.set_cons_succ]
                        refine wpAnyH_take (i := 18) (v := undef) rfl (by kernel_rfl) (by kernel_rfl) (by kernel_rfl) (fun _ _ _ h => h) (Or.inr ⟨by rfl, rfl⟩) hHeld ?_
                        try simp only [Act.put, List.getElem_toArray, List.getElem_cons_succ, List.getElem_cons_zero, List.setIfInBounds_toArray, List.set_cons_zero, List.set_cons_succ]
                        refine wpAnyH_take (i := 19) (v := undef) rfl (by kernel_rfl) (by kernel_rfl) (by kernel_rfl) (fun _ _ _ h => h) (Or.inr ⟨by rfl, rfl⟩) hHeld ?_
                        try simp only [Act.put, List.getElem_toArray, List.getElem_cons_succ, List.getElem_cons_zero, List.setIfInBounds_toArray, List.set_cons_zero, List.set_cons_succ]
                        refine wpAnyH_take (i := 20) (v := ?_) rfl (by kernel_rfl) (by kernel_rfl) (by kernel_rfl) (fun _ _ _ h => h) (Or.inl ⟨by rfl, ?_⟩) hHeld ?_
                        rotate_left
                        · (intro w hSw; (try dsimp only at hSw); go_simp <;> first | done | with_reducible rfl)
                        try simp only [Act.put, List.getElem_toArray, List.getElem_cons_succ, List.getElem_cons_zero, List.setIfInBounds_toArray, List.set_cons_zero, List.set_cons_succ]
                        refine wpAnyH_done (by kernel_rfl) ?_ _
                        have HNO := Lib.hid (cityB_no3 (L := L) (i := a) (k := c) (by rw [← HE.out]; exact hak) (by rw [← HE.out]; exact hck) (by rw [← HE.out, ← HXX.out, ← HYY.out]; exact HXY.out))
                        obtain ⟨⟨u0, g0⟩, ⟨u1, g1⟩, ⟨u2, g2⟩, hfr⟩ := HXD.out.res
                        have f0 := hfr 0
                        have f1 := hfr 1
                        have f2 := hfr 2
                        clear hfr
                        go_wp2_with fail
                        refine bodyPost_ret (v := .tuple #[.agg #[.int .i64 0, .slice none 0 0, .slice none 0 0], .bool false]) (by simp [results, Try.results142, g0, g1, g2, go_sem]) rfl ?_
                        exact saysC_no HNO.out (by
                          repeat (refine Below.setCell ?_ (by simp) _)
                          exact HXD.out.below)
                  · obtain rfl : c = a + 1 := by omega
                    clear hat
                    go_wp2_with fail
                    go_roundg (g1 - 1)
                    case measure => omega
                    case rel => exact ⟨a + 1, by omega, by omega, by go_num, fun c hc d hd => by
                      by_cases e : c = a
                      · subst e; exact HR.out d (by omega)
                      · exact HS.out c (by omega) d hd, fun c hc => by
                      by_cases e : c = a
                      · subst e; exact HZ3.out (by omega)
                      · exact HZ.out c (by omega), HX.out⟩
              · obtain rfl : a = k := by omega
                have HYES := Lib.hid (cityB_half (L := L) (by rw [← HE.out]; exact HSQ.out) HA.out (by rw [← HE.out]; exact HS.out) (by rw [← HE.out]; exact HZ.out))
                obtain ⟨⟨u0, e0⟩, ⟨u1, e1⟩, ⟨u2, e2⟩, hfr⟩ := HC.out.res
                obtain ⟨c0, c1, c2⟩ := HC.out.box
                have f0 := hfr 0
                have f1 := hfr 1
                have f2 := hfr 2
                clear hfr
                go_wp2_with fail
                refine bodyPost_ret (v := .tuple #[.agg #[.int .i64 a, .slice ao L.length cap, .slice (some ⟨w1.heap.size, 0, none⟩) a a], .bool true]) (by simp [results, Try.results142, e0, e1, e2, go_sem]) rfl ?_
                refine saysC_yes HYES.out HE.out ⟨?_, by simpa using HC.out.lt, Nat.le_of_lt HC.out.ge, ?_⟩
                · repeat (refine Below.setCell ?_ (by simp) _)
                  exact HC.out.below
                · have hge := HC.out.ge
                  generalize hX : World.setCell _ _ _ = X
                  have hT : Turned w.heap.size (w.heap.size + 1) wr X := by
                    rw [← hX]
                    repeat (refine Turned.setCell ?_ (by simp) (by simp) _)
                    exact Turned.refl _ _ _
                  exact ⟨fun i hi => keep_cell' (HC.out.arr.cells i hi) hT (Or.inr hge), fun i => by
                    rw [World.frozen?_of_block (w := wr) (a := ⟨w1.heap.size, i, none⟩) (hT.block _ HC.out.lt (Or.inr hge))]
                    exact HC.out.arr.free i⟩
      · have HNO := Lib.hid (cityB_no1 (L := L) (by rw [← HE.out, ← HQK.out]; exact hsq))
        have hne : ((q : Int) != (L.length : Int)) = true := by simp; omega
        clear hsq
        rcases hgo2 with d1 | ⟨d1, d2⟩
        all_goals
          go_wp2_with fail
          refine bodyPost_ret (v := .tuple #[.agg #[.int .i64 0, .slice none 0 0, .slice none 0 0], .bool false]) (by simp [results, Try.results142, go_sem]) rfl ?_
          exact saysC_no HNO.out (by
            repeat (refine Below.setCell ?_ (by simp) _)
            exact B0.out _)
end Go.Proofs.Ytknonlbbakbpiaa
