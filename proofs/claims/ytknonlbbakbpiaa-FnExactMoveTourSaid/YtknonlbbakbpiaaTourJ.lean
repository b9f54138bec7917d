/- How long a tour is: the program's side, whole. -/
import Derived.Test.YtknonlbbakbpiaaTourT
import Derived.Test.YtknonlbbakbpiaaTourL
import Derived.Test.YtknonlbbakbpiaaCity
namespace Go.Proofs.Ytknonlbbakbpiaa
open Go.RowKit Go.ChangeShapes Go.WideShapes

theorem isTour_is (t : Bool) (n : Nat) (v pv u : Value) (T : List Int) (w : World) (hu : IL w u T) (n1 : 1 ≤ n) (n2 : n ≤ 10) (hv : ∃ ao a cap, v = .slice ao a cap) (hp : ∃ ao a cap, pv = .slice ao a cap) (ht : tourB T n = t) :
    Calls Try.prog 143 #[.agg #[.int .i64 n, v, pv], u] w (Says t w) := by subst ht; exact isTour_any n v pv u T w hu n1 n2 hv hp
theorem CitAt.start {w w1 : World} {k B : Nat} {v a b c : Value} {E F : TypeId} (hr : RowAt (w.alloc (.cells #[a, b, c] E)) B (List.replicate k 0) w1) : CitAt w k v B w1.heap.size (w1.alloc (.cells #[.int .i64 k, v, .slice (some ⟨B, 0, none⟩) k k] F)) := by
  have R0 := Res3.new w a b c E
  have hs : w.heap.size ≤ (w.alloc (.cells #[a, b, c] E)).heap.size := by simp
  have b1 : Below w.heap.size w w1 := (below_alloc w _).trans (hr.below.mono hs)
  have hge := hr.ge
  exact ⟨b1.trans ((below_alloc w1 _).mono b1.size), (R0.keep hr.below R0.lt).keep (below_alloc w1 _) (R0.keep hr.below R0.lt).lt, hr.arr.below (below_alloc w1 _) hr.lt, by have := hr.lt; simp; omega, by simp at hge; omega, Box3.mk' w1 _ _ _ _⟩
set_option maxHeartbeats 4000000 in
theorem tourIn_yes (k : Nat) (v u : Value) (L T : List Int) (w : World) (hv : IL w v L) (hu : IL w u T) (hn : L.length ≤ 1048576) (h : cityB L = true) (hk : rootN L.length = k) (ht : tourB T k = true) :
    Calls Try.prog 77 #[v, u] w (SaysCit k v w) := by
  have HV := Lib.hid hv
  have HU := Lib.hid hu
  have H := Lib.hid h
  have HK := Lib.hid hk
  have HT := Lib.hid ht
  have hr := rootN_in L.length
  rw [hk] at hr
  obtain ⟨n1, n2⟩ := hr
  obtain ⟨ao, cap, rfl⟩ := hv.long
  obtain ⟨ao2, cap2, rfl⟩ := hu.long
  clear hv hu h hk ht
  go_enter Try.func77, Try.ntmps77
  go_wp2_with fail
  go_at_call 142; refine (citiesOf_yes k _ L _ (VL.below HV.out (below_alloc w _) (Nat.le_refl _)) hn H.out HK.out).mono ?_; rintro e w1 ⟨B, rfl, hr⟩
  have C0 := Lib.hid (CitAt.start (v := .slice ao L.length cap) (F := 106) hr)
  clear hr
  go_wp2_with fail
  go_at_call 143; refine (isTour_is true k _ _ _ T _ (VL.below HU.out C0.out.below (Nat.le_refl _)) n1 n2 ⟨_, _, _, rfl⟩ ⟨_, _, _, rfl⟩ HT.out).mono ?_; rintro e w2 ⟨rfl, b⟩
  have HC := Lib.hid (C0.out.next b)
  clear b
  obtain ⟨⟨u0, e0⟩, ⟨u1, e1⟩, ⟨u2, e2⟩, hfr⟩ := HC.out.res
  obtain ⟨c0, c1, c2⟩ := HC.out.box
  have f0 := hfr 0
  have f1 := hfr 1
  have f2 := hfr 2
  clear hfr
  go_wp2_with fail
  refine bodyPost_ret (v := .tuple #[.agg #[.int .i64 k, .slice ao L.length cap, .slice (some ⟨B, 0, none⟩) k k], .bool true]) (by simp [results, Try.results77, e0, e1, e2, go_sem]) rfl ?_
  refine ⟨B, rfl, ⟨?_, by simpa using HC.out.lt, Nat.le_of_lt HC.out.ge, ?_⟩⟩
  · repeat (refine Below.setCell ?_ (by simp) _)
    exact HC.out.below
  · have hge := HC.out.ge
    generalize hX : World.setCell _ _ _ = X
    have hT : Turned w.heap.size (w.heap.size + 1) w2 X := by
      rw [← hX]
      repeat (refine Turned.setCell ?_ (by simp) (by simp) _)
      exact Turned.refl _ _ _
    exact ⟨fun i hi => keep_cell' (HC.out.arr.cells i hi) hT (Or.inr hge), fun i => by
      rw [World.frozen?_of_block (w := w2) (a := ⟨B, i, none⟩) (hT.block _ HC.out.lt (Or.inr hge))]
      exact HC.out.arr.free i⟩
set_option maxHeartbeats 4000000 in
theorem tourIn_no1 (v u : Value) (L T : List Int) (w : World) (hv : IL w v L) (hu : IL w u T) (hn : L.length ≤ 1048576) (h : cityB L = false) :
    Calls Try.prog 77 #[v, u] w (SaysNoCit w) := by
  have HV := Lib.hid hv
  have H := Lib.hid h
  obtain ⟨ao, cap, rfl⟩ := hv.long
  obtain ⟨ao2, cap2, rfl⟩ := hu.long
  have R0 := Lib.hid (Res3.new w (.int .i64 0) (.slice none 0 0) (.slice none 0 0) 106)
  clear hv hu h
  go_enter Try.func77, Try.ntmps77
  go_wp2_with fail
  go_at_call 142; refine (citiesOf_no _ L _ (VL.below HV.out (below_alloc w _) (Nat.le_refl _)) hn H.out).mono ?_; rintro e w1 ⟨rfl, hb⟩
  have R1 := Lib.hid ((R0.out.keep hb R0.out.lt).keep (below_alloc w1 (.cells #[.int .i64 0, .slice none 0 0, .slice none 0 0] 106)) (R0.out.keep hb R0.out.lt).lt)
  have B1 : Hid (Below w.heap.size w w1) := Lib.hid ((below_alloc w _).trans (hb.mono (by simp)))
  clear hb
  obtain ⟨⟨u0, e0⟩, ⟨u1, e1⟩, ⟨u2, e2⟩, hfr⟩ := R1.out
  have f0 := hfr 0
  have f1 := hfr 1
  have f2 := hfr 2
  clear hfr
  go_wp2_with fail
  refine bodyPost_ret (v := .tuple #[.agg #[.int .i64 0, .slice none 0 0, .slice none 0 0], .bool false]) (by simp [results, Try.results77, e0, e1, e2, go_sem]) rfl ?_
  refine ⟨rfl, ?_⟩
  repeat (refine Below.setCell ?_ (by simp) _)
  exact B1.out.trans ((below_alloc w1 _).mono B1.out.size)
set_option maxHeartbeats 4000000 in
theorem tourIn_no2 (k : Nat) (v u : Value) (L T : List Int) (w : World) (hv : IL w v L) (hu : IL w u T) (hn : L.length ≤ 1048576) (h : cityB L = true) (hk : rootN L.length = k) (ht : tourB T k = false) :
    Calls Try.prog 77 #[v, u] w (SaysNoCit w) := by
  have HV := Lib.hid hv
  have HU := Lib.hid hu
  have H := Lib.hid h
  have HK := Lib.hid hk
  have HT := Lib.hid ht
  have hr := rootN_in L.length
  rw [hk] at hr
  obtain ⟨n1, n2⟩ := hr
  obtain ⟨ao, cap, rfl⟩ := hv.long
  obtain ⟨ao2, cap2, rfl⟩ := hu.long
  clear hv hu h hk ht
  go_enter Try.func77, Try.ntmps77
  go_wp2_with fail
  go_at_call 142; refine (citiesOf_yes k _ L _ (VL.below HV.out (below_alloc w _) (Nat.le_refl _)) hn H.out HK.out).mono ?_; rintro e w1 ⟨B, rfl, hr⟩
  have C0 := Lib.hid (CitAt.start (v := .slice ao L.length cap) (F := 106) hr)
  clear hr
  go_wp2_with fail
  go_at_call 143; refine (isTour_is false k _ _ _ T _ (VL.below HU.out C0.out.below (Nat.le_refl _)) n1 n2 ⟨_, _, _, rfl⟩ ⟨_, _, _, rfl⟩ HT.out).mono ?_; rintro e w2 ⟨rfl, b⟩
  have HC := Lib.hid (C0.out.next b)
  clear b
  obtain ⟨⟨u0, e0⟩, ⟨u1, e1⟩, ⟨u2, e2⟩, hfr⟩ := HC.out.res
  have f0 := hfr 0
  have f1 := hfr 1
  have f2 := hfr 2
  clear hfr
  go_wp2_with fail
  refine bodyPost_ret (v := .tuple #[.agg #[.int .i64 0, .slice none 0 0, .slice none 0 0], .bool false]) (by simp [results, Try.results77, e0, e1, e2, go_sem]) rfl ?_
  refine ⟨rfl, ?_⟩
  repeat (refine Below.setCell ?_ (by simp) _)
  exact HC.out.below
theorem tourIn_no (v u : Value) (L T : List Int) (w : World) (hv : IL w v L) (hu : IL w u T) (hn : L.length ≤ 1048576) (h : validB L T = false) :
    Calls Try.prog 77 #[v, u] w (SaysNoCit w) := by
  unfold validB at h
  cases h1 : cityB L with
  | false => exact tourIn_no1 v u L T w hv hu hn h1
  | true =>
    rw [h1, Bool.true_and] at h
    exact tourIn_no2 _ v u L T w hv hu hn h1 rfl h
end Go.Proofs.Ytknonlbbakbpiaa
