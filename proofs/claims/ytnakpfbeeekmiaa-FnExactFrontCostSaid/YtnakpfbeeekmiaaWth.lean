/- A list of indices that grows, without one of them. -/
import Derived.Test.YtnakpfbeeekmiaaDelN
import Derived.Test.YtnakpfbeeekmiaaBox
namespace Go.Proofs.Ytnakpfbeeekmiaa
open Go.RowKit Go.ChangeShapes Go.WideShapes

/-- A row that grows, of indices: where it lies. -/
theorem Grows.at {B : Nat} {v : Value} {Y : List Nat} {w : World} (h : Grows (Value.int .i64) 2 B v (intsN Y) w) (h0 : 0 < Y.length) :
    ∃ g cap cur, v = .slice (some ⟨g, 0, none⟩) Y.length cap ∧ B ≤ g ∧ g < w.heap.size ∧ w.heap[g]? = some (.cells cur 2 (0, 0)) ∧ Y.length ≤ cap ∧ cap ≤ maxLen ∧ cur.size = cap ∧ Arr (Value.int .i64) 0 w g 0 (intsN Y) := by
  have hs := h.si (d := (0 : Int))
  obtain ⟨_, h2⟩ := h
  rw [intsN_len] at h2
  rcases h2 with ⟨_, hz⟩ | ⟨g, cap, cur, rfl, hB, hg, hn, hc, hsz, _⟩
  · omega
  · have hlt := (Array.getElem?_eq_some_iff.1 hg).1
    refine ⟨g, cap, cur, rfl, hB, hlt, hg, hn, hc, by omega, ?_⟩
    obtain ⟨_, hz | ⟨b, off, c, e, _, _, _, hf, hcell⟩⟩ := hs
    · have := congrArg List.length hz.1
      rw [intsN_len, List.length_nil] at this
      omega
    · injection e with e1 _ _
      injection e1 with e1
      injection e1 with e1 e2 _
      subst e1 e2
      exact ⟨hcell, hf⟩
/-- A row told by its cells grows on. -/
theorem Grows.of {B g cap : Nat} {L : List Int} {w : World} {cur : Array Value} (hB : B ≤ g) (hg : w.heap[g]? = some (.cells cur 2 (0, 0))) (hn : L.length ≤ cap) (hc : cap ≤ maxLen) (hs : cur.size = cap) (hA : Arr (Value.int .i64) 0 w g 0 L) :
    Grows (Value.int .i64) 2 B (.slice (some ⟨g, 0, none⟩) L.length cap) L w := by
  refine ⟨by simp, Or.inr ⟨g, cap, cur, rfl, hB, hg, hn, hc, by omega, ?_⟩⟩
  apply List.ext_getElem?
  intro i
  rw [Nat.mul_one, List.getElem?_take]
  by_cases hi : i < L.length
  · rw [if_pos hi]
    have h := hA.cells i hi
    rw [Nat.zero_add] at h
    simp only [World.cell?, hg] at h
    simp only [Option.isSome_none, Bool.false_eq_true, if_false] at h
    rw [Array.getElem?_toList, h]
    simp [List.getD, hi]
  · rw [if_neg hi]
    simp [hi]
/-- The test for one integer. -/
theorem same_any (x y c : Nat) (w : World) (h : w.cell? ⟨c, 0, none⟩ = some (.int .i64 (y : Int))) :
    Calls Try.prog 116 #[.int .i64 x, .pointer (some ⟨c, 0, none⟩)] w (fun e w' => e = .returned (.bool (x == y)) ∧ ∃ q, w' = w.drewN q) := by
  have e0 : ((x : Int) == (y : Int)) = (x == y) := by rw [Bool.eq_iff_iff]; simp only [beq_iff_eq]; omega
  have E0 := Lib.hid e0
  clear e0
  go_enter Try.func116, Try.ntmps116
  go_wp2_with fail
  go_ret
  exact ⟨by show Ending.returned (.bool ((x : Int) == (y : Int))) = _; rw [E0.out], 0, rfl⟩
/-- What without leaves: in the same block. -/
def Without (B : Nat) (v : Value) (L : List Nat) (w : World) (e : Ending) (w' : World) : Prop := ∃ y, e = .returned y ∧ Grows (Value.int .i64) 2 B y (intsN L) w' ∧ y.ownBlock = v.ownBlock ∧ ∃ g, v.ownBlock = some g ∧ Turned g (g + 1) w w'
set_option maxHeartbeats 1000000 in
theorem without_any (n : Nat) (h1 : 1 ≤ n) (B : Nat) (v : Value) (Y : List Nat) (x : Nat) (w : World) (hY : ∀ y ∈ Y, y < n) (h0 : 0 < Y.length) (hs : Y.length ≤ 1048576) (hG : Grows (Value.int .i64) 2 B v (intsN Y) w) :
    Calls Try.prog 92 #[v, .int .i64 (x : Int)] w (Without B v (Y.filter fun z => !(z == x)) w) := by
  obtain ⟨g, cap, cur, rfl, hB, hlt, hg, hn, hc, hsz, hA⟩ := hG.at h0
  have EG := Lib.hid (enters_of Try.func116 (by kernel_rfl) rfl)
  have hb := below_alloc w (.cells #[.int .i64 (x : Int)] 2)
  have A0 := Lib.hid (hA.below hb hlt)
  have C0 := World.cell?_alloc_new w #[.int .i64 (x : Int)] 2 0
  have HP : Hid (PredOf 116 #[.pointer (some ⟨w.heap.size, 0, none⟩)] (fun z => z == x) n g (w.alloc (.cells #[.int .i64 (x : Int)] 2))) := Lib.hid fun W t z _ => same_any z x w.heap.size W (by
    rw [World.cell?_of_block (w := w.alloc (.cells #[.int .i64 (x : Int)] 2)) (a := ⟨w.heap.size, 0, none⟩) (t.block w.heap.size (by simp) (by omega))]; exact C0)
  have HG : Hid ((w.alloc (.cells #[.int .i64 (x : Int)] 2)).heap[g]? = some (.cells cur 2 (0, 0))) := Lib.hid ((Below.heap_alloc w _ g hlt).trans hg)
  have HB := Lib.hid hb
  have HLT : Hid (g < (w.alloc (.cells #[.int .i64 (x : Int)] 2)).heap.size) := Lib.hid (by simp; omega)
  clear hA hG hg C0 hb
  go_enter Try.func92, Try.ntmps92
  go_wp2_with fail
  go_at_call 115; refine (delB_any n h1 116 _ (fun z => z == x) g 0 cap Y _ hY hs hn EG.out HP.out A0.out HLT.out).mono ?_; rintro e w2 ⟨⟨rfl, t, a⟩, k⟩
  obtain ⟨cur', hg', hs'⟩ := k _ _ HG.out
  have hle : (Y.filter fun z => !(z == x)).length ≤ Y.length := List.length_filter_le _ _
  have R := Lib.hid (Grows.of (L := intsN (Y.filter fun z => !(z == x))) hB hg' (by rw [intsN_len]; omega) hc (by omega) a)
  have T : Hid (Turned g (g + 1) w w2) := Lib.hid ((Turned.of_below HB.out (Nat.le_refl _)).trans t)
  rw [intsN_len] at R
  clear hg' a t k
  go_wp2_with fail
  refine bodyPost_ret (results_tmp rfl _ _ _) rfl ?_
  exact ⟨_, rfl, R.out, rfl, g, rfl, T.out⟩
end Go.Proofs.Ytnakpfbeeekmiaa
