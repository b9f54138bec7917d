/- A list without an element, in place: its block and room are told. -/
import Derived.Test.YtnakpfbeeekmiaaWth
namespace Go.Proofs.Ytnakpfbeeekmiaa
open Go.RowKit Go.ChangeShapes Go.WideShapes

/-- What without leaves: in the same block, with the same room. -/
def WithoutK (g cap : Nat) (L : List Nat) (w : World) (e : Ending) (w' : World) : Prop := e = .returned (.slice (some ⟨g, 0, none⟩) L.length cap) ∧ Turned g (g + 1) w w' ∧ Arr (Value.int .i64) 0 w' g 0 (intsN L) ∧ ∃ cur, w'.heap[g]? = some (.cells cur 2 (0, 0)) ∧ cur.size = cap
set_option maxHeartbeats 1000000 in
theorem without2_any (n : Nat) (h1 : 1 ≤ n) (g cap : Nat) (cur : Array Value) (Y : List Nat) (x : Nat) (w : World) (hY : ∀ y ∈ Y, y < n) (hs : Y.length ≤ 1048576) (hg : w.heap[g]? = some (.cells cur 2 (0, 0))) (hn : Y.length ≤ cap) (hsz : cur.size = cap) (hA : Arr (Value.int .i64) 0 w g 0 (intsN Y)) :
    Calls Try.prog 92 #[.slice (some ⟨g, 0, none⟩) Y.length cap, .int .i64 (x : Int)] w (WithoutK g cap (Y.filter fun z => !(z == x)) w) := by
  have hlt : g < w.heap.size := (Array.getElem?_eq_some_iff.1 hg).1
  have EG := Lib.hid (enters_of Try.func116 (by kernel_rfl) rfl)
  have hb := below_alloc w (.cells #[.int .i64 (x : Int)] 2)
  have A0 := Lib.hid (hA.below hb hlt)
  have C0 := World.cell?_alloc_new w #[.int .i64 (x : Int)] 2 0
  have HP : Hid (PredOf 116 #[.pointer (some ⟨w.heap.size, 0, none⟩)] (fun z => z == x) n g (w.alloc (.cells #[.int .i64 (x : Int)] 2))) := Lib.hid fun W t z _ => same_any z x w.heap.size W (by
    rw [World.cell?_of_block (w := w.alloc (.cells #[.int .i64 (x : Int)] 2)) (a := ⟨w.heap.size, 0, none⟩) (t.block w.heap.size (by simp) (by omega))]; exact C0)
  have HG : Hid ((w.alloc (.cells #[.int .i64 (x : Int)] 2)).heap[g]? = some (.cells cur 2 (0, 0))) := Lib.hid ((Below.heap_alloc w _ g hlt).trans hg)
  have HB := Lib.hid hb
  have HLT : Hid (g < (w.alloc (.cells #[.int .i64 (x : Int)] 2)).heap.size) := Lib.hid (by simp; omega)
  clear hA hg C0 hb
  go_enter Try.func92, Try.ntmps92
  go_wp2_with fail
  go_at_call 115; refine (delB_any n h1 116 _ (fun z => z == x) g 0 cap Y _ hY hs hn EG.out HP.out A0.out HLT.out).mono ?_; rintro e w2 ⟨⟨rfl, t, a⟩, k⟩
  obtain ⟨cur', hg', hs'⟩ := k _ _ HG.out
  have T : Hid (Turned g (g + 1) w w2) := Lib.hid ((Turned.of_below HB.out (Nat.le_refl _)).trans t)
  have A2 := Lib.hid a
  have G2 := Lib.hid hg'
  have S2 : Hid (cur'.size = cap) := Lib.hid (by omega)
  clear hg' a t k
  go_wp2_with fail
  refine bodyPost_ret (results_tmp rfl _ _ _) rfl ?_
  exact ⟨rfl, T.out, A2.out, cur', G2.out, S2.out⟩
end Go.Proofs.Ytnakpfbeeekmiaa
