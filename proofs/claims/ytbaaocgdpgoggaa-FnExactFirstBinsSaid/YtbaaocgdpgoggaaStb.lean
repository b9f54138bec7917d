/- slices.SortStableFunc of fewer than 20 indices: they are put in order by insertion. -/
import Derived.Test.YtbaaocgdpgoggaaInsP
import Derived.Test.YtbaaocgdpgoggaaIns0
import Derived.Test.YtbaaocgdpgoggaaGrw
namespace Go.Proofs.Ytbaaocgdpgoggaa
open Go.RowKit Go.ChangeShapes Go.WideShapes Go.Sort

def encF {n : Nat} (x : Fin n) : Value := .int .i64 ((x.val : Nat) : Int)
theorem turnedE {α : Type} [Inhabited α] {enc : α → Value} {w : World} {g off n : Nat} {d : Array α} {os : Array Obj} : Turned g (g + 1) w (grow (putRow enc (Sort.ahead w n) g off d) os) := by
  refine ⟨rfl, rfl, rfl, by simp, fun b hb hne => ?_⟩
  rw [heap_grow_old _ os (by simpa using hb)]
  show (w.heap.modify g _)[b]? = w.heap[b]?
  rw [Array.getElem?_modify, if_neg (by omega)]
theorem numL_ints (n : Nat) : numL n = intsN (List.range n) := rfl
section
variable {n : Nat} [Inhabited (Fin n)]
theorem holdsE {w : World} {g off : Nat} (h : Arr (Value.int .i64) 0 w g off (numL n)) : Holds encF w g off (finA n) := by
  intro j hj
  rw [finA_size] at hj
  refine ⟨?_, h.free _⟩
  rw [h.cells j (by rw [numL_len]; exact hj), show (numL n).getD j 0 = (j : Int) from allF_at hj]
  have e : ((finA n)[j]!).val = j := by rw [← valL_at (by rw [finA_size]; exact hj), valL_finA]; simp [List.getD, hj]
  unfold encF
  rw [e]
theorem arrE {w : World} {g off m : Nat} {D : Array (Fin n)} {os : Array Obj} (h : Arr (Value.int .i64) 0 w g off (numL n)) (hs : D.size = n) (hg : g < w.heap.size) :
    Arr (Value.int .i64) 0 (grow (putRow encF (Sort.ahead w m) g off D) os) g off (intsN (valL D)) := by
  have h1 : Holds encF (putRow encF (Sort.ahead w m) g off D) g off D := holds_putRow _ _ _ _ (finA n) D (holds_ahead _ _ m _ _ _ (holdsE h)) (by rw [finA_size, hs])
  refine ⟨fun i hi => ?_, fun i => ?_⟩
  · rw [intsN_len, valL_len] at hi
    rw [cell?_grow _ os _ (by simpa using hg), (h1 i hi).1, intsN_at (by rw [valL_len]; exact hi), valL_at hi]
    rfl
  · rw [frozen?_grow _ os _ (by simpa using hg), frozen?_putRow]
    exact h.free i
/-- What is asked of a comparison: in every world in which the row alone has turned it answers so; it reads and draws. -/
def CmpAt (g : Nat) (cb : Array Value) (cf : Nat → Nat → Int) (n blk : Nat) (w : World) : Prop :=
  ∀ W, Turned blk (blk + 1) w W → ∀ x y : Nat, x < n → y < n → Calls Try.prog g (#[.int .i64 (x : Int), .int .i64 (y : Int)] ++ cb) W fun e w' => e = .returned (.int .i64 (cf x y)) ∧ ∃ q, w' = W.drewN q
def ltC (cf : Nat → Nat → Int) (x y : Nat) : Bool := decide (cf x y < 0)
/-- The indices are in order. -/
def PutO (blk off : Nat) (Y : List Nat) (w : World) (e : Ending) (w' : World) : Prop := e = .returned (.tuple #[]) ∧ Turned blk (blk + 1) w w' ∧ Arr (Value.int .i64) 0 w' blk off (intsN Y)
theorem insC_any (g : Nat) (cb : Array Value) (cf : Nat → Nat → Int) (blk off cap : Nat) (w : World) (h1 : 1 ≤ n) (h2 : n ≤ 1048576)
    (eg : ∀ args w, (callFunc g args).run Try.prog w = .ok (.enter g args) w) (hcmp : CmpAt g cb cf n blk w) (hA : Arr (Value.int .i64) 0 w blk off (numL n)) (hg : blk < w.heap.size) :
    Calls Try.prog 218 #[.slice (some ⟨blk, off, none⟩) n cap, .int .i64 0, .int .i64 n, .func (.func g) #[] cb] w (PutO blk off (ordN (ltC cf) n) w) := by
  have hc : CmpReads Try.prog g cb (encF (n := n)) (fun x y => cf x.val y.val) blk off (finA n).size w := fun m os dk _ x y => hcmp _ turnedE x.val y.val x.isLt y.isLt
  have R : Row1 (encF (n := n)) w blk off (finA n) := ⟨fun _ => rfl, holdsE hA, hg⟩
  have h := Any.insertionSortCmpFunc_s Try.insC encF (fun x y => cf x.val y.val) g cb blk off cap 0 n (finA n) (finA n) w w eg hc.lays R rfl (SW.start (holdsE hA)) (Nat.zero_le _) (by rw [finA_size]; exact Nat.le_refl _) (by rw [finA_size]; omega)
  rw [finA_size] at h
  refine h.mono fun e w' ⟨he, m, os, hw⟩ => ?_
  subst hw
  have hv := valL_sort (n := n) (ltC cf) (ltOf fun x y => cf x.val y.val) (fun x y => rfl) h1
  have hs : (insertionSort (ltOf fun (x y : Fin n) => cf x.val y.val) (finA n) 0 n).size = n := by
    have := congrArg List.length hv
    rwa [valL_len, ordN_len] at this
  refine ⟨he, turnedE, ?_⟩
  rw [← hv]
  exact arrE hA hs hg
end
theorem insC_is (n g : Nat) (cb : Array Value) (cf : Nat → Nat → Int) (blk off cap : Nat) (w : World) (h1 : 1 ≤ n) (h2 : n ≤ 1048576)
    (eg : ∀ args w, (callFunc g args).run Try.prog w = .ok (.enter g args) w) (hcmp : CmpAt g cb cf n blk w) (hA : Arr (Value.int .i64) 0 w blk off (numL n)) (hg : blk < w.heap.size) :
    Calls Try.prog 218 #[.slice (some ⟨blk, off, none⟩) n cap, .int .i64 0, .int .i64 n, .func (.func g) #[] cb] w (PutO blk off (ordN (ltC cf) n) w) := by
  haveI : Inhabited (Fin n) := ⟨⟨0, h1⟩⟩
  exact insC_any g cb cf blk off cap w h1 h2 eg hcmp hA hg
set_option maxHeartbeats 1000000 in
theorem stableC_any (n g : Nat) (cb : Array Value) (cf : Nat → Nat → Int) (blk off cap : Nat) (w : World) (h1 : 1 ≤ n) (h2 : n < 20)
    (eg : ∀ args w, (callFunc g args).run Try.prog w = .ok (.enter g args) w) (hcmp : CmpAt g cb cf n blk w) (hA : Arr (Value.int .i64) 0 w blk off (numL n)) (hg : blk < w.heap.size) :
    Calls Try.prog 203 #[.slice (some ⟨blk, off, none⟩) n cap, .int .i64 n, .func (.func g) #[] cb] w (PutO blk off (ordN (ltC cf) n) w) := by
  have H := Lib.hid (insC_is n g cb cf blk off cap w h1 (by omega) eg hcmp hA hg)
  have d1 : decide ((20 : Int) ≤ (n : Int)) = false := by simp; omega
  have d2 : decide ((20 : Int) < (n : Int)) = false := by simp; omega
  clear eg hcmp hA
  go_enter Try.func203, Try.ntmps203
  go_wp2_with fail
  refine wp_loop_rounds 1 ?_
  rw [rounds_succ]
  go_wp2_with fail
  go_at_call 218; refine (H.out).mono ?_; rintro e w2 ⟨rfl, t, a⟩
  have T := Lib.hid t
  have A := Lib.hid a
  clear t a
  go_wp2_with fail
  refine wp_loop_rounds 1 ?_
  rw [rounds_succ]
  go_wp2_with fail
  refine bodyPost_ret (v := .tuple #[]) (by simp [results, Try.results203, go_sem]) rfl ?_
  exact ⟨rfl, T.out, A.out⟩
theorem sortStable_any (n g : Nat) (cb : Array Value) (cf : Nat → Nat → Int) (blk off cap : Nat) (w : World) (h1 : 1 ≤ n) (h2 : n < 20)
    (eg : ∀ args w, (callFunc g args).run Try.prog w = .ok (.enter g args) w) (hcmp : CmpAt g cb cf n blk w) (hA : Arr (Value.int .i64) 0 w blk off (numL n)) (hg : blk < w.heap.size) :
    Calls Try.prog 160 #[.slice (some ⟨blk, off, none⟩) n cap, .func (.func g) #[] cb] w (PutO blk off (ordN (ltC cf) n) w) := by
  have H := Lib.hid (stableC_any n g cb cf blk off cap w h1 h2 eg hcmp hA hg)
  clear eg hcmp hA
  go_enter Try.func160, Try.ntmps160
  go_wp2_with fail
  go_at_call 203; refine (H.out).mono ?_; rintro e w2 ⟨rfl, t, a⟩
  have T := Lib.hid t
  have A := Lib.hid a
  clear t a
  go_wp2_with fail
  refine bodyPost_ret (v := .tuple #[]) (by simp [results, Try.results160, go_sem]) rfl ?_
  exact ⟨rfl, T.out, A.out⟩
/-- What is asked of a comparison ahead of the row: in every world that has grown of this one. -/
def CmpOf (g : Nat) (cb : Array Value) (cf : Nat → Nat → Int) (n : Nat) (w : World) : Prop :=
  ∀ W, Below w.heap.size w W → ∀ x y : Nat, x < n → y < n → Calls Try.prog g (#[.int .i64 (x : Int), .int .i64 (y : Int)] ++ cb) W fun e w' => e = .returned (.int .i64 (cf x y)) ∧ ∃ q, w' = W.drewN q
set_option maxHeartbeats 1000000 in
theorem orderBy_any (n g : Nat) (cb : Array Value) (cf : Nat → Nat → Int) (w : World) (h1 : 1 ≤ n) (h2 : n < 20)
    (eg : ∀ args w, (callFunc g args).run Try.prog w = .ok (.enter g args) w) (hcmp : CmpOf g cb cf n w) :
    Calls Try.prog 88 #[.int .i64 n, .func (.func g) #[] cb] w (Made (Value.int .i64) (0 : Int) (intsN (ordN (ltC cf) n)) w) := by
  have EG := Lib.hid eg
  have HC := Lib.hid hcmp
  clear eg hcmp
  go_enter Try.func88, Try.ntmps88
  go_wp2_with fail
  go_at_call 113; refine (numbersBelow_any n _ (by omega)).mono ?_; rintro e w1 ⟨v1, rfl, i1, b1⟩
  have B1 := Lib.hid b1
  obtain ⟨hz, h0 | ⟨b, off, c1, rfl, hpos, hlo, hhi, hfz, hcell⟩⟩ := i1
  · have := congrArg List.length h0.1
    rw [numL_len] at this
    simp at this; omega
  have A1 := Lib.hid (show Arr (Value.int .i64) 0 w1 b off (numL n) from ⟨hcell, hfz⟩)
  have HLO := Lib.hid hlo
  have HHI := Lib.hid hhi
  have HCM : Hid (CmpAt g cb cf n b w1) := Lib.hid fun W t x y hx hy => HC.out W (B1.out.trans ((t.below (Nat.le_of_lt HHI.out)).mono HLO.out)) x y hx hy
  rw [numL_len]
  clear b1 hfz hcell hlo hhi hz hpos
  go_wp2_with fail
  go_at_call 160; refine (sortStable_any n g cb cf b off _ w1 h1 h2 EG.out HCM.out A1.out HHI.out).mono ?_; rintro e w2 ⟨rfl, t2, a2⟩
  have B2 : Hid (Below w.heap.size w w2) := Lib.hid (B1.out.trans ((t2.below (Nat.le_of_lt HHI.out)).mono HLO.out))
  have HB2 : Hid (b < w2.heap.size) := Lib.hid (Nat.lt_of_lt_of_le HHI.out t2.size)
  have A2 := Lib.hid a2
  clear t2 a2
  go_wp2_with fail
  refine bodyPost_ret (results_tmp rfl _ _ _) rfl ?_
  have hl : (intsN (ordN (ltC cf) n)).length = n := by rw [intsN_len, ordN_len]
  exact ⟨_, rfl, ⟨Nat.le_refl _, Or.inr ⟨b, off, c1, by rw [hl]; rfl, by rw [hl]; exact h1, HLO.out, HB2.out, A2.out.free, A2.out.cells⟩⟩, B2.out⟩
end Go.Proofs.Ytbaaocgdpgoggaa
