/- Orders by due times: the program. -/
import Derived.Test.YtcnfmphokobgiaaJbI
import Derived.Test.YtcnfmphokobgiaaAsc
namespace Go.Proofs.Ytcnfmphokobgiaa
open Go.RowKit Go.ChangeShapes Go.WideShapes

/-- When a job is due. -/
def dueK (Z : List Ac) (i : Nat) : Int := (Z.getD i zA).t
def dueL (Z : List Ac) : List Int := if jobsB Z then intsN (ordN (ltK (dueK Z)) Z.length) else []
theorem dueL_no {Z : List Ac} (h : jobsB Z = false) : dueL Z = [] := by unfold dueL; rw [h]; rfl
theorem dueL_yes {Z : List Ac} (h : jobsB Z = true) : dueL Z = intsN (ordN (ltK (dueK Z)) Z.length) := by unfold dueL; rw [if_pos h]
theorem dueL_len (Z : List Ac) : (dueL Z).length ≤ 1048576 := by
  unfold dueL
  split
  · rename_i h
    have := (jobsB_ok h).n2
    rw [intsN_len, ordN_len]; omega
  · simp
theorem due_read (v : Value) (Z : List Ac) (i : Nat) (w : World) (hv : AV w v Z) (hn : Z.length ≤ 1048576) (hi : i < Z.length) :
    Calls Try.prog 55 #[v, .int .i64 i] w (fun e w' => e = .returned (.int .i64 (Z.getD i zA).t) ∧ w' = w) := by
  rcases hv with ⟨rfl, _⟩ | ⟨b, off, cap, rfl, hpos, hbl, hcell⟩
  · simp at hi
  have c := (hcell i hi).c1
  have hli : (i : Int) < (Z.length : Int) := by omega
  clear hcell
  generalize (Z.getD i zA).t = q at c
  go_enter Try.func55, Try.ntmps55
  go_wp2_with fail
  go_ret
  exact ⟨rfl, rfl⟩
set_option maxHeartbeats 1000000 in
theorem due_cmp (v : Value) (Z : List Ac) (c : Nat) (x y : Nat) (w : World) (hv : AV w v Z) (hn : Z.length ≤ 1048576) (hx : x < Z.length) (hy : y < Z.length) (hc : w.cell? ⟨c, 0, none⟩ = some (.func (.func 55) #[v] #[])) :
    Calls Try.prog 108 #[.int .i64 x, .int .i64 y, .pointer (some ⟨c, 0, none⟩)] w (fun e w' => e = .returned (.int .i64 (cmpI (Z.getD x zA).t (Z.getD y zA).t)) ∧ ∃ q, w' = w.drewN q) := by
  have HX := Lib.hid fun (n : Nat) => due_read v Z x (w.drewN n) (hv.dn n) hn hx
  have HY := Lib.hid fun (n : Nat) => due_read v Z y (w.drewN n) (hv.dn n) hn hy
  generalize (Z.getD x zA).t = kx at HX ⊢
  generalize (Z.getD y zA).t = ky at HY ⊢
  have HCC := Lib.hid (compare_any kx ky)
  generalize cmpI kx ky = r at HCC ⊢
  obtain ⟨ao, cap, rfl⟩ := hv.long
  clear hv
  go_enter Try.func108, Try.ntmps108
  go_wp2_with fail
  go_quiet (first | (go_at_call 55; first | (with_reducible exact Calls.quiet_of_same (HX.out _)) | (with_reducible exact Calls.quiet_of_same (HY.out _))) | (go_at_call 109; exact Calls.quiet_of_same ((HCC.out _).mono fun _ _ ⟨h1, h2⟩ => ⟨h1, h2.symm⟩)))
  go_wp2_with fail
  go_ret
  exact ⟨rfl, _, rfl⟩
theorem due_of (v : Value) (Z : List Ac) (c : Nat) (w : World) (hv : AV w v Z) (hn : Z.length ≤ 1048576) (hc : w.cell? ⟨c, 0, none⟩ = some (.func (.func 55) #[v] #[])) :
    CmpOf 108 #[.pointer (some ⟨c, 0, none⟩)] (fun x y => cmpI (Z.getD x zA).t (Z.getD y zA).t) Z.length w := fun W hb x y hx hy =>
  due_cmp v Z c x y W (hv.below hb (Nat.le_refl _)) hn hx hy (by rw [hb.cell (p := ⟨c, 0, none⟩) (cell_block hc)]; exact hc)
set_option maxHeartbeats 2000000 in
theorem implDue_any (v : Value) (Z : List Ac) (w : World) (hv : AV w v Z) (hn : Z.length ≤ 1048576) :
    Calls Try.prog 16 #[v] w (SaysJB (dueL Z) (jobsB Z) w) := by
  have HV := Lib.hid hv
  obtain ⟨ao, cap, rfl⟩ := hv.long
  clear hv
  cases h : jobsB Z with
  | false =>
    have H := Lib.hid h
    have HE := Lib.hid (dueL_no h)
    clear h
    go_enter Try.func16, Try.ntmps16
    go_wp2_with fail
    go_at_call 52; refine (areJobs_is false _ Z _ HV.out hn H.out).mono ?_; rintro e w1 ⟨rfl, b1⟩
    have B1 := Lib.hid b1
    clear b1
    go_wp2_with fail
    go_ret2
    exact ⟨_, rfl, by rw [HE.out]; exact SI.nil _ (Nat.le_refl _) _ _, B1.out⟩
  | true =>
    have H := Lib.hid h
    have HE := Lib.hid (dueL_yes h)
    have J := Lib.hid (jobsB_ok h)
    have eg := enters_of Try.func108 (by kernel_rfl) rfl
    have EG := Lib.hid eg
    have HLT : Hid (ltC (fun x y => cmpI (dueK Z x) (dueK Z y)) = ltK (dueK Z)) := Lib.hid (ltC_asc (dueK Z))
    clear h eg
    go_enter Try.func16, Try.ntmps16
    go_wp2_with fail
    go_at_call 52; refine (areJobs_is true _ Z _ HV.out hn H.out).mono ?_; rintro e w1 ⟨rfl, b1⟩
    have B1 := Lib.hid b1
    clear b1
    have B2 := Lib.hid (B1.out.trans ((below_alloc w1 (.cells #[.func (.func 55) #[.slice ao Z.length cap] #[]] 68)).mono B1.out.size))
    have HCM := Lib.hid (due_of _ Z w1.heap.size _ (HV.out.below B2.out (Nat.le_refl _)) hn (World.cell?_alloc_new w1 #[.func (.func 55) #[.slice ao Z.length cap] #[]] 68 0))
    go_wp2_with fail
    go_at_call 54; refine (ascending_any _ _ _ _).mono ?_; rintro e w2 ⟨rfl, rfl⟩
    go_wp2_with fail
    go_at_call 53; refine (orderBy_any Z.length 108 _ (fun x y => cmpI (dueK Z x) (dueK Z y)) _ J.out.n1 (by have := J.out.n2; omega) EG.out HCM.out).mono ?_; rintro e w3 ⟨v3, rfl, i3, b3⟩
    rw [HLT.out, ← HE.out] at i3
    have I3 := Lib.hid (SI.wide i3 (lo' := w.heap.size) B2.out.size (Nat.le_refl _) (Nat.le_refl _))
    have B3 := Lib.hid (B2.out.trans (b3.mono B2.out.size))
    obtain ⟨a3, c3, rfl⟩ := i3.len
    clear i3 b3
    go_wp2_with fail
    go_ret2
    exact ⟨_, rfl, I3.out, B3.out⟩
theorem implDueOrder_any (v : Value) (Z : List Ac) (w : World) (hv : AV w v Z) (o : OKA Z) : Calls Try.prog 16 #[v] w (SaysJB (dueL Z) (jobsB Z) w) := implDue_any v Z w hv o.size
end Go.Proofs.Ytcnfmphokobgiaa
