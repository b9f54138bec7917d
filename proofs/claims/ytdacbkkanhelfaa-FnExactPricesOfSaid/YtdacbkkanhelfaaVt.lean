/- Tables are valid: both sides say so. -/
import Derived.Test.YtdacbkkanhelfaaSameR
import Derived.Deep.LoopGhost
namespace Go.Proofs.Ytdacbkkanhelfaa
open Go.RowKit Go.ChangeShapes Go.WideShapes

def Tb.wide (T : Tb) : Int := T.vars + (T.S.length : Nat) + 1
def colB (T : Tb) (i : Nat) : Bool := decide (0 ≤ T.S.getD i 0) && decide (T.S.getD i 0 ≤ T.wide - 2)
def newB (T : Tb) (i : Nat) : Bool := (List.range i).all fun k => !(T.S.getD k 0 == T.S.getD i 0)
def basB (T : Tb) : Bool := (List.range T.S.length).all fun i => colB T i && newB T i
def okT (T : Tb) : Bool := (decide (1 ≤ T.vars) && decide (T.vars ≤ 8)) && ((decide (1 ≤ (T.S.length : Int)) && decide ((T.S.length : Int) ≤ 8)) && (decide ((T.N.length : Int) = ((T.S.length : Nat) + 1) * T.wide) && (finAll T.N && basB T)))

/-- A block that holds a table. -/
structure TP (w : World) (g : Nat) (s1 s2 : Value) (T : Tb) : Prop where
  c0 : w.cell? ⟨g, 0, none⟩ = some (.int .i64 T.vars)
  c1 : w.cell? ⟨g, 1, none⟩ = some s1
  c2 : w.cell? ⟨g, 2, none⟩ = some s2
  r1 : SL w s1 T.N
  r2 : IL w s2 T.S
theorem TP.dn {w : World} {g : Nat} {s1 s2 : Value} {T : Tb} {n : Nat} (h : TP w g s1 s2 T) : TP (w.drewN n) g s1 s2 T := ⟨h.c0, h.c1, h.c2, h.r1, h.r2⟩
theorem l00In_is (t : Bool) (n lo hi : Int) (w : World) (h : (decide (lo ≤ n) && decide (n ≤ hi)) = t) : Calls Try.prog 97 #[.int .i64 n, .int .i64 lo, .int .i64 hi] w (Tells t w) := by
  subst h; exact l00In_any n lo hi w

/-- A quiet call that answers a number. -/
def Num (n : Int) (w : World) (e : Ending) (w' : World) : Prop := e = .returned (.int .i64 n) ∧ ∃ m, w' = w.drewN m
theorem l02Wide_any (g : Nat) (s1 s2 : Value) (T : Tb) (w : World) (h : TP w g s1 s2 T) (hv : 1 ≤ T.vars ∧ T.vars ≤ 8) (hn : T.S.length ≤ 1048576) :
    Calls Try.prog 105 #[.pointer (some ⟨g, 0, none⟩)] w (Num T.wide w) := by
  obtain ⟨c0, c1, c2, r1, r2⟩ := h
  obtain ⟨ao, cap, rfl⟩ := r2.long
  obtain ⟨v1, v2⟩ := hv
  clear r1 r2
  have hw1 : IntKind.i64.wrap (T.vars + (T.S.length : Int)) = T.vars + (T.S.length : Int) := IntWalk.i64_in _ (by omega)
  have hw2 : IntKind.i64.wrap (T.vars + (T.S.length : Int) + 1) = T.vars + (T.S.length : Int) + 1 := IntWalk.i64_in _ (by omega)
  go_enter Try.func105, Try.ntmps105
  go_wp2
  go_quiet (fail)
  go_wp2
  go_ret
  exact ⟨ret_int (by unfold Tb.wide; rfl), _, rfl⟩

set_option maxHeartbeats 2000000 in
theorem l02Table_no (t0 t1 t2 : Bool) (g : Nat) (s1 s2 : Value) (T : Tb) (w : World) (h : TP w g s1 s2 T) (oT : OKT T) (e0 : (decide (1 ≤ T.vars) && decide (T.vars ≤ 8)) = t0) (e1 : (decide (1 ≤ (T.S.length : Int)) && decide ((T.S.length : Int) ≤ 8)) = t1)
    (e2 : decide ((T.N.length : Int) = ((T.S.length : Nat) + 1) * T.wide) = t2) (hno : (t0 && (t1 && (t2 && finAll T.N))) = false) :
    Calls Try.prog 70 #[.pointer (some ⟨g, 0, none⟩)] w (Tells false w) := by
  have HP := Lib.hid h
  have n1 := oT.n1
  have n2 := oT.n2
  obtain ⟨c0, c1, c2, r1, r2⟩ := h
  obtain ⟨ao, cap, rfl⟩ := r2.long
  obtain ⟨ao1, cap1, rfl⟩ := r1.long
  have R1 := Lib.hid r1
  clear r1 r2 oT
  cases t0 with
  | false =>
    have E0 := Lib.hid e0
    clear e0 e1 e2 hno
    go_enter Try.func70, Try.ntmps70
    go_wp2_with fail
    go_quiet ((go_at_call 97; exact Calls.quiet_of (l00In_is false _ _ _ _ E0.out)))
    go_wp2_with fail
    go_ret
    exact tells _ rfl
  | true =>
  have E0 := Lib.hid e0
  have hv : 1 ≤ T.vars ∧ T.vars ≤ 8 := by simpa using e0
  cases t1 with
  | false =>
    have E1 := Lib.hid e1
    clear e0 e1 e2 hno hv
    go_enter Try.func70, Try.ntmps70
    go_wp2_with fail
    go_quiet ((go_at_call 97; first | (with_reducible exact Calls.quiet_of (l00In_is true T.vars 1 8 _ E0.out)) | (with_reducible exact Calls.quiet_of (l00In_is false (T.S.length : Nat) 1 8 _ E1.out))))
    go_wp2_with fail
    go_ret
    exact tells _ rfl
  | true =>
  have E1 := Lib.hid e1
  have hl : 1 ≤ (T.S.length : Int) ∧ (T.S.length : Int) ≤ 8 := by simpa using e1
  have HV := Lib.hid hv
  have hw1 : IntKind.i64.wrap ((T.S.length : Int) + 1) = (T.S.length : Int) + 1 := IntWalk.i64_in _ (by omega)
  have hw2 : IntKind.i64.wrap (((T.S.length : Int) + 1) * T.wide) = ((T.S.length : Int) + 1) * T.wide := by
    refine IntWalk.i64_in _ ?_
    have hx : 0 ≤ T.wide ∧ T.wide ≤ 17 := by unfold Tb.wide; omega
    have : 0 ≤ ((T.S.length : Int) + 1) * T.wide := Int.mul_nonneg (by omega) hx.1
    have : ((T.S.length : Int) + 1) * T.wide ≤ 9 * 17 := Int.mul_le_mul (by omega) hx.2 hx.1 (by omega)
    omega
  cases t2 with
  | false =>
    have e3 : ((T.N.length : Int) != ((T.S.length : Nat) + 1) * T.wide) = true := by simpa using e2
    clear e0 e1 e2 hno hv hl
    go_enter Try.func70, Try.ntmps70
    go_wp2_with fail
    go_quiet (first | (go_at_call 97; first | (with_reducible exact Calls.quiet_of (l00In_is true T.vars 1 8 _ E0.out)) | (with_reducible exact Calls.quiet_of (l00In_is true (T.S.length : Nat) 1 8 _ E1.out))) | (go_at_call 105; exact Calls.quiet_of (l02Wide_any _ _ _ T _ (TP.dn HP.out) HV.out n2)))
    go_wp2_with fail
    go_ret
    exact tells _ rfl
  | true =>
    have e3 : ((T.N.length : Int) != ((T.S.length : Nat) + 1) * T.wide) = false := by simpa using e2
    have E3 := Lib.hid (show finAll T.N = false by simpa using hno)
    clear e0 e1 e2 hno hv hl
    go_enter Try.func70, Try.ntmps70
    go_wp2_with fail
    go_quiet (first | (go_at_call 97; first | (with_reducible exact Calls.quiet_of (l00In_is true T.vars 1 8 _ E0.out)) | (with_reducible exact Calls.quiet_of (l00In_is true (T.S.length : Nat) 1 8 _ E1.out))) | (go_at_call 105; exact Calls.quiet_of (l02Wide_any _ _ _ T _ (TP.dn HP.out) HV.out n2)) | (go_at_call 98; exact Calls.quiet_of (l02Finite_is _ _ _ _ R1.out n1 E3.out)))
    go_wp2_with fail
    go_ret
    exact tells _ rfl
end Go.Proofs.Ytdacbkkanhelfaa
