/- Forms of Horn: the program's test. -/
import Derived.Test.YtleaaigjnniglaaHoK
import Derived.Test.YtleaaigjnniglaaIxHn
import Derived.Test.YtleaaigjnniglaaCnt2
namespace Go.Proofs.Ytleaaigjnniglaa
open Go.RowKit Go.ChangeShapes Go.WideShapes

def upsP (c : List Int) : Bool := decide (1 < upsK c c.length)
def hornB (F : Fm) : Bool := !anyP upsP F.cs
theorem hnCl_any (n : Int) (B : Nat) (u : Value) (c : List Int) (w : World) (hu : IL w u c) (hB : w.cell? ⟨B, 0, none⟩ = some (.int .i64 n)) (hn : c.length ≤ 1048576) (hc : ClOk n c) :
    Calls Try.prog 99 #[u, .pointer (some ⟨B, 0, none⟩)] w (Says (upsP c) w) := by
  have HU := Lib.hid hu
  obtain ⟨ao, cap, rfl⟩ := hu.long
  have n1 := hc.n1
  have n2 := hc.n2
  have HC := Lib.hid hc
  have hle := upsK_le c c.length
  have hlt := plain_lt (L := n.toNat) (c := c) (fun i hi => hc.nat hi) c.length (Nat.le_refl _)
  have hp := pop_plain hc c.length (Nat.le_refl _)
  have hp10 := pow10 (L := n.toNat) (by omega)
  have HUP : Hid (upsP c = decide (1 < upsK c c.length)) := Lib.hid rfl
  have hcl := hc.len
  generalize hP : plainK n.toNat c c.length = P at hlt hp
  generalize hT : turnK n.toNat c c.length = T
  have HP := Lib.hid hP
  have HT := Lib.hid hT
  have HPP := Lib.hid hp
  have hP6 : P < 1024 := by omega
  generalize upsK c c.length = q at hle HUP HPP
  have hq : q ≤ 10 := by omega
  clear hu hc hP hT hp hlt hp10 hcl hle
  by_cases h1 : 1 < q
  · have HD : Hid (true = upsP c) := Lib.hid (by rw [HUP.out, decide_eq_true h1])
    have h1i : (1 : Int) < (q : Int) := by omega
    go_enter Try.func99, Try.ntmps99
    go_wp2_with fail
    go_at_call 93; refine (digitsOf_any n _ c _ HU.out hn n1 n2 HC.out.a).mono ?_; rintro e w' ⟨rfl, rfl⟩
    rw [HP.out, HT.out]
    go_wp2_with fail
    go_at_call 74; refine (countIn_any P _ (by omega)).mono ?_; rintro e w' ⟨rfl, rfl⟩
    rw [HPP.out]
    go_wp2_with fail
    go_ret
    exact says HD.out (Below.refl _ _)
  · have HD : Hid (false = upsP c) := Lib.hid (by rw [HUP.out, decide_eq_false h1])
    have h1i : ¬ (1 : Int) < (q : Int) := by omega
    go_enter Try.func99, Try.ntmps99
    go_wp2_with fail
    go_at_call 93; refine (digitsOf_any n _ c _ HU.out hn n1 n2 HC.out.a).mono ?_; rintro e w' ⟨rfl, rfl⟩
    rw [HP.out, HT.out]
    go_wp2_with fail
    go_at_call 74; refine (countIn_any P _ (by omega)).mono ?_; rintro e w' ⟨rfl, rfl⟩
    rw [HPP.out]
    go_wp2_with fail
    go_ret
    exact says (by rw [← HD.out]; exact decide_eq_false (by omega)) (Below.refl _ _)
theorem isHorn_any (v : Value) (F : Fm) (w : World) (hv : FmV w v F) (o : OKFm F) (h : FormOk F) :
    Calls Try.prog 77 #[v] w (Says (hornB F) w) := by
  obtain ⟨s1, rfl, g1⟩ := hv
  have HG := Lib.hid (fun o => g1.below (below_alloc w o) (Nat.le_refl _))
  have HH := Lib.hid h
  have hn := o.okl.len
  have OK := Lib.hid o.okl
  obtain ⟨ao, cap, rfl⟩ := g1.long
  clear g1 h
  go_enter Try.func77, Try.ntmps77
  go_wp2_with fail
  go_at_call 76; refine (ctHn_any upsP w.heap.size _ F.cs _ (HG.out _) hn (fun k u w' hk hb hu => hnCl_any F.letters w.heap.size u _ w' hu ((((Box2.mk' w (.int .i64 F.letters) (.slice ao F.cs.length cap) 31).keep hb (by simp)).c0)) (OK.out.short k) (HH.out.cl k hk))).mono ?_; rintro e w1 ⟨rfl, b1⟩
  have H1 := Lib.hid ((below_alloc w _).trans (b1.mono (by simp)))
  clear b1
  go_wp2_with fail
  go_ret
  exact says rfl H1.out
theorem setOfAll_at (n : Int) (L : Nat) (w : World) (hn : n = (L : Int)) (h2 : L ≤ 10) :
    Calls Try.prog 78 #[.int .i64 n] w (fun e w' => e = .returned (.int .i64 ((2 ^ L - 1 : Nat) : Int)) ∧ w = w') := by
  obtain ⟨p1, p2⟩ := pow10 h2
  have e : n.toNat = L := by omega
  have q1 : (1 : Int) ≤ 2 ^ n.toNat := by rw [e, ← pow_cast]; omega
  have q2 : (2 : Int) ^ n.toNat ≤ 1024 := by rw [e, ← pow_cast]; omega
  have HE : Hid ((2 : Int) ^ n.toNat - 1 = ((2 ^ L - 1 : Nat) : Int)) := Lib.hid (by rw [e, ← pow_cast]; omega)
  have b1 : n ≤ 10 := by omega
  have b3 : 0 ≤ n := by omega
  clear hn e p1 p2
  go_enter Try.func78, Try.ntmps78
  go_wp2
  go_ret
  exact ⟨ret_int HE.out, rfl⟩
def hoL (F : Fm) : List Bool := if hornB F && firstB F then valsB F.letters.toNat (andK F.letters.toNat F.cs (2 ^ F.letters.toNat)) else []
def hoB (F : Fm) : Bool := formB F && (hornB F && firstB F)
theorem ho_no1 {F : Fm} (h : formB F = false) : hoL F = [] ∧ hoB F = false := by
  have h1 := first_nil (modsF_no h)
  unfold hoL hoB
  rw [h1.2, Bool.and_false, h]
  exact ⟨rfl, rfl⟩
theorem ho_no2 {F : Fm} (h : hornB F = false) : hoL F = [] ∧ hoB F = false := by
  unfold hoL hoB
  rw [h, Bool.false_and, Bool.and_false]
  exact ⟨rfl, rfl⟩
theorem ho_no3 {F : Fm} (h : firstB F = false) : hoL F = [] ∧ hoB F = false := by
  unfold hoL hoB
  rw [h, Bool.and_false, Bool.and_false]
  exact ⟨rfl, rfl⟩
theorem ho_yes {F : Fm} (h1 : formB F = true) (h2 : hornB F = true) (h3 : firstB F = true) : hoL F = valsB F.letters.toNat (andK F.letters.toNat F.cs (2 ^ F.letters.toNat)) ∧ hoB F = true := by
  unfold hoL hoB
  rw [h1, h2, h3]
  exact ⟨rfl, rfl⟩
theorem firstB_form {F : Fm} (h : firstB F = true) : formB F = true := by
  cases hq : formB F with
  | true => rfl
  | false => rw [(first_nil (modsF_no hq)).2] at h; cases h
theorem hoL_len (F : Fm) : (hoL F).length ≤ 1048576 := by
  unfold hoL
  split
  · rename_i h
    rw [Bool.and_eq_true] at h
    have h2 := (formB_ok (firstB_form h.2)).num.L2
    unfold valsB
    rw [valK_len]
    omega
  · simp
end Go.Proofs.Ytleaaigjnniglaa
