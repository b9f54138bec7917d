/- Flushing, on bits and by a sign that is copied. -/
import Derived.Test.YtimdlnbdnednaaaSub
import Derived.Test.YtimdlnbdnednaaaSame
namespace Go.Proofs.Ytimdlnbdnednaaa
open Go.RowKit
attribute [local go_sem] call_f32bits call_f32from call_f64bits call_f64from Fl.run_widen Fl.run_narrow

/-- A zero with the number's sign; the number, flushed. -/
def zeroOf (x : Nat) : Nat := x / 2147483648 * 2147483648
def zeroOf64 (x : Nat) : Nat := x / 9223372036854775808 * 9223372036854775808
def flushV (x : Nat) : Nat := bif low32 x then zeroOf x else x

theorem low_num {x : Nat} (h : low32 x = true) : (Ieee.single.read x).isNaN = false := by
  unfold low32 at h
  cases hn : (Ieee.single.read x).isNaN with
  | false => rfl
  | true => have := nan_rg hn; simp at h; omega
theorem zeroOf_lt (x : Nat) (hx : x < 4294967296) : zeroOf x < 4294967296 := by unfold zeroOf; omega
theorem sign_eq (x : Nat) (hx : x < 4294967296) (hl : low32 x = true) : bits BinOp.and IntKind.i64 (Fl.told x : Int) 2147483648 = (zeroOf x : Int) := by
  have h := i64_and_nat (Fl.told x) 2147483648 (by have := told_lt x hx; omega) (by omega)
  rw [show ((2147483648 : Nat) : Int) = 2147483648 from rfl] at h
  rw [h, Fl.told_num (low_num hl), sign_nat x hx]; rfl

theorem specFlush_any (x : Nat) (hx : x < 4294967296) (w : World) :
    Calls Try.prog 38 #[.float .f32 x] w fun e w' => e = .returned (.float .f32 (flushV x)) ∧ w = w' := by
  have hm := mask_eq x hx
  unfold flushV
  cases h2 : low32 x with
  | true =>
    rw [h2] at hm
    have hs := sign_eq x hx h2
    have hb := zeroOf_lt x hx
    clear h2
    go_enter Try.func38, Try.ntmps38
    go_wp2_with (first | (go_at_call 31; refine (specBits_any _ hx _).mono ?_; rintro e w' ⟨rfl, rfl⟩) | go_in)
    go_ret
    exact ⟨rfl, rfl⟩
  | false =>
    rw [h2] at hm
    clear h2
    go_enter Try.func38, Try.ntmps38
    go_wp2_with (go_at_call 31; refine (specBits_any _ hx _).mono ?_; rintro e w' ⟨rfl, rfl⟩)
    go_ret
    exact ⟨rfl, rfl⟩
theorem specFlushNumber_any (x : Nat) (hx : x < 4294967296) (w : World) :
    Calls Try.prog 24 #[.float .f32 x] w fun e w' => e = .returned (.float .f32 (flushV x)) ∧ w = w' := by
  go_enter Try.func24, Try.ntmps24
  go_wp2_with (go_at_call 38; refine (specFlush_any _ hx _).mono ?_; rintro e w' ⟨rfl, rfl⟩)
  go_ret
  exact ⟨rfl, rfl⟩

theorem sign64_nat (x : Nat) (hx : x < 18446744073709551616) : x &&& 9223372036854775808 = zeroOf64 x := by
  unfold zeroOf64
  have h1 : (x &&& 9223372036854775808) % 2 ^ 63 = 0 := by
    rw [Nat.and_mod_two_pow]; simp
  have h2 : (x &&& 9223372036854775808) / 2 ^ 63 = x / 2 ^ 63 % 2 ^ 1 := by
    rw [Nat.and_div_two_pow, ← Nat.and_two_pow_sub_one_eq_mod]
  have h3 := Nat.div_add_mod (x &&& 9223372036854775808) (2 ^ 63)
  rw [h1, h2] at h3
  omega
theorem sign64_eq (x : Nat) (hx : x < 18446744073709551616) : bits .and .u64 (x : Int) 9223372036854775808 = (zeroOf64 x : Int) := by
  rw [u64_and _ _ (by omega) (by omega) (by omega) (by omega), Int.toNat_natCast]
  rw [← sign64_nat x hx]; rfl
theorem zeroOf64_lt (x : Nat) (hx : x < 18446744073709551616) : zeroOf64 x < 18446744073709551616 := by unfold zeroOf64; omega
theorem or_zero_eq (y : Nat) (hy : y < 18446744073709551616) : bits .or .u64 0 (y : Int) = (y : Int) := by
  rw [u64_or _ _ (by omega) (by omega) (by omega) (by omega), Int.toNat_natCast]
  simp
theorem andNot_zero : bits .andNot .u64 0 9223372036854775808 = 0 := by
  rw [u64_andNot _ _ (by omega) (by omega) (by omega) (by omega)]
  simp
theorem copysign_any (x : Nat) (hx : x < 18446744073709551616) (w : World) :
    Calls Try.prog 39 #[.float .f64 0, .float .f64 x] w fun e w' => e = .returned (.float .f64 (zeroOf64 x)) ∧ w = w' := by
  have h1 := sign64_eq x hx
  have h2 := or_zero_eq (zeroOf64 x) (zeroOf64_lt x hx)
  have h3 := andNot_zero
  go_enter Try.func39, Try.ntmps39
  go_wp2
  go_ret
  exact ⟨rfl, rfl⟩

theorem zero_facts : (Ieee.double.read 0).isNaN = false ∧ Fl.ovf 0 = false ∧ Ieee.single.write (Ieee.double.read 0) = 0 :=
  ⟨by decide +kernel, by decide +kernel, by decide +kernel⟩
theorem neg_facts : (Ieee.double.read 9223372036854775808).isNaN = false ∧ Fl.ovf 9223372036854775808 = false ∧ Ieee.single.write (Ieee.double.read 9223372036854775808) = 2147483648 :=
  ⟨by decide +kernel, by decide +kernel, by decide +kernel⟩
theorem nres_pos (w : World) : Fl.nres w 0 = 0 := by
  unfold Fl.nres
  rw [zero_facts.1, zero_facts.2.1, zero_facts.2.2]
  simp
theorem nres_neg (w : World) : Fl.nres w 9223372036854775808 = 2147483648 := by
  unfold Fl.nres
  rw [neg_facts.1, neg_facts.2.1, neg_facts.2.2]
  simp
theorem narrow_zero (w w' : World) (x : Nat) (hx : x < 4294967296) (h : low32 x = true) : Fl.nres w' (zeroOf64 (Fl.wres w x)) = zeroOf x := by
  have hn := low_num h
  have hf : Fl.Fin Ieee.single x := by unfold low32 at h; unfold Fl.Fin; rw [Fl.single_inf]; simp at h; omega
  have e : Fl.wres w x = Ieee.double.write (Ieee.single.read x) := by unfold Fl.wres; rw [hn]; rfl
  have hs : Fl.sg Ieee.double (Fl.wres w x) = Fl.sg Ieee.single x := by
    rw [e, Fl.read_fin hf]; exact Fl.write_sg _ _ _ _
  have hl := wres_lt w x
  unfold Fl.sg at hs
  rw [Fl.double_S, Fl.single_S] at hs
  generalize Fl.wres w x = y at *
  unfold zeroOf64 zeroOf
  rcases (show x / 2147483648 = 0 ∨ x / 2147483648 = 1 by omega) with hx2 | hx2 <;>
    rcases (show y / 9223372036854775808 = 0 ∨ y / 9223372036854775808 = 1 by omega) with hy2 | hy2 <;> rw [hx2, hy2] at hs <;> rw [hx2, hy2]
  · rw [Nat.zero_mul]; exact nres_pos w'
  · simp at hs
  · simp at hs
  · rw [Nat.one_mul, Nat.one_mul]; exact nres_neg w'
theorem flush_zero (x : Nat) (h : subn x = false) : flushV x = x := by
  unfold flushV
  unfold subn at h
  cases hl : low32 x with
  | false => rfl
  | true =>
    rw [hl] at h
    have hz : zero32 x = true := by simpa using h
    unfold zero32 Fl.rg at hz
    rw [Fl.single_S] at hz
    simp at hz
    show zeroOf x = x
    unfold zeroOf
    omega
theorem flush_sub (x : Nat) (h : subn x = true) : low32 x = true := by
  unfold subn at h; simp at h; exact h.2

def Flushed (x : Nat) (w : World) (e : Ending) (w' : World) : Prop := ∃ r n, e = .returned (.float .f32 r) ∧ w' = w.drewN n ∧ Fl.cls .f32 r = Fl.cls .f32 (flushV x)
theorem implFlush_any (x : Nat) (hx : x < 4294967296) (w : World) :
    Calls Try.prog 25 #[.float .f32 x] w (Flushed x w) := by
  cases h : subn x with
  | true =>
    have hl := flush_sub x h
    have H := Lib.hid h
    have HL := Lib.hid hl
    clear h hl
    go_enter Try.func25, Try.ntmps25
    go_wp2_with (first | (go_at_call 23; refine (implSub_any _ _).mono ?_; rw [H.out]; rintro e w' ⟨rfl, n, rfl⟩) | (go_at_call 39; refine (copysign_any _ (wres_lt _ _) _).mono ?_; rintro e w' ⟨rfl, rfl⟩))
    refine bodyPost_ret (results_tmp rfl _ _ _) rfl ?_
    refine ⟨_, _, rfl, rfl, ?_⟩
    unfold flushV
    rw [HL.out]
    show Fl.cls .f32 (Fl.nres _ (zeroOf64 (Fl.wres _ x))) = Fl.cls .f32 (zeroOf x)
    rw [narrow_zero _ _ x hx HL.out]
  | false =>
    have hv := flush_zero x h
    have H := Lib.hid h
    have HV := Lib.hid hv
    clear h hv
    go_enter Try.func25, Try.ntmps25
    go_wp2_with (go_at_call 23; refine (implSub_any _ _).mono ?_; rw [H.out]; rintro e w' ⟨rfl, n, rfl⟩)
    go_ret
    exact ⟨x, _, rfl, rfl, by rw [HV.out]⟩
end Go.Proofs.Ytimdlnbdnednaaa
