/- Marks of strings: the text of a mark. -/
import Derived.Test.YtcgdkjbbdpmmhaaDoorStL
import Derived.Test.YtcgdkjbbdpmmhaaDoorDcS
import Derived.Laws.Concat
namespace Go.Proofs.YtcgdkjbbdpmmhaaDoor
open Go.RowKit Go.ChangeShapes Go.WideShapes

/-- The number that digits spell. -/
def dgV (l : List UInt8) : Nat := l.foldl (fun a c => 10 * a + (c.toNat - 48)) 0
theorem dgV_dec (u : Nat) : dgV (Lib.decDigits u) = u := by
  induction u using Nat.strongRecOn with
  | _ u ih =>
    unfold dgV at ih ⊢
    have hn : ∀ q, q < 10 → (UInt8.ofNat (48 + q)).toNat = 48 + q := fun q hq => by
      rw [UInt8.toNat_ofNat', show (2 ^ 8 : Nat) = 256 from rfl]; omega
    by_cases h : u < 10
    · rw [dec_small h]
      show 10 * 0 + ((UInt8.ofNat (48 + u)).toNat - 48) = u
      rw [hn u h]; omega
    · rw [dec_big h, List.foldl_append, ih (u / 10) (by omega)]
      show 10 * (u / 10) + ((UInt8.ofNat (48 + u % 10)).toNat - 48) = u
      rw [hn _ (by omega)]; omega
/-- The text of mark k. -/
def mkS (k : Nat) : ByteArray := bsOf (109 :: Lib.decDigits k)
theorem run_bs_add3 (a b : List UInt8) (h : a.length + b.length ≤ 1000000) (W : World) : (Op.stringOp .add (bsOf a) (bsOf b)).run Tryd.prog W = .ok (.string (bsOf (a ++ b))) W := by
  rw [run_string_add_sum W _ _ (by rw [bs_size, bs_size]; omega), bs_append]
set_option maxRecDepth 100000 in
set_option maxHeartbeats 2000000 in
theorem markText_any (u : Nat) (w : World) (h1 : 1 ≤ u) (h2 : u ≤ 1099511627776) :
    Calls Tryd.prog 42 #[.int .i64 (u : Int)] w (fun e w' => e = .returned (.string (mkS u)) ∧ Below w.heap.size w w') := by
  have d0 : decide ((u : Int) ≤ 0) = false := by simp; omega
  have S0 : Hid ((⟨#[]⟩ : ByteArray) = bsOf []) := Lib.hid rfl
  go_enter Tryd.func42, Tryd.ntmps42
  go_wp2_with fail
  go_loopg [0, 3] 25 (fun gk kv s wr => ∃ (q : Nat) (D : List UInt8), gk + D.length = 25 ∧ kv = .int .i64 (q : Int) ∧ s = .string (bsOf D) ∧ DcAt u q D ∧ Below w.heap.size w wr)
  case atStart => exact ⟨u, [], rfl, rfl, by rw [S0.out], dcAt_start u, Below.refl _ _⟩
  case round =>
    obtain ⟨q, D, hgk, rfl, rfl, hDC, hB⟩ := hrel
    have HDC := Lib.hid hDC
    have HB := Lib.hid hB
    have HGK := Lib.hid hgk
    clear hDC hB hgk d0 S0
    by_cases hq : q = 0
    · subst hq
      have hD : D ≠ [] := fun e => by
        have := HDC.out.eq (Or.inr e)
        subst e
        rw [List.append_nil] at this
        have h3 := congrArg dgV this
        rw [dgV_dec, dgV_dec] at h3
        omega
      have HE := Lib.hid (dcAt_end HDC.out hD)
      have A1 : ∀ W, (Op.stringOp .add (⟨#[109]⟩ : ByteArray) (bsOf D)).run Tryd.prog W = .ok (.string (bsOf ([109] ++ D))) W := fun W => run_bs_add3 [109] D (by have := HGK.out; show 1 + D.length ≤ _; omega) W
      have HX : Hid (mkS u = bsOf ([109] ++ D)) := Lib.hid (by unfold mkS; rw [HE.out]; rfl)
      clear hD
      go_wp2_with fail
      go_ret
      exact ⟨by rw [HX.out]; rfl, HB.out⟩
    · have NX := Lib.hid (dcAt_step HDC.out (Or.inl hq))
      have LEN := dcAt_len HDC.out (by omega) (Or.inl hq)
      have hqu := dcAt_q HDC.out
      obtain ⟨b, hb⟩ : ∃ b, b = UInt8.ofNat (48 + q % 10) := ⟨_, rfl⟩
      have hb2 : (b.toNat : Int) = 48 + ((q % 10 : Nat) : Int) := by rw [hb]; exact byte_dig _
      rw [← hb] at NX
      obtain ⟨m, hm⟩ : ∃ m, m = q % 10 := ⟨_, rfl⟩
      rw [← hm] at hb2
      have f1 : (q : Int) % 10 = (m : Int) := by omega
      obtain ⟨t, ht⟩ : ∃ t : Nat, t = q / 10 := ⟨_, rfl⟩
      have f2 : (q : Int) / 10 = (t : Int) := by omega
      have f3 : Int.tdiv (q : Int) 10 = (t : Int) := by rw [ht]; rfl
      have tb : (t : Int) ≤ 1099511627776 := by omega
      have wq : IntKind.i64.wrap (t : Int) = (t : Int) := by rw [IntKind.wrap_i64]; omega
      rw [← ht] at NX
      have m10 : m < 10 := by omega
      have wb : IntKind.u8.wrap (48 + (m : Int)) = 48 + (m : Int) := by rw [IntKind.wrap_u8]; omega
      have dq : 0 < q := Nat.pos_of_ne_zero hq
      have A1 : ∀ W, (Op.stringOp .add (⟨[b].toArray⟩ : ByteArray) (bsOf D)).run Tryd.prog W = .ok (.string (bsOf ([b] ++ D))) W := fun W => run_bs_add3 [b] D (by show 1 + D.length ≤ _; omega) W
      have hback := run_convert_bytes_back (P := Tryd.prog) (wr.alloc (.cells #[.int .u8 (48 + (m : Int))] 5)) 95 9 5 ⟨wr.heap.size, 0, none⟩ 1 [b] Tryd.underlying95 Tryd.underlying5 Tryd.underlying9 (fun j hj => by
        have hj0 : j = 0 := by simp at hj; exact hj
        subst hj0
        rw [Addr.add_lit, Nat.zero_add, World.cell?_alloc_new]
        simp [hb2])
      have HBN := Lib.hid (HB.out.trans ((below_alloc wr (.cells #[.int .u8 (48 + (m : Int))] 5)).mono HB.out.size))
      rw [show [b].length = 1 from rfl] at hback
      have HQ := Lib.hid hq
      clear hb hb2 hm ht hq hqu
      go_wp2_with fail
      go_roundg (gk - 1)
      case measure => have := HGK.out; omega
      case rel => exact ⟨t, b :: D, by have := HGK.out; rw [List.length_cons]; omega, by go_num, rfl, NX.out, HBN.out⟩
end Go.Proofs.YtcgdkjbbdpmmhaaDoor
