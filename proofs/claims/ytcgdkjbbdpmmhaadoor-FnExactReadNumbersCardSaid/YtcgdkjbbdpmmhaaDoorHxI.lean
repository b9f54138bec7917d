/- A number with its 8 digits: the program. -/
import Derived.Test.YtcgdkjbbdpmmhaaDoorHx0
import Derived.Test.YtcgdkjbbdpmmhaaDoorFb4
import Derived.Test.YtcgdkjbbdpmmhaaDoorIl
import Derived.Laws.RangeAny
import Derived.Lib.Hide
namespace Go.Proofs.YtcgdkjbbdpmmhaaDoor
open Go.RowKit Go.ChangeShapes Go.WideShapes

theorem hexDigit_no (r : Int) (w : World) (h : r < 48 ∨ (57 < r ∧ r < 97) ∨ 102 < r) :
    Calls Tryd.prog 86 #[.int .i32 r] w fun e w' => e = .returned (.tuple #[.int .i64 0, .bool false]) ∧ w = w' := by
  rcases h with h | h | h
  · have d1 : decide ((48 : Int) ≤ r) = false := by simp; omega
    have d2 : decide ((97 : Int) ≤ r) = false := by simp; omega
    go_enter Tryd.func86, Tryd.ntmps86
    go_wp2_with fail
    go_ret2
    exact ⟨rfl, rfl⟩
  · obtain ⟨ha, hb⟩ := h
    have d1 : decide ((48 : Int) ≤ r) = true := by simp; omega
    have d3 : decide (r ≤ 57) = false := by simp; omega
    have d2 : decide ((97 : Int) ≤ r) = false := by simp; omega
    go_enter Tryd.func86, Tryd.ntmps86
    go_wp2_with fail
    go_ret2
    exact ⟨rfl, rfl⟩
  · have d1 : decide ((48 : Int) ≤ r) = true := by simp; omega
    have d3 : decide (r ≤ 57) = false := by simp; omega
    have d2 : decide ((97 : Int) ≤ r) = true := by simp; omega
    have d4 : decide (r ≤ 102) = false := by simp; omega
    go_enter Tryd.func86, Tryd.ntmps86
    go_wp2_with fail
    go_ret2
    exact ⟨rfl, rfl⟩
theorem hexDigit_any (c : UInt8) (w : World) :
    Calls Tryd.prog 86 #[.int .i32 (c.toNat : Int)] w fun e w' => e = .returned (.tuple #[.int .i64 ((hxV c : Nat) : Int), .bool (hxB c)]) ∧ w = w' := by
  have hc : c.toNat < 256 := UInt8.toNat_lt c
  by_cases h1 : 48 ≤ c.toNat ∧ c.toNat ≤ 57
  · obtain ⟨e1, e2⟩ := hxB_digit h1
    rw [e1, e2]
    obtain ⟨a, b⟩ := h1
    have w1 : IntKind.i32.wrap ((c.toNat : Int) - 48) = (c.toNat : Int) - 48 := by rw [IntKind.wrap_i32]; omega
    have w2 : IntKind.i64.wrap ((c.toNat : Int) - 48) = (c.toNat : Int) - 48 := by rw [IntKind.wrap_i64]; omega
    have q : ((c.toNat - 48 : Nat) : Int) = (c.toNat : Int) - 48 := by omega
    have Q := Lib.hid q
    clear e1 e2 q
    generalize c.toNat = n at *
    go_enter Tryd.func86, Tryd.ntmps86
    go_wp2_with fail
    go_ret2
    exact ⟨by rw [Q.out]; rfl, rfl⟩
  · by_cases h2 : 97 ≤ c.toNat ∧ c.toNat ≤ 102
    · obtain ⟨e1, e2⟩ := hxB_letter h2
      rw [e1, e2]
      obtain ⟨a, b⟩ := h2
      have w1 : IntKind.i32.wrap ((c.toNat : Int) - 97) = (c.toNat : Int) - 97 := by rw [IntKind.wrap_i32]; omega
      have w2 : IntKind.i64.wrap ((c.toNat : Int) - 97) = (c.toNat : Int) - 97 := by rw [IntKind.wrap_i64]; omega
      have w3 : IntKind.i64.wrap ((c.toNat : Int) - 97 + 10) = (c.toNat : Int) - 97 + 10 := by rw [IntKind.wrap_i64]; omega
      have q : ((c.toNat - 87 : Nat) : Int) = (c.toNat : Int) - 97 + 10 := by omega
      have Q := Lib.hid q
      have d1 : decide ((c.toNat : Int) ≤ 57) = false := by simp; omega
      clear e1 e2 q h1
      generalize c.toNat = n at *
      go_enter Tryd.func86, Tryd.ntmps86
      go_wp2_with fail
      go_ret2
      exact ⟨by rw [Q.out]; rfl, rfl⟩
    · obtain ⟨e1, e2⟩ := hxB_other h1 h2
      rw [e1, e2]
      exact hexDigit_no _ w (by omega)
def SaysHx (n : Nat) (b : Bool) (w : World) (e : Ending) (w' : World) : Prop := e = .returned (.tuple #[.float .f32 n, .bool b]) ∧ Below w.heap.size w w'
def SaysNB (Z : List Nat) (b : Bool) (w : World) (e : Ending) (w' : World) : Prop := ∃ v, e = .returned (.tuple #[v, .bool b]) ∧ SI (Value.float .f32) (0 : Nat) w.heap.size w'.heap.size w' v Z ∧ Below w.heap.size w w'
theorem byte_list {s : ByteArray} {k : Nat} (h : k < s.size) (h2 : k < s.data.toList.length) : s.data.toList[k] = s[k]'h := rfl
set_option maxRecDepth 100000 in
set_option maxHeartbeats 2000000 in
theorem readNumber_any (s : ByteArray) (w : World) :
    Calls Tryd.prog 55 #[.string s] w (SaysHx (hxR s.data.toList) (hxOk s.data.toList) w) := by
  have hsz : s.data.toList.length = s.size := Array.length_toList
  by_cases h8 : s.size = 8
  · have hlt := hxN_8 (S := s.data.toList) (by omega)
    have HGD := Lib.hid (fun h2 h3 => hx_good (S := s.data.toList) (by omega) h2 h3)
    have HTD := Lib.hid (fun h3 => hx_told (S := s.data.toList) h3)
    have HBD := Lib.hid (fun k (hk : k < s.size) (h : hxB (s[k]'hk) = false) => hx_bad (S := s.data.toList) (k := k) (Nat.lt_of_lt_of_eq hk Array.length_toList.symm) h)
    have HBN := Lib.hid (hxN_bound s.data.toList)
    have HTK := Lib.hid (fun k (hk : k < s.size) => (hxN_take (S := s.data.toList) (k := k) (Nat.lt_of_lt_of_eq hk Array.length_toList.symm)))
    have HN0 := Lib.hid (fun h => hxR_no (S := s.data.toList) h)
    have HFU : Hid (hxN (s.data.toList.take 8) = hxN s.data.toList) := Lib.hid (by rw [List.take_of_length_le (by omega)])
    have HSZ := Lib.hid hsz
    have H8 := Lib.hid h8
    have hsb : (s.size : Int) = 8 := by omega
    have L0 : Hid (hxN (s.data.toList.take 0) = 0) := Lib.hid rfl
    clear hsz h8
    go_enter Tryd.func55, Tryd.ntmps55
    go_wp2
    clear hsb
    go_loopw [4, 6, 7, 8] (fun b _ _ _ wr => ∃ pos : Nat, pos ≤ s.size ∧ wr = w.iter s pos ∧ b = .int .i64 ((hxN (s.data.toList.take pos) : Nat) : Int) ∧ Hid (∀ j (hj : j < s.size), j < pos → hxB (s[j]'hj) = true)) (fun _ _ _ _ wr => s.size - wr.iterPos w.heap.size)
    case atStart => exact ⟨0, Nat.zero_le _, rfl, by rw [L0.out]; rfl, Lib.hid fun j hj h => absurd h (Nat.not_lt_zero _)⟩
    case round =>
      obtain ⟨pos, hps, rfl, rfl, hok⟩ := hrel
      have hbel : ∀ k, Below w.heap.size w (w.iter s k) := fun k => (Below.refl _ _).alloc (Nat.le_refl _) _
      have HB := Lib.hid hbel
      clear hbel L0
      by_cases hp : pos < s.size
      · have hpos8 : pos < 8 := by have := H8.out; omega
        by_cases ha : (s[pos]'hp).toNat < 128
        · have hnx := fun ty => run_next_ascii (P := Tryd.prog) w s pos ty hp ha
          have HD := Lib.hid (fun W => hexDigit_any (s[pos]'hp) W)
          cases hq : hxB (s[pos]'hp) with
          | true =>
            have HQ := Lib.hid hq
            rw [hq] at HD
            have hb := HBN.out pos
            have hv := hxV_le (s[pos]'hp)
            have HT2 : Hid (hxN (s.data.toList.take (pos + 1)) = 16 * hxN (s.data.toList.take pos) + hxV (s[pos]'hp)) := Lib.hid (HTK.out pos hp)
            have hb2 : hxN (s.data.toList.take pos) < 268435456 := Nat.lt_of_lt_of_le hb (Nat.le_trans (Nat.pow_le_pow_right (by omega) (show pos ≤ 7 by omega)) (by decide))
            generalize hxN (s.data.toList.take pos) = a at *
            generalize hxV (s[pos]'hp) = v at *
            have w1 : IntKind.i64.wrap (16 * (a : Int)) = 16 * (a : Int) := by rw [IntKind.wrap_i64]; omega
            have w2 : IntKind.i64.wrap (16 * (a : Int) + (v : Int)) = 16 * (a : Int) + (v : Int) := by rw [IntKind.wrap_i64]; omega
            clear hq hb
            go_wp2_with (go_at_call 86; refine (HD.out _).mono ?_; rintro e w' ⟨rfl, rfl⟩)
            go_roundw
            case rel => exact ⟨pos + 1, by omega, rfl, by rw [HT2.out]; go_num, Lib.hid fun j hj h => by
              by_cases e : j = pos
              · subst e; exact HQ.out
              · exact hok.out j hj (by omega)⟩
            case measure => simp; omega
          | false =>
            have HF := Lib.hid (HBD.out pos hp hq)
            rw [hq] at HD
            generalize hxV (s[pos]'hp) = v at *
            clear hq
            go_wp2_with (go_at_call 86; refine (HD.out _).mono ?_; rintro e w' ⟨rfl, rfl⟩)
            go_ret2
            exact ⟨by rw [HF.out, HN0.out HF.out]; rfl, HB.out _⟩
        · have hnx := fun ty => run_next_any (P := Tryd.prog) w s pos ty hp
          have hd := (decode_high s pos hp (by omega)).1
          have HF := Lib.hid (HBD.out pos hp (hxB_other (by omega) (by omega)).1)
          generalize Utf8.decode s pos = d at hnx hd
          have HD := Lib.hid (fun W => hexDigit_no (d.1 : Int) W (Or.inr (Or.inr (by omega))))
          go_wp2_with (go_at_call 86; refine (HD.out _).mono ?_; rintro e w' ⟨rfl, rfl⟩)
          go_ret2
          exact ⟨by rw [HF.out, HN0.out HF.out]; rfl, HB.out _⟩
      · obtain rfl : pos = s.size := by omega
        have hnx := fun ty => run_next_end (P := Tryd.prog) w s s.size ty (by omega)
        have HFF : Hid (hxN (s.data.toList.take s.size) = hxN s.data.toList) := Lib.hid (by rw [List.take_of_length_le (by rw [HSZ.out]; exact Nat.le_refl _)])
        rw [HFF.out]
        have FR := Lib.hid (fun W => implFromB_any (hxN s.data.toList) (by omega) W)
        have BO := Lib.hid (fun W => implBits_any (hxN s.data.toList) hlt W)
        by_cases hq : Fl.told (hxN s.data.toList) = hxN s.data.toList
        · have HF := Lib.hid (HGD.out (fun k hk => hok.out k (by have := HSZ.out; omega) (by have := HSZ.out; omega)) hq)
          rw [hq] at BO
          generalize hxN s.data.toList = a at *
          clear hq
          go_wp2_with (first | (go_at_call 87; refine (FR.out _).mono ?_; rintro e w' ⟨rfl, rfl⟩) | (go_at_call 74; refine (BO.out _).mono ?_; rintro e w' ⟨rfl, rfl⟩))
          go_ret2
          exact ⟨by rw [HF.out.1, HF.out.2]; rfl, HB.out _⟩
        · have HF := Lib.hid (HTD.out hq)
          generalize hxN s.data.toList = a at *
          generalize ht : Fl.told a = t at *
          have d3 : ((t : Int) == (a : Int)) = false := by rw [beq_eq_false_iff_ne]; omega
          clear hq ht
          go_wp2_with (first | (go_at_call 87; refine (FR.out _).mono ?_; rintro e w' ⟨rfl, rfl⟩) | (go_at_call 74; refine (BO.out _).mono ?_; rintro e w' ⟨rfl, rfl⟩))
          go_ret2
          exact ⟨by rw [HF.out, HN0.out HF.out]; rfl, HB.out _⟩
  · have hf := hx_len (S := s.data.toList) (by omega)
    have HF := Lib.hid (And.intro hf (hxR_no hf))
    have d1 : ((s.size : Int) == 8) = false := by rw [beq_eq_false_iff_ne]; omega
    clear hf hsz h8
    go_enter Tryd.func55, Tryd.ntmps55
    go_wp2_with fail
    go_ret2
    exact ⟨by rw [HF.out.1, HF.out.2]; rfl, Below.refl _ _⟩
end Go.Proofs.YtcgdkjbbdpmmhaaDoor
