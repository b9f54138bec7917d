/- The logarithm: the model's function. -/
import Derived.Test.YtimdlnbdnednaacLogV
namespace Go.Proofs.Ytimdlnbdnednaac
open Go.RowKit
attribute [local go_sem] run_add run_sub run_mul run_quo Fl.cls_ares Fl.ord_bits run_neg

set_option maxHeartbeats 2000000 in
theorem l01LogWide_any (b : Nat) (hm : Mid b) (w : World) : Calls Try.prog 68 #[.float .f64 b] w (Logged b w) := by
  have HM := Lib.hid hm
  have HB : Hid (Fl.cls .f64 b = some b) := Lib.hid (word_facts (by obtain ⟨h1, h2⟩ := hm; omega)).2.2.2.2
  obtain ⟨g1, g2⟩ := hm
  have t1 : (Fl.ordC .f64 (Fl.cls .f64 b) (Fl.cls .f64 b) != some Ordering.eq) = false := by
    rw [← Fl.ord_bits]
    show (Ieee.double.order b b != some Ordering.eq) = false
    rw [Fl.ord_self (Fl.fin_nan (word_facts (by omega)).2.2.1)]; rfl
  have t2 : (Fl.ordC .f64 (Fl.cls .f64 b) (Fl.cls .f64 0) == some Ordering.lt) = false := by
    rw [lt_word (by omega) (by omega)]; exact decide_eq_false (by omega)
  have t3 : (Fl.ordC .f64 (Fl.cls .f64 b) (Fl.cls .f64 0) == some Ordering.eq) = false := by
    rw [← Fl.ord_bits]
    show (Ieee.double.order b 0 == some Ordering.eq) = false
    rw [(order_word (by omega) (by omega)).2.2.2 (by omega)]; rfl
  have t4 : (Fl.ordC .f64 (Fl.cls .f64 b) (Fl.cls .f64 9218868437227405311) == some Ordering.gt) = false := by
    rw [← Fl.ord_bits]
    show (Ieee.double.order b 9218868437227405311 == some Ordering.gt) = false
    rw [(order_word (by omega) (by omega)).1.2 (by omega)]; rfl
  clear g1 g2
  go_enter Try.func68, Try.ntmps68
  go_wp2
  clear t1 t2 t3 t4
  go_loopw [0, 3] (fun x e wr => ∃ j c : Nat, Dn b j c ∧ x = .float .f64 c ∧ e = .int .i64 (j : Int) ∧ ∃ n, wr = w.drewN n) (fun x _ _ => fOf x)
  case atStart => exact ⟨0, b, Dn.zero HM.out, rfl, rfl, 0, rfl⟩
  case round =>
    obtain ⟨j, c, hd, rfl, rfl, m, rfl⟩ := hrel
    have HD := Lib.hid hd
    have hc0 : c < 6000000000000000000 := by have := hd.eq; have := HM.out.2; omega
    have hc3 := hd.low
    clear hd
    by_cases hge : 4609434218613702656 ≤ c
    · have ht : (Fl.ordC .f64 (Fl.cls .f64 c) (Fl.cls .f64 4609434218613702656) == some Ordering.gt || Fl.ordC .f64 (Fl.cls .f64 c) (Fl.cls .f64 4609434218613702656) == some Ordering.eq) = true := by
        rw [ge_word (by omega) (by omega)]; exact decide_eq_true hge
      have hh := Lib.hid (fun W => cls_inj (k := .f64) (by rw [Fl.cls_ares]; exact halve (b := c) (by omega) (by omega) : Fl.cls .f64 (Fl.ares W .quo .f64 c 4611686018427387904) = some (c - 4503599627370496)))
      have hj : j ≤ 400 := by have := HD.out.bound HM.out; omega
      have HG := Lib.hid hge
      clear hge hc0 hc3
      go_wp2
      go_roundw
      case rel => exact ⟨j + 1, c - 4503599627370496, HD.out.step HG.out, by rw [hh.out], by go_num, _, rfl⟩
      case measure => have h1 := hh.out (w.drewN m); have h2 := HG.out; simp only [fOf]; simp [h1]; omega
    · have ht : (Fl.ordC .f64 (Fl.cls .f64 c) (Fl.cls .f64 4609434218613702656) == some Ordering.gt || Fl.ordC .f64 (Fl.cls .f64 c) (Fl.cls .f64 4609434218613702656) == some Ordering.eq) = false := by
        rw [ge_word (by omega) (by omega)]; exact decide_eq_false hge
      have hj : j ≤ 400 := by have := HD.out.bound HM.out; omega
      have HG := Lib.hid hge
      have HC3 := Lib.hid hc3
      clear hge hc0 hc3
      go_wp2
      clear ht
      go_loopw [0, 3] (fun x e wr => ∃ i d : Nat, Up c i d ∧ x = .float .f64 d ∧ e = .int .i64 ((j : Int) - (i : Int)) ∧ i ≤ 400 ∧ ∃ n, wr = w.drewN n) (fun x _ _ => 6000000000000000000 - fOf x)
      case atStart => exact ⟨0, c, ⟨by omega, Or.inl rfl, by have := HG.out; omega⟩, rfl, by simp, by omega, _, rfl⟩
      case round =>
        obtain ⟨i, d, hu, rfl, rfl, hi, m2, rfl⟩ := hrel
        have HU := Lib.hid hu
        have hd1 : d < 4609434218613702656 := hu.high
        have hd2 : 3000000000000000000 ≤ d := by have := hu.eq; have := HC3.out; omega
        clear hu
        by_cases hlt : d < 4604930618986332160
        · have ht : (Fl.ordC .f64 (Fl.cls .f64 d) (Fl.cls .f64 4604930618986332160) == some Ordering.lt) = true := by
            rw [lt_word (by omega) (by omega)]; exact decide_eq_true hlt
          have hh := Lib.hid (fun W => cls_inj (k := .f64) (by rw [Fl.cls_ares]; exact double_word (b := d) (by omega) (by omega) : Fl.cls .f64 (Fl.ares W .mul .f64 d 4611686018427387904) = some (d + 4503599627370496)))
          have hi2 : i + 1 ≤ 400 := by have := HU.out.eq; have := HC3.out; omega
          have HL := Lib.hid hlt
          have HD2 := Lib.hid hd2
          clear hlt hd1 hd2
          go_wp2
          go_roundw
          case rel => exact ⟨i + 1, d + 4503599627370496, HU.out.step HL.out, by rw [hh.out], by simp; omega, hi2, _, rfl⟩
          case measure => have h1 := hh.out (w.drewN m2); have h2 := HL.out; simp only [fOf]; simp [h1]; omega
        · have ht : (Fl.ordC .f64 (Fl.cls .f64 d) (Fl.cls .f64 4604930618986332160) == some Ordering.lt) = false := by
            rw [lt_word (by omega) (by omega)]; exact decide_eq_false hlt
          have HS := Lib.hid (steps_of HD.out (by have := HG.out; omega) HU.out (by omega))
          have HX : Hid (Fl.cls .f64 d = some d) := Lib.hid (word_facts (by omega)).2.2.2.2
          clear hlt hd1 hd2
          go_wp2
          generalize hss : Fl.ares _ BinOp.quo FloatKind.f64 _ _ = ss
          have hs : Fl.cls .f64 ss = sL (some d) := by rw [← hss]; simp only [Fl.cls_ares, HX.out]; rfl
          generalize huu : Fl.ares _ BinOp.mul FloatKind.f64 ss ss = uu
          have hu : Fl.cls .f64 uu = mulC (sL (some d)) (sL (some d)) := by rw [← huu, Fl.cls_ares, hs]; rfl
          have HSS := Lib.hid hs
          have HUU := Lib.hid hu
          clear hss huu hs hu ht
          go_loopw [6, 7] (fun q k wr => ∃ g : Nat, g ≤ 13 ∧ k = .int .i64 (25 - 2 * (g : Int)) ∧ Is (qL (mulC (sL (some d)) (sL (some d))) g) q ∧ ∃ n, wr = w.drewN n) (fun _ k _ => (intOf k + 1).toNat)
          case atStart => exact ⟨0, by omega, rfl, ⟨_, rfl, rfl⟩, _, rfl⟩
          case round =>
            obtain ⟨g, hg, rfl, ⟨q, rfl, hq⟩, m3, rfl⟩ := hrel
            have HQ := Lib.hid hq
            clear hq
            by_cases hlt2 : g < 13
            · go_wp2
              go_roundw
              case rel => exact ⟨g + 1, by omega, by go_num, qL_step HUU.out HQ.out rfl _ _ _, _, rfl⟩
              case measure => simp [intOf]; omega
            · obtain rfl : g = 13 := by omega
              go_wp2
              refine bodyPost_ret (results_tmp rfl _ _ _) rfl ?_
              refine ⟨j, i, _, _, HS.out.1, hj, hi, rfl, rfl, ?_⟩
              rw [← HS.out.2]
              simp only [Fl.cls_ares, HSS.out, HQ.out]
              rfl
end Go.Proofs.Ytimdlnbdnednaac
