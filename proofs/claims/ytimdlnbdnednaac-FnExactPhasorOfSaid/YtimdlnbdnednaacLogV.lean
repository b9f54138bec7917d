/- The logarithm: both sides' loops. -/
import Derived.Test.YtimdlnbdnednaacLogW
namespace Go.Proofs.Ytimdlnbdnednaac
open Go.RowKit
attribute [local go_sem] run_add run_sub run_mul run_quo Fl.cls_ares Fl.ord_bits run_neg

theorem inc_all : ∀ n : Fin 512, addC (intC (n.val : Int)) oneC = intC ((n.val : Int) + 1) := by decide +kernel
theorem dec_all : ∀ n : Fin 1024, subC (intC ((n.val : Int) - 512)) oneC = intC ((n.val : Int) - 513) := by decide +kernel
theorem inc_int {n : Int} (h0 : 0 ≤ n) (h1 : n < 512) : addC (intC n) oneC = intC (n + 1) := by
  obtain ⟨k, rfl⟩ := Int.eq_ofNat_of_zero_le h0
  exact inc_all ⟨k, by omega⟩
theorem dec_int {n : Int} (h0 : -512 ≤ n) (h1 : n < 512) : subC (intC n) oneC = intC (n - 1) := by
  have h := dec_all ⟨(n + 512).toNat, by omega⟩
  rw [show (((n + 512).toNat : Nat) : Int) - 512 = n by omega, show (((n + 512).toNat : Nat) : Int) - 513 = n - 1 by omega] at h
  exact h
theorem int_zero : Fl.cls .f64 0 = intC 0 := by decide +kernel

def fOf : Value → Nat
  | .float _ b => b
  | _ => 0
theorem cls_inj {k : FloatKind} {x y : Nat} (h : Fl.cls k x = some y) : x = y := by
  unfold Fl.cls at h; split at h
  · cases h
  · injection h

def qL (u : Option Nat) : Nat → Option Nat
  | 0 => litC 0
  | j + 1 => addC (quoC oneC (intC (25 - 2 * (j : Int)))) (mulC u (qL u j))
def sL (x : Option Nat) : Option Nat := quoC (subC x oneC) (addC x oneC)
def logC (b : Nat) (n : Int) : Option Nat :=
  addC (mulC (litC 4611686018427387904) (mulC (sL (some b)) (qL (mulC (sL (some b)) (sL (some b))) 13))) (mulC (intC n) (litC 4604418534313441775))
theorem qL_step {u : Option Nat} {U j q : Nat} {n : Int} (hu : Fl.cls .f64 U = u) (hq : Fl.cls .f64 q = qL u j) (hn : n = 25 - 2 * (j : Int)) (w1 w2 w3 : World) :
    Is (qL u (j + 1)) (.float .f64 (Fl.ares w1 .add .f64 (Fl.ares w2 .quo .f64 4607182418800017408 (floatOfInt .f64 n)) (Fl.ares w3 .mul .f64 U q))) :=
  ⟨_, rfl, by simp only [Fl.cls_ares, hq, hu, hn]; rfl⟩
def Logged (b : Nat) (w : World) (e : Ending) (w' : World) : Prop :=
  ∃ j i r n, Steps b j i ∧ j ≤ 400 ∧ i ≤ 400 ∧ e = .returned (.float .f64 r) ∧ w' = w.drewN n ∧ Fl.cls .f64 r = logC (b - j * 4503599627370496 + i * 4503599627370496) ((j : Int) - (i : Int))

/-- The first loop's state: j times halved. -/
structure Dn (b j c : Nat) : Prop where
  eq : b = c + j * 4503599627370496
  least : j = 0 ∨ c + 4503599627370496 ≥ 4609434218613702656
  low : 3000000000000000000 ≤ c
/-- The second loop's state: doubled i times from c on. -/
structure Up (c i d : Nat) : Prop where
  eq : d = c + i * 4503599627370496
  least : i = 0 ∨ d < 4604930618986332160 + 4503599627370496
  high : d < 4609434218613702656
theorem Dn.zero {b : Nat} (h : Mid b) : Dn b 0 b := ⟨by omega, Or.inl rfl, h.1⟩
theorem Dn.bound {b j c : Nat} (h : Dn b j c) (hm : Mid b) : j ≤ 400 ∨ c < 4609434218613702656 ∧ j ≤ 400 := by
  obtain ⟨h1, h2, h3⟩ := h
  obtain ⟨h4, h5⟩ := hm
  omega
theorem Dn.step {b j c : Nat} (h : Dn b j c) (hc : 4609434218613702656 ≤ c) : Dn b (j + 1) (c - 4503599627370496) := by
  obtain ⟨h1, h2, h3⟩ := h
  exact ⟨by omega, Or.inr (by omega), by omega⟩
theorem Up.step {c i d : Nat} (h : Up c i d) (hd : d < 4604930618986332160) : Up c (i + 1) (d + 4503599627370496) := by
  obtain ⟨h1, h2, h3⟩ := h
  exact ⟨by omega, Or.inr (by omega), by omega⟩
theorem steps_of {b j c i d : Nat} (h : Dn b j c) (hc : c < 4609434218613702656) (k : Up c i d) (hd : 4604930618986332160 ≤ d) : Steps b j i ∧ d = b - j * 4503599627370496 + i * 4503599627370496 := by
  obtain ⟨h1, h2, h3⟩ := h
  obtain ⟨k1, k2, k3⟩ := k
  exact ⟨⟨by omega, by omega, by omega, by omega, by omega⟩, by omega⟩

set_option maxHeartbeats 2000000 in
theorem wideLog_any (b : Nat) (hm : Mid b) (w : World) : Calls Try.prog 46 #[.float .f64 b] w (Logged b w) := by
  have HM := Lib.hid hm
  have HB : Hid (Fl.cls .f64 b = some b) := Lib.hid (word_facts (by obtain ⟨h1, h2⟩ := hm; omega)).2.2.2.2
  clear hm
  go_enter Try.func46, Try.ntmps46
  go_wp2
  go_loopw [0, 3] (fun x e wr => ∃ j c : Nat, Dn b j c ∧ x = .float .f64 c ∧ Is (intC j) e ∧ ∃ n, wr = w.drewN n) (fun x _ _ => fOf x)
  case atStart => exact ⟨0, b, Dn.zero HM.out, rfl, ⟨0, rfl, int_zero⟩, 0, rfl⟩
  case round =>
    obtain ⟨j, c, hd, rfl, ⟨ee, rfl, he⟩, m, rfl⟩ := hrel
    have HD := Lib.hid hd
    have HE := Lib.hid he
    have hc0 : c < 6000000000000000000 := by have := hd.eq; have := HM.out.2; omega
    have hc3 := hd.low
    clear hd he
    by_cases hge : 4609434218613702656 ≤ c
    · have ht : (Fl.ordC .f64 (Fl.cls .f64 c) (Fl.cls .f64 4609434218613702656) == some Ordering.gt || Fl.ordC .f64 (Fl.cls .f64 c) (Fl.cls .f64 4609434218613702656) == some Ordering.eq) = true := by
        rw [ge_word (by omega) (by omega)]; exact decide_eq_true hge
      have hh := Lib.hid (fun W => cls_inj (k := .f64) (by rw [Fl.cls_ares]; exact halve (b := c) (by omega) (by omega) : Fl.cls .f64 (Fl.ares W .quo .f64 c 4611686018427387904) = some (c - 4503599627370496)))
      have hj : j ≤ 400 := by have := HD.out.bound HM.out; omega
      have HG := Lib.hid hge
      clear hge hc0 hc3
      go_wp2
      go_roundw
      case rel => exact ⟨j + 1, c - 4503599627370496, HD.out.step HG.out, by rw [hh.out], ⟨_, rfl, by rw [Fl.cls_ares, HE.out]; exact inc_int (by omega) (by omega)⟩, _, rfl⟩
      case measure => have h1 := hh.out (w.drewN m); have h2 := HG.out; simp only [fOf]; simp [h1]; omega
    · have ht : (Fl.ordC .f64 (Fl.cls .f64 c) (Fl.cls .f64 4609434218613702656) == some Ordering.gt || Fl.ordC .f64 (Fl.cls .f64 c) (Fl.cls .f64 4609434218613702656) == some Ordering.eq) = false := by
        rw [ge_word (by omega) (by omega)]; exact decide_eq_false hge
      have hj : j ≤ 400 := by have := HD.out.bound HM.out; omega
      have HG := Lib.hid hge
      have HC3 := Lib.hid hc3
      clear hge hc0 hc3
      go_wp2
      clear ht
      go_loopw [0, 3] (fun x e wr => ∃ i d : Nat, Up c i d ∧ x = .float .f64 d ∧ Is (intC ((j : Int) - (i : Int))) e ∧ i ≤ 400 ∧ ∃ n, wr = w.drewN n) (fun x _ _ => 6000000000000000000 - fOf x)
      case atStart => exact ⟨0, c, ⟨by omega, Or.inl rfl, by have := HG.out; omega⟩, rfl, ⟨_, rfl, by rw [HE.out]; simp⟩, by omega, _, rfl⟩
      case round =>
        obtain ⟨i, d, hu, rfl, ⟨e2, rfl, he2⟩, hi, m2, rfl⟩ := hrel
        have HU := Lib.hid hu
        have HE2 := Lib.hid he2
        have hd1 : d < 4609434218613702656 := hu.high
        have hd2 : 3000000000000000000 ≤ d := by have := hu.eq; have := HC3.out; omega
        clear hu he2
        by_cases hlt : d < 4604930618986332160
        · have ht : (Fl.ordC .f64 (Fl.cls .f64 d) (Fl.cls .f64 4604930618986332160) == some Ordering.lt) = true := by
            rw [lt_word (by omega) (by omega)]; exact decide_eq_true hlt
          have hh := Lib.hid (fun W => cls_inj (k := .f64) (by rw [Fl.cls_ares]; exact double_word (b := d) (by omega) (by omega) : Fl.cls .f64 (Fl.ares W .mul .f64 d 4611686018427387904) = some (d + 4503599627370496)))
          have hi2 : i + 1 ≤ 400 := by have := HU.out.eq; have := HC3.out; omega
          have HL := Lib.hid hlt
          have HD2 := Lib.hid hd2
          clear hlt hd1 hd2
          go_wp2
          go_roundw
          case rel => exact ⟨i + 1, d + 4503599627370496, HU.out.step HL.out, by rw [hh.out], ⟨_, rfl, by rw [Fl.cls_ares, HE2.out]; rw [show ((j : Int) - ((i + 1 : Nat) : Int)) = ((j : Int) - (i : Int)) - 1 by omega]; exact dec_int (by omega) (by omega)⟩, hi2, _, rfl⟩
          case measure => have h1 := hh.out (w.drewN m2); have h2 := HL.out; simp only [fOf]; simp [h1]; omega
        · have ht : (Fl.ordC .f64 (Fl.cls .f64 d) (Fl.cls .f64 4604930618986332160) == some Ordering.lt) = false := by
            rw [lt_word (by omega) (by omega)]; exact decide_eq_false hlt
          have HS := Lib.hid (steps_of HD.out (by have := HG.out; omega) HU.out (by omega))
          have HX : Hid (Fl.cls .f64 d = some d) := Lib.hid (word_facts (by omega)).2.2.2.2
          clear hlt hd1 hd2
          go_wp2
          generalize hss : Fl.ares _ BinOp.quo FloatKind.f64 _ _ = ss
          have hs : Fl.cls .f64 ss = sL (some d) := by rw [← hss]; simp only [Fl.cls_ares, HX.out]; rfl
          generalize huu : Fl.ares _ BinOp.mul FloatKind.f64 ss ss = uu
          have hu : Fl.cls .f64 uu = mulC (sL (some d)) (sL (some d)) := by rw [← huu, Fl.cls_ares, hs]; rfl
          have HSS := Lib.hid hs
          have HUU := Lib.hid hu
          clear hss huu hs hu ht
          go_loopw [6, 7] (fun q k wr => ∃ g : Nat, g ≤ 13 ∧ k = .int .i64 (25 - 2 * (g : Int)) ∧ Is (qL (mulC (sL (some d)) (sL (some d))) g) q ∧ ∃ n, wr = w.drewN n) (fun _ k _ => (intOf k + 1).toNat)
          case atStart => exact ⟨0, by omega, rfl, ⟨_, rfl, rfl⟩, _, rfl⟩
          case round =>
            obtain ⟨g, hg, rfl, ⟨q, rfl, hq⟩, m3, rfl⟩ := hrel
            have HQ := Lib.hid hq
            clear hq
            by_cases hlt2 : g < 13
            · go_wp2
              go_roundw
              case rel => exact ⟨g + 1, by omega, by go_num, qL_step HUU.out HQ.out rfl _ _ _, _, rfl⟩
              case measure => simp [intOf]; omega
            · obtain rfl : g = 13 := by omega
              go_wp2
              refine bodyPost_ret (results_tmp rfl _ _ _) rfl ?_
              refine ⟨j, i, _, _, HS.out.1, hj, hi, rfl, rfl, ?_⟩
              rw [← HS.out.2]
              simp only [Fl.cls_ares, HSS.out, HQ.out, HE2.out]
              rfl
end Go.Proofs.Ytimdlnbdnednaac
