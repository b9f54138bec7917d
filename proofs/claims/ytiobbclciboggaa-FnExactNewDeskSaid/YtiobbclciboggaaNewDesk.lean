/- NewDesk answers as its model; each desk is new. -/
import Derived.Test.YtiobbclciboggaaDkN
import Derived.Deep.RegionWith
import Derived.Deep.DeepCutAuto
import Derived.Test.YtiobbclciboggaaFrame
import Derived.Outline
namespace Go.Proofs.Ytiobbclciboggaa
open Go.ChangeShapes Go.WideShapes Go.ChangeAt Go.RowKit Go.ChangeMaps

theorem DkD.split0 {lo hi : Nat} {w : World} {v : Value} (h : DkD lo hi w v dk0) : ∃ x1 k1 x2 k2 x3 k3 x4 k4 x5 k5 x6 k6, v = .agg #[.int .i64 2, .slice x1 4 k1, .slice x2 2 k2, .slice x3 2 k3, .slice x4 3 k4, .slice x5 2 k5, .slice x6 16 k6] := by
  obtain ⟨s1, s2, s3, z, j, y, a, b, c, d, e, -, rfl, h1, h2, h3, h4, h5, h6⟩ := h
  obtain ⟨x1, k1, rfl⟩ := SI.len h1
  obtain ⟨x2, k2, rfl⟩ := SI.len h2
  obtain ⟨x3, k3, rfl⟩ := SI.len h3
  obtain ⟨x4, k4, rfl⟩ := SI.len h4
  obtain ⟨x5, k5, rfl⟩ := AI.len' h5
  obtain ⟨x6, k6, rfl⟩ := SI.len h6
  exact ⟨x1, k1, x2, k2, x3, k3, x4, k4, x5, k5, x6, k6, rfl⟩
set_option maxRecDepth 100000 in
set_option maxHeartbeats 8000000 in
theorem fnExactNewDesk_all (w : World) : Calls Try.prog 12 #[] w (Says true w) := by
  have e36 : (1 : Int) + ((dk0.size : Nat) : Int) = 36 := by decide
  have E36 := Lib.hid e36
  have osz : Hid (dk0.size ≤ 1048576) := Lib.hid (by decide)
  clear e36
  go_enter Try.func12, Try.ntmps12
  go_wp2_with fail
  go_at_call 45; refine (specNewDesk_any _).mono ?_; rintro e w1 ⟨v1, rfl, i, b⟩
  have H1 := Lib.hid b
  have A1 := Lib.hid i
  obtain ⟨s1, s1k, s2, s2k, s3, s3k, s4, s4k, s5, s5k, s6, s6k, rfl⟩ := i.split0
  clear b i
  have X1 := Lib.hid (fun W (h : Below (w1.heap.size + 1) (w1.alloc (.cells #[.int .i64 2, .slice s1 4 s1k, .slice s2 2 s2k, .slice s3 2 s3k, .slice s4 3 s4k, .slice s5 2 s5k, .slice s6 16 s6k] 56)) W) => (Box7.mk' w1 (.int .i64 2) (.slice s1 4 s1k) (.slice s2 2 s2k) (.slice s3 2 s3k) (.slice s4 3 s4k) (.slice s5 2 s5k) (.slice s6 16 s6k) 56).keep h (Nat.lt_succ_self _))
  have N1 : Hid (Below w1.heap.size w1 (w1.alloc (.cells #[.int .i64 2, .slice s1 4 s1k, .slice s2 2 s2k, .slice s3 2 s3k, .slice s4 3 s4k, .slice s5 2 s5k, .slice s6 16 s6k] 56)) ∧ (w1.alloc (.cells #[.int .i64 2, .slice s1 4 s1k, .slice s2 2 s2k, .slice s3 2 s3k, .slice s4 3 s4k, .slice s5 2 s5k, .slice s6 16 s6k] 56)).heap.size = w1.heap.size + 1) := Lib.hid ⟨below_alloc _ _, by simp⟩
  go_wp2_with fail
  go_at_call 46; refine (implNewDesk_any _).mono ?_; rintro e w2 ⟨v2, rfl, i, b⟩
  rw [N1.out.2] at i b
  have zb := b.size
  rw [N1.out.2] at zb
  have B2 := Lib.hid (N1.out.1.trans (b.mono (Nat.le_succ _)))
  have H2 := Lib.hid (H1.out.trans (B2.out.mono H1.out.size))
  have X2 := Lib.hid (X1.out _ b)
  have D1 := Lib.hid (A1.out.below B2.out (Nat.le_refl _))
  have A2 := Lib.hid i
  obtain ⟨r1, r1k, r2, r2k, r3, r3k, r4, r4k, r5, r5k, r6, r6k, rfl⟩ := i.split0
  clear b i A1 X1
  have Y2 := Lib.hid (Box7.mk' w2 (.int .i64 2) (.slice r1 4 r1k) (.slice r2 2 r2k) (.slice r3 2 r3k) (.slice r4 3 r4k) (.slice r5 2 r5k) (.slice r6 16 r6k) 56)
  have Z2 : Hid (∀ A, Below w2.heap.size w2 (w2.alloc A) ∧ (w2.alloc A).heap.size = w2.heap.size + 1) := Lib.hid fun A => ⟨below_alloc _ _, by simp⟩
  obtain ⟨c0, c1, c2, c3, c4, c5, c6⟩ := X2.out
  have l0 := X2.out.lt
  go_wp2_with fail
  clear c0 c1 c2 c3 c4 c5 c6
  go_at_call 47; refine (eqDesk_any _ _ dk0 _ osz.out (A2.out.dkv.below (Z2.out _).1 (Nat.le_refl _)) (D1.out.dkv.below (Z2.out _).1 (Nat.le_refl _))).mono ?_; rintro e w3 ⟨rfl, b⟩
  rw [(Z2.out _).2] at b
  have zc := b.size
  rw [(Z2.out _).2] at zc
  have B3 := Lib.hid ((Z2.out _).1.trans (b.mono (Nat.le_succ _)))
  have H3 := Lib.hid (H2.out.trans (B3.out.mono H2.out.size))
  have X3 := Lib.hid (X2.out.keep B3.out X2.out.lt)
  have Y3 := Lib.hid (Y2.out.keep b (Nat.lt_succ_self _))
  have D3 := Lib.hid (D1.out.below B3.out (Nat.le_refl _))
  have A3 := Lib.hid (A2.out.below B3.out (Nat.le_refl _))
  clear b X2 Y2 D1 A2 Z2
  obtain ⟨c0, c1, c2, c3, c4, c5, c6⟩ := Y3.out
  go_wp2_with fail
  clear c0 c1 c2 c3 c4 c5 c6
  go_at_call 48; refine (markDesk_any (w1.heap.size + 1) w2.heap.size _ dk0 1 _ A3.out osz.out (by omega) (by omega)).mono ?_; rintro e w4 ⟨rfl, i, t⟩
  rw [E36.out]
  have hz1 := H1.out.size
  have H4 := Lib.hid (H3.out.trans ((t.below (by omega)).mono (by omega)))
  have X4 := Lib.hid (X3.out.kept t (Or.inl (by omega)))
  have Y4 := Lib.hid (Y3.out.kept t (Or.inr (by omega)))
  have D4 := Lib.hid (D3.out.kept t (Or.inl (by omega)))
  have A4 := Lib.hid i
  have z4 := t.size
  clear i t X3 Y3 D3 A3
  obtain ⟨c0, c1, c2, c3, c4, c5, c6⟩ := Y4.out
  go_wp2_with fail
  clear c0 c1 c2 c3 c4 c5 c6
  go_at_call 49; refine (heldDesk_any _ 1 dk0 _ A4.out.dkv osz.out (by omega) (by omega)).mono ?_; rintro e w5 ⟨rfl, b⟩
  rw [E36.out]
  have z5 := b.size
  have H5 := Lib.hid (H4.out.trans (b.mono H4.out.size))
  have X5 := Lib.hid (X4.out.keep b X4.out.lt)
  have Y5 := Lib.hid (Y4.out.keep b Y4.out.lt)
  have D5 := Lib.hid (D4.out.below b (Nat.le_refl _))
  have A5 := Lib.hid (A4.out.below b (Nat.le_refl _))
  clear b X4 Y4 D4 A4
  go_wp2_with fail
  go_at_call 46; refine (implNewDesk_any _).mono ?_; rintro e w6 ⟨v3, rfl, i, b⟩
  have z6 := b.size
  have H6 := Lib.hid (H5.out.trans (b.mono H5.out.size))
  have X6 := Lib.hid (X5.out.keep b X5.out.lt)
  have Y6 := Lib.hid (Y5.out.keep b Y5.out.lt)
  have D6 := Lib.hid (D5.out.below b (Nat.le_refl _))
  have A6 := Lib.hid (A5.out.below b (Nat.le_refl _))
  have C6 := Lib.hid i
  obtain ⟨q1, q1k, q2, q2k, q3, q3k, q4, q4k, q5, q5k, q6, q6k, rfl⟩ := i.split0
  clear b i X5 Y5 D5 A5
  have Z6 : Hid (∀ A, Below w6.heap.size w6 (w6.alloc A)) := Lib.hid fun A => below_alloc _ _
  obtain ⟨c0, c1, c2, c3, c4, c5, c6⟩ := X6.out
  have l1 := X6.out.lt
  have l2 := Y6.out.lt
  go_wp2_with fail
  clear c0 c1 c2 c3 c4 c5 c6
  go_at_call 47; refine (eqDesk_any _ _ dk0 _ osz.out (C6.out.dkv.below (Z6.out _) (Nat.le_refl _)) (D6.out.dkv.below (Z6.out _) (Nat.le_refl _))).mono ?_; rintro e w7 ⟨rfl, b⟩
  have B7 := Lib.hid ((Z6.out _).trans (b.mono (Z6.out _).size))
  have H7 := Lib.hid (H6.out.trans (B7.out.mono H6.out.size))
  have Y7 := Lib.hid (Y6.out.keep B7.out Y6.out.lt)
  have A7 := Lib.hid (A6.out.below B7.out (Nat.le_refl _))
  clear b X6 Y6 D6 A6 C6 Z6
  obtain ⟨c0, c1, c2, c3, c4, c5, c6⟩ := Y7.out
  go_wp2_with fail
  clear c0 c1 c2 c3 c4 c5 c6
  go_at_call 49; refine (heldDesk_any _ 1 dk0 _ A7.out.dkv osz.out (by omega) (by omega)).mono ?_; rintro e w8 ⟨rfl, b⟩
  rw [E36.out]
  have H8 := Lib.hid (H7.out.trans (b.mono H7.out.size))
  clear b
  go_wp2_with fail
  go_ret
  exact says rfl H8.out

theorem Try.own : ownKnob Try.prog.godebug = none := by kernel_rfl
theorem Try.laidOut : laidOutB Try.prog = true := by kernel_rfl
theorem f32_lt {x : Nat} (h : (Lit.float .f32 x).wf = true) : x < 4294967296 := by simpa [Lit.wf] using h
theorem f64_lt {x : Nat} (h : (Lit.float .f64 x).wf = true) : x < 18446744073709551616 := by simpa [Lit.wf] using h
theorem i64_in {x : Int} (h : (Lit.int .i64 x).wf = true) : -9223372036854775808 ≤ x ∧ x ≤ 9223372036854775807 := by
  have h1 : IntKind.i64.min = -9223372036854775808 := by decide
  have h2 : IntKind.i64.max = 9223372036854775807 := by decide
  simp only [Lit.wf, Bool.and_eq_true, decide_eq_true_eq, h1, h2] at h
  exact h

set_option maxRecDepth 100000 in
theorem fnExactNewDesk_lifted (os : Os) (started : os.Started) (H : Type) (enc : TypeId × Value → H) :
    ReturnsInHanded {} Try.checked os 12 .any (Rows.fnExactNewDeskSpec.pre6 enc Try.prog Try.f12 [] false) (Rows.fnExactNewDeskSpec.post enc Try.prog Try.f12 false true false false) := by
  refine Frame.law_lifted (tb := 4) Try.own started (by kernel_rfl) Try.func12
    (ChangeSpec.witness6 (enc := enc) (C := Try.checked) false ⟨#[], #[], []⟩ 8 (by kernel_rfl) (by kernel_rfl) (by kernel_rfl) (by kernel_rfl))
    Try.laidOut (by kernel_rfl) rfl (by kernel_rfl) Try.underlying4 (fun ds hd => ?_) ?_
  · rw [Try.params12] at hd
    match ds, hd with
    | [], _ => exact ⟨rfl, rfl, rfl⟩
  intro W base args ds p hval0 hA0 hlt hsz0
  have hval : ∀ (j : Nat) t v, Try.f12.params[j]? = some t → args[j]? = some v → Value.okWide Try.prog W .any base t v := hval0
  have hA : DataW.TrodAll enc Try.prog W 0 (fun _ => true) true Try.f12.params.toList args.toList ds p := hA0
  have hsz : (DataW.weightsEach Try.prog Try.f12.params.toList ds).all (· ≤ reachBytes) = true := hsz0
  rw [Try.params12] at hA hval hsz
  clear hval0 hA0 hsz0
  obtain ⟨rfl, rfl, rfl⟩ := trodAll_none hA
  exact fnExactNewDesk_all W

theorem fnExactNewDesk_holds : Rows.FnExactNewDeskSaid :=
  OpenClaim.holds_of_wide 12 Try.f12 rfl rfl rfl rfl rfl rfl rfl ⟨rfl, rfl, rfl, rfl, rfl⟩ rfl rfl rfl rfl rfl (by kernel_rfl) Try.func12 (by kernel_rfl)
    (of_decide_eq_true (by kernel_rfl)) (by unfold Func.isWrapper; first | (rw [if_pos (by decide +kernel)]; kernel_rfl) | (rw [if_neg (by decide +kernel)]; exact ⟨rfl, rfl⟩))
    (fun os started H enc _ => fnExactNewDesk_lifted os started H enc)
end Go.Proofs.Ytiobbclciboggaa
