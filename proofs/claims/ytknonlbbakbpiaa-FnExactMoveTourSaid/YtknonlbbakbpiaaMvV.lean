/- MoveTour: the program, for all arguments. -/
import Derived.Test.YtknonlbbakbpiaaMvI
namespace Go.Proofs.Ytknonlbbakbpiaa
open Go.RowKit Go.ChangeShapes Go.WideShapes
set_option maxRecDepth 100000

set_option maxHeartbeats 4000000 in
theorem implMoveTour_any (v : Value) (L : List Int) (u : Value) (T : List Int) (w : World) (hv : IL w v L) (hu : IL w u T) (o : OKI L) (_ : OKI T) :
    Calls Try.prog 31 #[v, u] w (SaysJIB (mvL L T) (mvC L T) (validB L T) w) := by
  have hn := o.size
  have HV := Lib.hid hv
  have HU := Lib.hid hu
  obtain ⟨ao, cap, rfl⟩ := hv.long
  obtain ⟨ao2, cap2, rfl⟩ := hu.long
  clear hv hu
  cases h : validB L T with
  | false =>
    rw [(mv_no h).1, (mv_no h).2]
    have H := Lib.hid h
    clear h
    go_enter Try.func31, Try.ntmps31
    go_wp2_with fail
    go_at_call 77; refine (tourIn_no _ _ L T _ HV.out HU.out hn H.out).mono ?_; rintro e w1 ⟨rfl, b⟩
    have B := Lib.hid b
    clear b
    go_wp2_with fail
    refine bodyPost_ret (v := .tuple #[.slice none 0 0, .int .i64 0, .bool false]) (by simp [results, Try.results31, go_sem]) rfl ?_
    exact ⟨_, rfl, SI.nil _ (Nat.le_refl _) _ _, B.out.trans ((below_alloc w1 _).mono B.out.size)⟩
  | true =>
    rw [(mv_yes h).1, (mv_yes h).2]
    have HXX : Hid (mvR L (rootN L.length) 10001 T 0 = mvX L T) := Lib.hid rfl
    generalize mvX L T = R at HXX
    unfold validB at h
    rw [Bool.and_eq_true] at h
    have H1 := Lib.hid h.1
    have H2 := Lib.hid h.2
    have HCO := Lib.hid (cityB_ok h.1)
    have HTO := Lib.hid (tourB_ok h.2)
    clear h
    obtain ⟨k, hk⟩ : ∃ k, rootN L.length = k := ⟨_, rfl⟩
    have HK := Lib.hid hk
    rw [hk] at H2 HCO HTO HXX
    clear hk
    go_enter Try.func31, Try.ntmps31
    go_wp2_with fail
    go_at_call 77; refine (tourIn_yes k _ _ L T _ HV.out HU.out hn H1.out HK.out H2.out).mono ?_; rintro e w1 ⟨B, rfl, hr⟩
    have HR := Lib.hid hr
    have B1 := Lib.hid (hr.below.trans ((below_alloc w1 (.cells #[.int .i64 k, .slice ao L.length cap, .slice (some ⟨B, 0, none⟩) k k] 106)).mono hr.below.size))
    have P := Lib.hid (show IL (w1.alloc (.cells #[.int .i64 k, .slice ao L.length cap, .slice (some ⟨B, 0, none⟩) k k] 106)) (.slice (some ⟨B, 0, none⟩) k k) (List.replicate k 0) by
      have h := (hr.arr.si (lo := 0) (Nat.zero_le _) hr.lt).vl
      rw [List.length_replicate] at h
      exact VL.below h (below_alloc w1 _) (Nat.le_refl _))
    have SH := Lib.hid (shortenM_any k _ _ _ L T _ (VL.below HV.out B1.out (Nat.le_refl _)) P.out (VL.below HU.out B1.out (Nat.le_refl _)) HCO.out HTO.out)
    rw [HXX.out] at SH
    have hw1 : w.heap.size ≤ w1.heap.size := hr.below.size
    clear hr
    go_wp2_with fail
    go_at_call 78; refine SH.out.mono ?_; rintro e w2 ⟨x, rfl, s2, b2⟩
    have S2 := Lib.hid s2
    have B2 := Lib.hid (B1.out.trans (b2.mono B1.out.size))
    obtain ⟨xa, xc, rfl⟩ := SI.len s2
    clear s2 b2
    go_wp2_with fail
    refine bodyPost_ret (v := .tuple #[.slice xa R.1.length xc, .int .i64 R.2, .bool true]) (by simp [results, Try.results31, go_sem]) rfl ?_
    exact ⟨_, rfl, SI.wide S2.out (by simp; omega) (Nat.le_refl _) (Nat.le_refl _), B2.out⟩
end Go.Proofs.Ytknonlbbakbpiaa
