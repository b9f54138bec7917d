/- SwapTour: the model, for all arguments. -/
import Derived.Test.YtknonlbbakbpiaaSwT
namespace Go.Proofs.Ytknonlbbakbpiaa
open Go.RowKit Go.ChangeShapes Go.WideShapes
set_option maxRecDepth 100000

def swX (L T : List Int) : List Int × Int := swR L (rootN L.length) 10001 T 0
def swL (L T : List Int) : List Int := if validB L T then (swX L T).1 else []
def swC (L T : List Int) : Int := if validB L T then (swX L T).2 else 0
theorem sw_yes {L T : List Int} (h : validB L T = true) : swL L T = (swX L T).1 ∧ swC L T = (swX L T).2 := by unfold swL swC; rw [h]; exact ⟨rfl, rfl⟩
theorem sw_no {L T : List Int} (h : validB L T = false) : swL L T = [] ∧ swC L T = 0 := by unfold swL swC; rw [h]; exact ⟨rfl, rfl⟩
theorem swL_len (L T : List Int) : (swL L T).length ≤ 1048576 := by
  cases h : validB L T with
  | false => rw [(sw_no h).1]; simp
  | true =>
    rw [(sw_yes h).1]
    unfold swX
    rw [swR_len]
    unfold validB at h
    rw [Bool.and_eq_true] at h
    have := (tourB_ok h.2).len
    have := rootN_in L.length
    omega
set_option maxHeartbeats 2000000 in
theorem specSwapTour_any (v : Value) (L : List Int) (u : Value) (T : List Int) (w : World) (hv : IL w v L) (hu : IL w u T) (o : OKI L) (_ : OKI T) :
    Calls Try.prog 24 #[v, u] w (SaysJIB (swL L T) (swC L T) (validB L T) w) := by
  have hn := o.size
  have HV := Lib.hid hv
  have HU := Lib.hid hu
  obtain ⟨ao, cap, rfl⟩ := hv.long
  obtain ⟨ao2, cap2, rfl⟩ := hu.long
  clear hv hu
  cases h : validB L T with
  | false =>
    rw [(sw_no h).1, (sw_no h).2]
    have H := Lib.hid h
    clear h
    go_enter Try.func24, Try.ntmps24
    go_wp2_with fail
    go_at_call 75; refine (l04Valid_is false _ _ L T _ HV.out HU.out hn H.out).mono ?_; rintro e w' ⟨rfl, b⟩
    have B := Lib.hid b
    clear b
    go_wp2_with fail
    refine bodyPost_ret (v := .tuple #[.slice none 0 0, .int .i64 0, .bool false]) (by simp [results, Try.results24, go_sem]) rfl ?_
    exact ⟨_, rfl, SI.nil _ (Nat.le_refl _) _ _, B.out⟩
  | true =>
    rw [(sw_yes h).1, (sw_yes h).2]
    have H := Lib.hid h
    unfold validB at h
    rw [Bool.and_eq_true] at h
    have HCO := Lib.hid (cityB_ok h.1)
    have HTO := Lib.hid (tourB_ok h.2)
    have SW := Lib.hid fun W (hb : Below w.heap.size w W) => l04Swap_any (.slice ao L.length cap) (.slice ao2 T.length cap2) L T (rootN L.length) W (VL.below HV.out hb (Nat.le_refl _)) (VL.below HU.out hb (Nat.le_refl _)) HCO.out HTO.out
    have HXX : Hid (swR L (rootN L.length) 10001 T 0 = swX L T) := Lib.hid rfl
    rw [HXX.out] at SW
    generalize swX L T = R at SW
    clear h HXX
    go_enter Try.func24, Try.ntmps24
    go_wp2_with fail
    go_at_call 75; refine (l04Valid_is true _ _ L T _ HV.out HU.out hn H.out).mono ?_; rintro e w2 ⟨rfl, b⟩
    have B := Lib.hid b
    have hw2 := b.size
    clear b
    go_wp2_with fail
    go_at_call 76; refine (SW.out _ B.out).mono ?_; rintro e w3 ⟨x, rfl, s3, b3⟩
    have S3 := Lib.hid s3
    have B3 := Lib.hid b3
    obtain ⟨xa, xc, rfl⟩ := SI.len s3
    clear s3 b3
    go_wp2_with fail
    refine bodyPost_ret (v := .tuple #[.slice xa R.1.length xc, .int .i64 R.2, .bool true]) (by simp [results, Try.results24, go_sem]) rfl ?_
    exact ⟨_, rfl, SI.wide S3.out hw2 (Nat.le_refl _) (Nat.le_refl _), B.out.trans (B3.out.mono hw2)⟩
end Go.Proofs.Ytknonlbbakbpiaa
