/- The greatest of a list of finite singles; singles rounded down: the program. -/
import Derived.Test.YtmkbjkjgemipcaaRp0
import Derived.Test.YtmkbjkjgemipcaaLaw
import Derived.Test.YtmkbjkjgemipcaaGrw
import Derived.Test.YtmkbjkjgemipcaaI64
import Derived.Deep.LoopGhost
import Derived.Outline
namespace Go.Proofs.Ytmkbjkjgemipcaa
open Go.RowKit Go.ChangeShapes Go.WideShapes

theorem conv_rd {x : Nat} (h : rdB x = true) (W : World) : (convert 102 2 (.float .f32 x)).run Try.prog W = .ok (.int .i64 (truncF x)) W :=
  run_convert_float_int W _ _ .f32 .i64 x (truncF x) (by rw [Try.underlying102]; rfl) Try.underlying2 (trunc_some h)
theorem run_max2F {P : Program} {x y : Nat} (hx : fin32 x = true) (hy : fin32 y = true) (T : Array TypeId) (t : TypeId) (W : World) :
    (Builtin.max_ T t #[.float .f32 x, .float .f32 y]).run P W = .ok (.float .f32 (max2F x y)) W := by
  obtain ⟨o, ho⟩ := ord_some hx hy
  unfold Builtin.max_ max2F
  rw [ho]
  cases o <;> simp [Builtin.max2, ho]
theorem ret_flt {a b : Nat} (h : a = b) : Ending.returned (.float .f32 a) = .returned (.float .f32 b) := by rw [h]
set_option maxHeartbeats 2000000 in
theorem slicesMaxF_any (v : Value) (Z : List Nat) (w : World) (hv : SL w v Z) (h1 : 1 ≤ Z.length) (hn : Z.length ≤ 1048576) (hf : finAll Z = true) :
    Calls Try.prog 82 #[v] w (fun e w' => e = .returned (.float .f32 (mxF Z (Z.length - 1))) ∧ w = w') := by
  have HF := Lib.hid (mx_facts (Z := Z) (fun i hi => fin_atR hf hi))
  have HA := Lib.hid hf
  clear hf
  rcases hv with ⟨rfl, ao, cap, rfl⟩ | ⟨b, off, cap, rfl, hpos, hbl, hcell⟩
  · simp at h1
  have HC := Lib.hid hcell
  have x0 : w.cell? ⟨b, off, none⟩ = some (.float .f32 (mxF Z 0)) := hcell 0 hpos
  generalize hm : mxF Z 0 = y0 at x0
  have HM0 := Lib.hid hm
  clear hcell hm
  go_enter Try.func82, Try.ntmps82
  go_wp2_with fail
  go_loopg [3, 4] Z.length (fun gk s3 s4 wr => ∃ k : Nat, k < Z.length ∧ gk + k = Z.length ∧ s3 = .float .f32 (mxF Z k) ∧ s4 = .int .i64 ((k : Int) + 1) ∧ w = wr)
  case atStart => exact ⟨0, hpos, by omega, by rw [HM0.out], rfl, rfl⟩
  case round =>
    obtain ⟨k, hk, hgk, rfl, rfl, rfl⟩ := hrel
    by_cases hlt : k + 1 < Z.length
    · have x1 := HC.out (k + 1) hlt
      have lk : (k : Int) + 1 < (Z.length : Int) := by omega
      have lk2 : (0 : Int) ≤ (k : Int) + 1 := by omega
      have lk3 : ((k : Int) + 1).toNat = k + 1 := by omega
      have HM : Hid (mxF Z (k + 1) = max2F (mxF Z k) (Z.getD (k + 1) 0)) := Lib.hid rfl
      have F1 := Lib.hid (HF.out k hk).1
      have F2 := Lib.hid (fin_atR HA.out hlt)
      generalize Z.getD (k + 1) 0 = y at x1 HM F2
      generalize mxF Z k = x at HM F1
      have rm := fun T t W => run_max2F (P := Try.prog) F1.out F2.out T t W
      generalize max2F x y = q at rm HM
      go_wp2_with fail
      go_roundg (gk - 1)
      case measure => omega
      case rel => exact ⟨k + 1, hlt, by omega, by rw [HM.out], by go_num, rfl⟩
    · have lk : ¬ (k : Int) + 1 < (Z.length : Int) := by omega
      have HK : Hid (k = Z.length - 1) := Lib.hid (by omega)
      generalize hx : mxF Z k = x
      have HX := Lib.hid hx
      clear hx
      go_wp2_with fail
      go_ret
      exact ⟨ret_flt (by rw [← HK.out]; exact HX.out.symm), rfl⟩

set_option maxRecDepth 100000 in
set_option maxHeartbeats 4000000 in
theorem roundedDown_any (v : Value) (Z : List Nat) (w : World) (hv : SL w v Z) (hn0 : 1 ≤ Z.length) (hn : Z.length ≤ 1048576) (hf : allRd Z = true) :
    Calls Try.prog 83 #[v] w (Made (Value.int .i64) (0 : Int) (rdT Z Z.length) w) := by
  obtain ⟨i0, hi, hz0, hz1, hz2⟩ := info_parts Try.infoI
  have HF := Lib.hid hf
  rcases hv with ⟨rfl, -⟩ | ⟨bb, off, cap, rfl, hpos, hbl, hcell⟩
  · exact absurd hn0 (by simp)
  have HC := Lib.hid hcell
  clear hcell hf
  go_enter Try.func83, Try.ntmps83
  go_wp2_with fail
  go_loopg [3, 8] Z.length (fun gk v i wr => ∃ k : Nat, k ≤ Z.length ∧ gk + k = Z.length ∧ i = .int .i64 k ∧ Below w.heap.size w wr ∧ Grows (Value.int .i64) 2 w.heap.size v (rdT Z k) wr)
  case atStart => exact ⟨0, Nat.zero_le _, by omega, rfl, Below.refl _ _, Grows.nil _ _ _ _⟩
  case round =>
    obtain ⟨k, hk, hgk, rfl, hB, hG⟩ := hrel
    have HB := Lib.hid hB
    have HG := Lib.hid hG
    have HML := Lib.hid (rdT_len hk)
    clear hB hG
    by_cases hlt : k < Z.length
    · have HUP := Lib.hid (rdT_up hlt)
      have HX := Lib.hid (rd_at HF.out hlt)
      have y0 : wr.cell? ⟨bb, off + k, none⟩ = some (.float .f32 (Z.getD k 0)) := by rw [HB.out.cell (p := ⟨bb, off + k, none⟩) hbl]; exact HC.out k hlt
      have hsz := HB.out.size
      generalize Z.getD k 0 = x at y0 HX HUP
      have rc := fun W => conv_rd HX.out W
      go_wp2_with (at_builtin; refine wpList_append_own _ rfl _ _ 27 rfl w.heap.size 2 i0 (.int .i64 0) 1 8 Try.underlying27 hi hz0 hz1 hz2 rfl (by decide) _ _ _ rfl (Grows.alloc HG.out _) ⟨wr.heap.size, 0, none⟩ 1 1 [.int .i64 (truncF x)] rfl rfl one_new (by intro u hu; simp at hu; subst hu; rfl) (by rw [HML.out]; unfold maxLen; omega) (by rw [HML.out]; omega) (by simp; omega) ?_)
      intro v' w' hown hgrow _
      have HN2 : Hid (Below w.heap.size w w' ∧ Grows (Value.int .i64) 2 w.heap.size v' (rdT Z (k + 1)) w') := Lib.hid ⟨(HB.out.alloc HB.out.size _).grown hgrow (by simp; omega) (fun g hg => HG.out.block g hg), by rw [HUP.out]; exact Grows.more (news := [truncF x]) rfl hown⟩
      clear hown hgrow
      go_wp2_with fail
      go_roundg (gk - 1)
      case measure => omega
      case rel => exact ⟨k + 1, by omega, by omega, by go_num, HN2.out.1, HN2.out.2⟩
    · obtain rfl : k = Z.length := by omega
      go_wp2_with fail
      refine bodyPost_ret (results_tmp rfl _ _ _) rfl ?_
      exact ⟨_, rfl, HG.out.si, HB.out⟩
end Go.Proofs.Ytmkbjkjgemipcaa
