/- The text of jobs: the program. -/
import Derived.Test.YtdmlhjhhkiajaaaDoorJt0
import Derived.Test.YtdmlhjhhkiajaaaDoorJbI
import Derived.Test.YtdmlhjhhkiajaaaDoorOwn
import Derived.Test.YtdmlhjhhkiajaaaDoorGrw
import Derived.Deep.LoopGhost
namespace Go.Proofs.YtdmlhjhhkiajaaaDoor
open Go.RowKit Go.ChangeShapes Go.WideShapes

theorem four_new {a b c d : Value} {w : World} {T : TypeId} : ∀ j u, [a, b, c, d][j]? = some u → (w.alloc (.cells #[a, b, c, d] T)).cell? ((⟨w.heap.size, 0, none⟩ : Addr).add j) = some u := by
  intro j u hu
  have hj : j < 4 := (List.getElem?_eq_some_iff.1 hu).1
  rw [Addr.add_lit, Nat.zero_add, World.cell?_alloc_new]
  match j, hj with
  | 0, _ => simpa using hu
  | 1, _ => simpa using hu
  | 2, _ => simpa using hu
  | 3, _ => simpa using hu
theorem Tryd.infoJt : (Tryd.prog.info? 2).map (fun i => (i.zero, i.size, i.bytes)) = some (some (.int .i64 0), 1, 8) := by kernel_rfl
set_option maxRecDepth 100000 in
set_option maxHeartbeats 4000000 in
theorem implJobsText_any (v : Value) (Z : List Ac) (w : World) (hv : AV w v Z) (o : OKA Z) (hp : PowTab w) :
    Calls Tryd.prog 41 #[v] w (SaysSB (jtD Z) (jobsB Z) w) := by
  obtain ⟨i0, hi, hz0, hz1, hz2⟩ := info_parts Tryd.infoJt
  have hn := o.size
  have HV := Lib.hid hv
  have HP := Lib.hid hp
  clear hp
  cases h : jobsB Z with
  | false =>
    have e : jtD Z = [] := by unfold jtD; rw [h]; rfl
    rw [e]
    obtain ⟨ao, cap, rfl⟩ := hv.long
    have H := Lib.hid h
    clear hv h e
    go_enter Tryd.func41, Tryd.ntmps41
    go_wp2_with fail
    go_at_call 86; refine (areJobs_is false _ Z _ HV.out hn H.out).mono ?_; rintro e w1 ⟨rfl, b1⟩
    have B1 := Lib.hid b1
    clear b1
    go_wp2_with fail
    go_ret2
    exact ⟨rfl, B1.out⟩
  | true =>
    have H := Lib.hid h
    have HJ := Lib.hid (jtD_yes h)
    have J := jobsB_ok h
    have n1 := J.n1
    have n2 := J.n2
    rw [HJ.out.1]
    rcases hv with ⟨hz, -⟩ | ⟨b, off, cap, rfl, hpos, hbl, hcell⟩
    · rw [hz] at n1; simp at n1
    have HC := Lib.hid hcell
    have HFL := Lib.hid (flK_len Z)
    have LT := Lib.hid (fun u W hv hp => implListText_any u (flK Z Z.length) W hv ⟨by rw [flK_len]; omega, by rw [flK_len]; unfold maxLen; omega, fun x hx => by have := flK_all (jobsB_ok H.out) Z.length (Nat.le_refl _) x hx; omega⟩ hp)
    rw [HJ.out.2.1, HJ.out.2.2] at LT
    clear hcell h J
    go_enter Tryd.func41, Tryd.ntmps41
    go_wp2_with fail
    go_at_call 86; refine (areJobs_is true _ Z _ HV.out hn H.out).mono ?_; rintro e w1 ⟨rfl, b1⟩
    have B1 := Lib.hid b1
    clear b1
    go_wp2_with fail
    go_loopg [4, 12] Z.length (fun gk s i wr => ∃ k : Nat, k ≤ Z.length ∧ gk + k = Z.length ∧ i = .int .i64 k ∧ Grows (Value.int .i64) 2 w.heap.size s (flK Z k) wr ∧ Below w.heap.size w wr)
    case atStart => exact ⟨0, Nat.zero_le _, by omega, rfl, Grows.nil _ _ _ _, B1.out⟩
    case round =>
      obtain ⟨k, hk, hgk, rfl, hG, hwr⟩ := hrel
      have HWR := Lib.hid hwr
      have HG := Lib.hid hG
      have HGK := Lib.hid hgk
      by_cases hlt : k < Z.length
      · have ak := (HC.out k hlt).keep hwr hbl
        have HS : Hid (flK Z (k + 1) = flK Z k ++ jn (Z.getD k zA)) := Lib.hid rfl
        generalize Z.getD k zA = A at ak HS
        obtain ⟨a0, a1, a2, a3⟩ := ak
        have hfl := HFL.out k
        have hsz := hwr.size
        generalize flK Z k = F at HG HS hfl
        have HFN := Lib.hid hfl
        clear hG hwr hgk hfl
        go_wp2_with (at_builtin; refine wpList_append_own _ rfl _ _ 27 rfl w.heap.size 2 i0 (.int .i64 0) 1 8 Tryd.underlying27 hi hz0 hz1 hz2 rfl (by decide) _ _ _ rfl (World.ownsRow.alloc (Grows.alloc HG.out _) _) ⟨wr.heap.size + 1, 0, none⟩ 4 4 [.int .i64 A.f, .int .i64 A.t, .int .i64 A.r, .int .i64 A.c] rfl rfl ?c1 ?c2 ?c3 ?c4 ?c5 ?_)
        case c1 => have h := @four_new (.int .i64 A.f) (.int .i64 A.t) (.int .i64 A.r) (.int .i64 A.c) (wr.alloc (.cells #[.int .i64 A.f, .int .i64 A.t, .int .i64 A.r, .int .i64 A.c] 108)) 2; simpa using h
        case c2 => intro u hu; simp at hu; rcases hu with rfl | rfl | rfl | rfl <;> rfl
        case c3 => rw [HFN.out]; unfold maxLen; omega
        case c4 => rw [HFN.out]; omega
        case c5 => simp; omega
        intro v' w' hown hgrow _
        have GN : Hid (Grows (Value.int .i64) 2 w.heap.size v' (flK Z (k + 1)) w') := Lib.hid (by rw [HS.out]; exact Grows.more (news := jn A) rfl hown)
        have BN : Hid (Below w.heap.size w w') := Lib.hid (((HWR.out.alloc HWR.out.size _).alloc (by simp; omega) _).grown hgrow (by simp; omega) (fun g hg => HG.out.block g hg))
        clear hown hgrow
        go_wp2_with fail
        go_roundg (gk - 1)
        case measure => have := HGK.out; omega
        case rel => exact ⟨k + 1, by omega, by have := HGK.out; omega, by go_num, GN.out, BN.out⟩
      · obtain rfl : k = Z.length := by omega
        have hil := hG.si (d := (0 : Int))
        have L1 := Lib.hid (LT.out _ _ hil.vl (HP.out.below' hwr))
        clear hG hwr hgk hil
        go_wp2_with fail
        go_at_call 21; refine L1.out.mono ?_; rintro e w3 ⟨rfl, b3⟩
        have B3 := Lib.hid (HWR.out.trans (b3.mono HWR.out.size))
        clear b3
        go_wp2_with fail
        go_ret2
        exact ⟨rfl, B3.out⟩
end Go.Proofs.YtdmlhjhhkiajaaaDoor
