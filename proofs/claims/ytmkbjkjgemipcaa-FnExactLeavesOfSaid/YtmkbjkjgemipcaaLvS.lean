/- The ends of a tree: the model. -/
import Derived.Test.YtmkbjkjgemipcaaChS
namespace Go.Proofs.Ytmkbjkjgemipcaa
open Go.RowKit Go.ChangeShapes Go.WideShapes

set_option maxRecDepth 100000 in
set_option maxHeartbeats 4000000 in
theorem specLv_yes (v : Value) (T : Tr) (w : World) (hv : TrV w v T) (o : OKTr T) (h : treeB T.P T.V = true) :
    Calls Try.prog 26 #[v] w (SaysJB (lvL T.P T.V) true w) := by
  obtain ⟨i0, hi, hz0, hz1, hz2⟩ := info_parts Try.infoI
  obtain ⟨P, V⟩ := T
  have O := Lib.hid o
  have H := Lib.hid h
  have tk := treeB_ok h
  have n1 := tk.l1
  have n2 := tk.l2
  have HLE := Lib.hid (lvL_yes h)
  have HLN := Lib.hid (fun k => lvN_len P k)
  simp only at n1 n2 HLE HLN ⊢
  obtain ⟨s1, s2, rfl, g1, g2⟩ := hv
  simp only at g1 g2
  have HA := Lib.hid (TrAt.mk' (T := ⟨P, V⟩) g1 g2 32)
  obtain ⟨x1, k1, rfl⟩ := g1.long
  obtain ⟨W, hW⟩ : ∃ W, W = w.alloc (.cells #[.slice x1 P.length k1, s2] 32) := ⟨_, rfl⟩
  have HWW := Lib.hid hW
  have HB : Hid (Below w.heap.size w W) := Lib.hid (by rw [hW]; exact below_alloc w _)
  have HAW : Hid (TrAt W w.heap.size ⟨P, V⟩) := Lib.hid (by rw [hW]; exact HA.out)
  have HX : Hid (W.cell? ⟨w.heap.size, 0, none⟩ = some (.slice x1 P.length k1)) := Lib.hid (by rw [hW]; exact World.cell?_alloc_new w #[.slice x1 P.length k1, s2] 32 0)
  have hzW : w.heap.size < W.heap.size := by rw [hW]; simp
  have HRL := Lib.hid (below_alloc W (.cells #[] 2))
  clear g1 g2 tk h o hW
  go_enter Try.func26, Try.ntmps26
  go_wp2_with fail
  rw [← HWW.out]
  go_at_call 66; refine (l07Tree_is true _ ⟨P, V⟩ _ HAW.out O.out H.out).mono ?_; rintro e w1 ⟨rfl, m, rfl⟩
  obtain ⟨W1, hW1⟩ : ∃ W1, W1 = W.drewN m := ⟨_, rfl⟩
  rw [← hW1]
  have HB1 : Hid (Below w.heap.size w W1) := Lib.hid (by rw [hW1]; exact below_drewN HB.out m)
  have HA1 : Hid (TrAt W1 w.heap.size ⟨P, V⟩) := Lib.hid (by rw [hW1]; exact HAW.out.keep (below_drewN (Below.refl _ _) m))
  have c0 : W1.cell? ⟨w.heap.size, 0, none⟩ = some (.slice x1 P.length k1) := by rw [hW1]; exact HX.out
  have HC0 := Lib.hid c0
  have hz1W : w.heap.size < W1.heap.size := by rw [hW1]; simpa using hzW
  have HE := Lib.hid (Grows.empty (Value.int .i64) 2 W1.heap.size W1 (Nat.le_refl _))
  have HBE := Lib.hid (below_alloc W1 (.cells #[] 2))
  clear hW1 hzW
  go_wp2_with fail
  go_loopg [4, 12] P.length (fun gk s i wr => ∃ k : Nat, k ≤ P.length ∧ gk + k = P.length ∧ i = .int .i64 k ∧ Below W1.heap.size W1 wr ∧ Grows (Value.int .i64) 2 W1.heap.size s (lvN P k) wr)
  case atStart => exact ⟨0, Nat.zero_le _, by omega, rfl, HBE.out, HE.out⟩
  case round =>
    clear c0
    obtain ⟨k, hk, hgk, rfl, hB, hG⟩ := hrel
    have HBR := Lib.hid hB
    have HG := Lib.hid hG
    have hsz := hB.size
    by_cases hlt : k < P.length
    · have HAR := Lib.hid (HA1.out.keep hB)
      clear hB hG
      go_wp2_with fail
      go_at_call 71; refine (l07Children_any _ k ⟨P, V⟩ _ HAR.out n2).mono ?_; rintro e w2 ⟨u, rfl, iu, b2⟩
      have HB2 := Lib.hid (HBR.out.trans (b2.mono HBR.out.size))
      have HG2 := Lib.hid (HG.out.below b2 (Nat.le_refl _))
      obtain ⟨ux, uk, rfl⟩ := iu.len
      simp only
      cases hq : noKid P k with
      | true =>
        have hl : (chL P k).length = 0 := by simpa [noKid] using hq
        have HN := Lib.hid (lvN_yes hq)
        have hl2 : ((chL P k).length : Int) = 0 := by omega
        rw [hl]
        clear iu b2 hq hl hl2
        go_wp2_with (at_builtin; refine wpList_append_own _ rfl _ _ 27 rfl W1.heap.size 2 i0 (.int .i64 0) 1 8 Try.underlying27 hi hz0 hz1 hz2 rfl (by decide) _ _ _ rfl (Grows.alloc HG2.out _) ⟨w2.heap.size, 0, none⟩ 1 1 [.int .i64 (k : Int)] rfl rfl ?c1 ?c2 ?c3 ?c4 ?c5 ?_)
        case c1 => exact one_new
        case c2 => intro u hu; simp at hu; subst hu; rfl
        case c3 => have := HLN.out k; unfold maxLen; omega
        case c4 => have := HLN.out k; omega
        case c5 => have := HB2.out.size; simp; omega
        intro v' w' hown hgrow _
        have HN2 : Hid (Below W1.heap.size W1 w' ∧ Grows (Value.int .i64) 2 W1.heap.size v' (lvN P (k + 1)) w') := Lib.hid ⟨(HB2.out.alloc HB2.out.size _).grown hgrow (by have := HB2.out.size; simp; omega) (fun g hg => HG2.out.block g hg), by rw [HN.out]; exact Grows.more (news := [(k : Int)]) rfl hown⟩
        clear hown hgrow
        go_wp2_with fail
        go_roundg (gk - 1)
        case measure => omega
        case rel => exact ⟨k + 1, by omega, by omega, by go_num, HN2.out.1, HN2.out.2⟩
      | false =>
        have hl : (chL P k).length ≠ 0 := by simpa [noKid] using hq
        have HN := Lib.hid (lvN_no hq)
        have HLC : Hid ((chL P k).length ≤ 64) := Lib.hid (Nat.le_trans (chN_len P k _) n2)
        obtain ⟨q, hq2⟩ : ∃ q, q = (chL P k).length := ⟨_, rfl⟩
        rw [← hq2] at hl ⊢
        have hl2 : ((q : Int) == 0) = false := by simpa using hl
        have hl3 : ¬ (q : Int) = 0 := by omega
        clear iu b2 hq hq2 hl
        go_wp2_with fail
        go_roundg (gk - 1)
        case measure => omega
        case rel => exact ⟨k + 1, by omega, by omega, by go_num, HB2.out, by rw [HN.out]; exact HG2.out⟩
    · obtain rfl : k = P.length := by omega
      have HR := Lib.hid (hG.si (d := (0 : Int)))
      clear hB hG
      obtain ⟨sx, sk, rfl⟩ := HR.out.len
      go_wp2_with fail
      refine bodyPost_ret (v := .tuple #[.slice sx (lvN P P.length).length sk, .bool true]) (by simp [results, Try.results26, go_sem]) rfl ?_
      rw [HLE.out]
      exact ⟨_, rfl, SI.wide HR.out (lo' := w.heap.size) HB1.out.size (Nat.le_refl _) (Nat.le_refl _), HB1.out.trans (HBR.out.mono HB1.out.size)⟩
theorem specLeavesOf_any (v : Value) (T : Tr) (w : World) (hv : TrV w v T) (o : OKTr T) :
    Calls Try.prog 26 #[v] w (SaysJB (lvL T.P T.V) (treeB T.P T.V) w) := by
  cases h : treeB T.P T.V with
  | true => exact specLv_yes v T w hv o h
  | false =>
    rw [lvL_no h]
    have H := Lib.hid h
    obtain ⟨s1, s2, rfl, g1, g2⟩ := hv
    have HA := Lib.hid (TrAt.mk' (T := T) g1 g2 32)
    clear g1 g2 h
    go_enter Try.func26, Try.ntmps26
    go_wp2_with fail
    go_at_call 66; refine (l07Tree_is false _ T _ HA.out o H.out).mono ?_; rintro e w1 ⟨rfl, m, rfl⟩
    go_wp2_with fail
    go_ret2
    exact ⟨_, rfl, SI.nil _ (Nat.le_refl _) _ _, below_drewN (below_alloc w _) _⟩
end Go.Proofs.Ytmkbjkjgemipcaa
