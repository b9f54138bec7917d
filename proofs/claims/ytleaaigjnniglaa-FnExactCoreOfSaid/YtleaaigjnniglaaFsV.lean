/- The first model: the law's two sides. -/
import Derived.Test.YtleaaigjnniglaaFsM
import Derived.Test.YtleaaigjnniglaaCnV
namespace Go.Proofs.Ytleaaigjnniglaa
open Go.RowKit Go.ChangeShapes Go.WideShapes

def firstL (F : Fm) : List Bool := match modsF F with
  | [] => []
  | x :: _ => valsB F.letters.toNat x.toNat
def firstB (F : Fm) : Bool := !(modsF F).isEmpty
theorem firstL_len (F : Fm) : (firstL F).length ≤ 1048576 := by
  unfold firstL
  split
  · simp
  · rename_i x t h
    have hf : formB F = true := by
      cases hq : formB F with
      | true => rfl
      | false => rw [modsF_no hq] at h; cases h
    have h2 := (formB_ok hf).num.L2
    unfold valsB
    rw [valK_len]
    omega
theorem first_nil {F : Fm} (h : modsF F = []) : firstL F = [] ∧ firstB F = false := by unfold firstL firstB; rw [h]; exact ⟨rfl, rfl⟩
theorem first_cons {F : Fm} {x : Int} {t : List Int} (h : modsF F = x :: t) : firstL F = valsB F.letters.toNat x.toNat ∧ firstB F = true := by unfold firstL firstB; rw [h]; exact ⟨rfl, rfl⟩
set_option maxRecDepth 100000 in
set_option maxHeartbeats 4000000 in
theorem implFirstModel_any (v : Value) (F : Fm) (w : World) (hv : FmV w v F) (o : OKFm F) :
    Calls Try.prog 31 #[v] w (SaysBB (firstL F) (firstB F) w) := by
  have hv0 := hv
  obtain ⟨s1, rfl, g1⟩ := hv
  have HV := Lib.hid (fun wx (hb : Below w.heap.size w wx) => hv0.below hb (Nat.le_refl _))
  have hb0 := Lib.hid (fun o => below_alloc w o)
  obtain ⟨ao, cap, rfl⟩ := g1.long
  clear hv0 g1
  cases h1 : formB F with
  | false =>
    have HN := Lib.hid (first_nil (modsF_no h1))
    have H1 := Lib.hid h1
    clear h1
    go_enter Try.func31, Try.ntmps31
    go_wp2_with fail
    go_at_call 22; refine (implForm_any _ F _ (HV.out _ (hb0.out _)) o).mono ?_; rintro e w1 ⟨rfl, b1⟩
    rw [H1.out]
    have HB := Lib.hid ((hb0.out _).trans (b1.mono (hb0.out _).size))
    clear b1
    go_wp2_with fail
    go_ret2
    exact saysBB HN.out.1.symm HN.out.2.symm bi_nil HB.out
  | true =>
    obtain ⟨L, hL⟩ : ∃ L, L = F.letters.toNat := ⟨_, rfl⟩
    have hm0 := modsF_yes h1
    have hh0 := (formB_ok h1).num
    rw [← hL] at hm0 hh0
    have HM := Lib.hid hm0
    have HH := Lib.hid hh0
    have H1 := Lib.hid h1
    have hp2 := hh0.p2
    have HL2 := Lib.hid hh0.L2
    have HNN := Lib.hid hh0.n
    have HLE := Lib.hid hL
    clear h1 hm0 hh0 hL
    go_enter Try.func31, Try.ntmps31
    go_wp2_with fail
    go_at_call 22; refine (implForm_any _ F _ (HV.out _ (hb0.out _)) o).mono ?_; rintro e w1 ⟨rfl, b1⟩
    rw [H1.out]
    have HB := Lib.hid ((hb0.out _).trans (b1.mono (hb0.out _).size))
    have HBX := Lib.hid ((Box2.mk' w (.int .i64 F.letters) (.slice ao F.cs.length cap) 31).keep b1 (by simp))
    obtain ⟨c0, c1⟩ := HBX.out
    clear b1
    go_wp2_with fail
    go_at_call 69; refine (modelsOf_any _ F L _ (HV.out _ HB.out) o HH.out).mono ?_; rintro e w2 ⟨v2, rfl, hi2, b2⟩
    rw [← HM.out] at hi2
    have HB2 := Lib.hid (HB.out.trans (b2.mono HB.out.size))
    have HBX2 := Lib.hid (HBX.out.keep b2 HBX.out.lt)
    have hin : ∀ x, x ∈ modsF F → ∃ m : Nat, m < 1024 ∧ x = (m : Int) := fun x hx => by
      rw [HM.out] at hx
      obtain ⟨m, h1, h2⟩ := modK_in hx
      exact ⟨m, by omega, h2⟩
    have HF1 := Lib.hid (@first_nil F)
    have HF2 := Lib.hid (fun x t => @first_cons F x t)
    clear c0 c1 b2 hp2
    generalize modsF F = Z at hi2 hin HF1 HF2
    have hIL := II.il hi2
    clear hi2
    cases Z with
    | nil =>
      have HN := Lib.hid (HF1.out rfl)
      obtain ⟨ax, cx, rfl⟩ := hIL.long
      clear hIL hin
      go_wp2_with fail
      go_ret2
      exact saysBB HN.out.1.symm HN.out.2.symm bi_nil HB2.out
    | cons x t =>
      have HN := Lib.hid (HF2.out _ _ rfl)
      obtain ⟨m, hm, rfl⟩ := hin x (List.mem_cons_self ..)
      obtain ⟨b, off, cap2, rfl, hbl, hcell⟩ := fails_cells hIL (by simp)
      have d0 : w2.cell? ⟨b, off, none⟩ = some (.int .i64 (m : Int)) := by
        have := hcell 0 (by simp)
        simpa using this
      obtain ⟨n, hn⟩ : ∃ n, n = ((m : Int) :: t).length := ⟨_, rfl⟩
      rw [← hn]
      have hn1 : 1 ≤ n := by rw [hn]; simp
      have hne : ((n : Int) == 0) = false := beq_false_of_ne (by omega)
      have hlp : (0 : Int) < (n : Int) := by omega
      have hlp2 : 0 < n := by omega
      obtain ⟨c0, c1⟩ := HBX2.out
      rw [HNN.out] at c0
      clear hcell hin hIL hn
      go_wp2_with fail
      go_region_held3 (fun w' => w'.cell? ⟨w.heap.size, 0, none⟩ = some (.int .i64 (L : Int)) ∧ w'.cell? ⟨b, off, none⟩ = some (.int .i64 (m : Int))) (first | exact ⟨c0, d0⟩ | exact S2.out) (first
        | (go_at_call 70; refine (valuesAt_any L m _ HL2.out hm).mono ?_; rintro e w3 ⟨v3, rfl, hi3, b3⟩; have bz := (below_drewN (Below.refl w2.heap.size w2) 1).trans b3; have H3 := Lib.hid (HB2.out.trans (bz.mono HB2.out.size)); have HI3 := Lib.hid hi3; have HZ3 := Lib.hid HB2.out.size; have S2 : Hid (_ ∧ _) := Lib.hid ⟨keep_cell c0 bz (cell_block c0), keep_cell d0 bz hbl⟩; clear b3 bz hi3))
      all_goals
        go_wp2_with fail
        go_ret2
        exact saysBB (by rw [HN.out.1, HLE.out]; rfl) HN.out.2.symm (SI.wide HI3.out HZ3.out (Nat.le_refl _) (Nat.le_refl _)) H3.out
set_option maxRecDepth 100000 in
set_option maxHeartbeats 4000000 in
theorem specFirstModel_any (v : Value) (F : Fm) (w : World) (hv : FmV w v F) (o : OKFm F) :
    Calls Try.prog 30 #[v] w (SaysBB (firstL F) (firstB F) w) := by
  have hls : ∃ ao cap, v = .agg #[.int .i64 F.letters, .slice ao F.cs.length cap] := by
    obtain ⟨s1, e, h⟩ := hv
    obtain ⟨ao, cap, rfl⟩ := h.long
    exact ⟨ao, cap, e⟩
  obtain ⟨ao, cap, rfl⟩ := hls
  obtain ⟨s1, e1, g1⟩ := FmAt.mk' hv 31
  obtain rfl : s1 = .slice ao F.cs.length cap := by simpa using e1.symm
  have G1 := Lib.hid g1
  have hb0 := Lib.hid (fun o => below_alloc w o)
  clear g1 e1 hv
  cases h1 : formB F with
  | false =>
    have HN := Lib.hid (first_nil (modsF_no h1))
    have H1 := Lib.hid h1
    clear h1
    go_enter Try.func30, Try.ntmps30
    go_wp2_with fail
    go_at_call 55; refine (l05Is_any w.heap.size F _ G1.out o).mono ?_; rintro e w1 ⟨rfl, b1⟩
    rw [H1.out]
    have HB := Lib.hid ((hb0.out _).trans (b1.mono (hb0.out _).size))
    clear b1
    go_wp2_with fail
    go_ret2
    exact saysBB HN.out.1.symm HN.out.2.symm bi_nil HB.out
  | true =>
    obtain ⟨L, hL⟩ : ∃ L, L = F.letters.toNat := ⟨_, rfl⟩
    have hm0 := modsF_yes h1
    have hh0 := (formB_ok h1).num
    rw [← hL] at hm0 hh0
    have HH := Lib.hid hh0
    have H1 := Lib.hid h1
    have hp2 := hh0.p2
    have HL2 := Lib.hid hh0.L2
    have HNN := Lib.hid hh0.n
    have HLE := Lib.hid hL
    have hin : ∀ x, x ∈ modsF F → ∃ m : Nat, m < 1024 ∧ x = (m : Int) := fun x hx => by
      rw [hm0] at hx
      obtain ⟨m, h1, h2⟩ := modK_in hx
      exact ⟨m, by omega, h2⟩
    have HF1 := Lib.hid (@first_nil F)
    have HF2 := Lib.hid (fun x t => @first_cons F x t)
    have HFI : Hid (headI (modK L F.cs (2 ^ L)) = headI (modsF F)) := Lib.hid (by rw [hm0])
    generalize modsF F = Z at hin HF1 HF2 HFI
    clear h1 hm0 hh0 hL hp2
    cases Z with
    | nil =>
      have HN := Lib.hid (HF1.out rfl)
      clear hin
      go_enter Try.func30, Try.ntmps30
      go_wp2_with fail
      go_at_call 55; refine (l05Is_any w.heap.size F _ G1.out o).mono ?_; rintro e w1 ⟨rfl, b1⟩
      rw [H1.out]
      have HB := Lib.hid ((hb0.out _).trans (b1.mono (hb0.out _).size))
      have G2 := Lib.hid (G1.out.keep b1)
      clear b1
      go_wp2_with fail
      go_at_call 67; refine (l05First_any w.heap.size F L _ G2.out o HH.out).mono ?_; rintro e w2 ⟨rfl, m, rfl⟩
      rw [HFI.out]
      simp only [headI, List.headD]
      go_wp2_with fail
      go_ret2
      exact saysBB HN.out.1.symm HN.out.2.symm bi_nil (below_drewN HB.out _)
    | cons x t =>
      have HN := Lib.hid (HF2.out _ _ rfl)
      obtain ⟨m, hm, rfl⟩ := hin x (List.mem_cons_self ..)
      clear hin
      go_enter Try.func30, Try.ntmps30
      go_wp2_with fail
      go_at_call 55; refine (l05Is_any w.heap.size F _ G1.out o).mono ?_; rintro e w1 ⟨rfl, b1⟩
      rw [H1.out]
      have HB := Lib.hid ((hb0.out _).trans (b1.mono (hb0.out _).size))
      have G2 := Lib.hid (G1.out.keep b1)
      obtain ⟨c0, c1⟩ := (Box2.mk' w (.int .i64 F.letters) (.slice ao F.cs.length cap) 31).keep b1 (by simp)
      rw [HNN.out] at c0
      have HC0 := Lib.hid c0
      clear b1 c0 c1
      go_wp2_with fail
      go_at_call 67; refine (l05First_any w.heap.size F L _ G2.out o HH.out).mono ?_; rintro e w2 ⟨rfl, q, rfl⟩
      rw [HFI.out]
      simp only [headI, List.headD]
      have c0 := HC0.out
      have hneg : ¬ (m : Int) < 0 := by omega
      go_wp2_with fail
      go_at_call 68; refine (l05Values_any L m _ HL2.out hm).mono ?_; rintro e w3 ⟨v3, rfl, hi3, b3⟩
      have HBQ := Lib.hid (below_drewN HB.out q)
      have H3 := Lib.hid (HBQ.out.trans (b3.mono HBQ.out.size))
      have HI3 := Lib.hid (SI.wide hi3 HBQ.out.size (Nat.le_refl _) (Nat.le_refl _))
      clear b3 hi3 c0
      go_wp2_with fail
      go_ret2
      exact saysBB (by rw [HN.out.1, HLE.out]; rfl) HN.out.2.symm HI3.out H3.out
end Go.Proofs.Ytleaaigjnniglaa
