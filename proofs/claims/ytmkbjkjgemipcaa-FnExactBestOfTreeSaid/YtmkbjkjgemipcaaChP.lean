/- The children of all indices of a tree, and which are even: the program. -/
import Derived.Test.YtmkbjkjgemipcaaKid
import Derived.Test.YtmkbjkjgemipcaaTr
import Derived.Deep.OwnRows
import Derived.Maps.AppendAt
namespace Go.Proofs.Ytmkbjkjgemipcaa
open Go.RowKit Go.ChangeShapes Go.WideShapes

theorem Try.infoBo : (Try.prog.info? 4).map (fun i => (i.zero, i.size, i.bytes)) = some (some (.bool false), 1, 1) := by kernel_rfl
/-- Which of the first k indices are even; the first one is from the beginning on. -/
def evK (P : List Int) (k j : Nat) : Bool := if j < k ∨ j = 0 then evB P j else false
theorem evK_start (P : List Int) (j : Nat) : (if j = 0 then true else false) = evK P 0 j := by
  unfold evK
  by_cases e : j = 0
  · subst e; rfl
  · rw [if_neg e, if_neg (by omega)]
theorem evK_one (P : List Int) (j : Nat) : evK P 0 j = evK P 1 j := by
  unfold evK
  by_cases e : j = 0
  · subst e; rfl
  · rw [if_neg (by omega), if_neg (by omega)]
theorem evK_step {P : List Int} {k : Nat} (hk : 0 < k) (j : Nat) : (if j = k then evB P k else evK P k j) = evK P (k + 1) j := by
  unfold evK
  by_cases e : j = k
  · subst e; rw [if_pos rfl, if_pos (by omega)]
  · rw [if_neg e]
    by_cases c : j < k ∨ j = 0
    · rw [if_pos c, if_pos (by omega)]
    · rw [if_neg c, if_neg (by omega)]
theorem evK_old {P : List Int} {k j : Nat} (h : j < k) : evK P k j = evB P j := by unfold evK; rw [if_pos (Or.inl h)]
/-- What childrenIn hands back. -/
def Kids (w : World) (P : List Int) (e : Ending) (w' : World) : Prop := ∃ B E lo U, e = .returned (.tuple #[.slice (some ⟨B, 0, none⟩) P.length P.length, .slice (some ⟨E, 0, none⟩) P.length P.length]) ∧ KidsAt w B E lo P.length U (fun a => chL P a) (fun j => evB P j) w'
set_option maxRecDepth 100000 in
set_option maxHeartbeats 8000000 in
theorem childrenIn_any (v : Value) (T : Tr) (w : World) (hv : TrV w v T) (h : TreeOk T.P T.V) :
    Calls Try.prog 72 #[v] w (Kids w T.P) := by
  obtain ⟨P, V⟩ := T
  obtain ⟨s1, s2, rfl, g1, -⟩ := hv
  simp only at g1 h ⊢
  obtain ⟨i0, hi, hz0, hz1, hz2⟩ := info_parts Try.infoI
  have n1 := h.l1
  have n2 := h.l2
  have HT := Lib.hid h
  have hmk1 := run_make_row' (P := Try.prog) 22 27 (.slice none 0 0) 24 Try.underlying22 Try.infoL rfl .i64 .i64 P.length (by omega) (by omega)
  have hmk2 := run_make_row' (P := Try.prog) 91 4 (.bool false) 1 Try.underlying91 Try.infoBo rfl .i64 .i64 P.length (by omega) (by omega)
  rcases g1 with ⟨hz, -⟩ | ⟨b, off, cap, rfl, hpos, hbl, hcell⟩
  · rw [hz] at n1; simp at n1
  obtain ⟨W, hW⟩ : ∃ W, W = w.alloc (.cells #[.slice (some ⟨b, off, none⟩) P.length (P.length + cap), s2] 32) := ⟨_, rfl⟩
  have HWW := Lib.hid hW
  have HB : Hid (Below w.heap.size w W) := Lib.hid (by rw [hW]; exact below_alloc w _)
  have c0 : W.cell? ⟨w.heap.size, 0, none⟩ = some (.slice (some ⟨b, off, none⟩) P.length (P.length + cap)) := by rw [hW]; exact World.cell?_alloc_new w #[.slice (some ⟨b, off, none⟩) P.length (P.length + cap), s2] 32 0
  have HC0 := Lib.hid c0
  have hzW : w.heap.size < W.heap.size := by rw [hW]; simp
  have HC : Hid (∀ i, i < P.length → W.cell? ⟨b, off + i, none⟩ = some (.int .i64 (P.getD i 0))) := Lib.hid (fun i hi => by rw [HB.out.cell (p := ⟨b, off + i, none⟩) hbl]; exact hcell i hi)
  have hbW : b < W.heap.size := Nat.lt_of_lt_of_le hbl HB.out.size
  have HST1 := Lib.hid (fun m => kids_start1 (below_drewN (Below.refl W.heap.size W) m) P.length 27 4)
  have HST2 := Lib.hid (fun m => kids_start2 (below_drewN (Below.refl W.heap.size W) m) P.length 27 4)
  clear hcell h hW
  go_enter Try.func72, Try.ntmps72
  go_upto_region 1 with fail
  rw [← HWW.out]
  go_cut [4, 5] (fun x4 x5 wx => Hid (∃ B E lo, x4 = .slice (some ⟨B, 0, none⟩) P.length P.length ∧ x5 = .slice (some ⟨E, 0, none⟩) P.length P.length ∧ KidsAt W B E lo P.length (fun _ => .slice none 0 0) (fun _ => []) (fun _ => false) wx))
  case first =>
    go_region
    all_goals
      go_wp2_with fail
      go_meet
      first
        | exact Lib.hid ⟨_, _, _, rfl, rfl, HST1.out _⟩
        | exact Lib.hid ⟨_, _, _, rfl, rfl, HST2.out _⟩
  case rest =>
    obtain ⟨B, E, lo, rfl, rfl, hK0⟩ := hcut.out
    have K0 := Lib.hid hK0
    have e1 := hK0.ev 0 (by omega)
    have e2 := hK0.efree 0
    have HK1 := Lib.hid ((hK0.set (k := 0) (by omega) true).to (L' := fun a => chN P a 0) (f' := evK P 0) (fun _ _ => rfl) (fun j _ => evK_start P j))
    clear hcut hK0 c0
    have c0 : wc.cell? ⟨w.heap.size, 0, none⟩ = some (.slice (some ⟨b, off, none⟩) P.length (P.length + cap)) := by rw [K0.out.grid.below.cell (p := ⟨w.heap.size, 0, none⟩) hzW]; exact HC0.out
    have hEne : E ≠ w.heap.size := by have := K0.out.ege; omega
    have lp : (0 : Int) < (P.length : Int) := by omega
    go_wp2_with fail
    generalize hX : World.setCell _ _ _ = X
    rw [hX] at HK1
    have c1 : X.cell? ⟨w.heap.size, 0, none⟩ = some (.slice (some ⟨b, off, none⟩) P.length (P.length + cap)) := by rw [HK1.out.grid.below.cell (p := ⟨w.heap.size, 0, none⟩) hzW]; exact HC0.out
    have hbe := hEne
    clear hX e1 e2 c0 hbe
    go_loopg [21] P.length (fun gk i wr => ∃ (k : Nat) (U : Nat → Value), k ≤ P.length ∧ gk + k = P.length ∧ i = .int .i64 k ∧ KidsAt W B E lo P.length U (fun a => chN P a k) (evK P k) wr)
    case atStart => exact ⟨0, _, Nat.zero_le _, by omega, rfl, HK1.out⟩
    case round =>
      clear c1 HK1 K0
      obtain ⟨k, U, hk, hgk, rfl, hK⟩ := hrel
      have HK := Lib.hid hK
      have hEB := hK.ne
      by_cases hlt : k < P.length
      · have d0 : wr.cell? ⟨b, off + k, none⟩ = some (.int .i64 (P.getD k 0)) := by rw [hK.grid.below.cell (p := ⟨b, off + k, none⟩) hbW]; exact HC.out k hlt
        by_cases h0 : k = 0
        · subst h0
          have HN := Lib.hid (hK.to (L' := fun a => chN P a 1) (f' := evK P 1) (fun a _ => chN_one.symm ▸ chN_zero P a) (fun j _ => evK_one P j))
          generalize P.getD 0 0 = y at d0
          rw [Nat.add_zero] at d0
          clear hK
          go_wp2_with fail
          go_roundg (gk - 1)
          case measure => omega
          case rel => exact ⟨0 + 1, U, by omega, by omega, by go_num, HN.out⟩
        · have hpk := HT.out.p k (by omega) hlt
          obtain ⟨p, hp⟩ : ∃ p : Nat, P.getD k 0 = (p : Int) := ⟨(P.getD k 0).toNat, by omega⟩
          have hpl : p < k := by omega
          have hpn : p < P.length := by omega
          rw [hp] at d0
          have cB := hK.grid.cell p hpn
          obtain ⟨u, hu⟩ : ∃ u, u = U p := ⟨_, rfl⟩
          rw [← hu] at cB
          have HU := Lib.hid hu
          have G : Hid (Grows (Value.int .i64) 2 lo u (chN P p k) wr) := Lib.hid (by rw [hu]; exact hK.grid.row p hpn)
          have HLN := Lib.hid (chN_len P p k)
          have HS : Hid (∀ a, (if a = p then chN P p k ++ [(k : Int)] else chN P a k) = chN P a (k + 1)) := Lib.hid fun a => by
            by_cases e : a = p
            · subst e
              rw [if_pos rfl, chN_yes (by rw [isChild_at (by omega) hp]; simp)]
            · rw [if_neg e, chN_no (by rw [isChild_at (by omega) hp]; exact decide_eq_false (fun q => e q.symm))]
          have hev : evB P k = !evB P p := evB_step HT.out.p (by omega) hlt hp
          have HEV : Hid (∀ j, (if j = k then !evB P p else evK P k j) = evK P (k + 1) j) := Lib.hid fun j => by rw [← hev]; exact evK_step (by omega) j
          have HE0 := Lib.hid (hK.ev p hpn)
          have HE1 := Lib.hid (hK.ev k hlt)
          have HF0 := Lib.hid (hK.efree k)
          have HB0 := Lib.hid (hK.grid.free p)
          have HEO := Lib.hid (evK_old (P := P) hpl)
          have hk0 : (0 : Int) < (k : Int) := by omega
          have hp1 : (p : Int) < (P.length : Int) := by omega
          have hklt : (k : Int) < (P.length : Int) := by omega
          have hBz : B < wr.heap.size := cell_block cB
          clear hK hp hu hev
          go_wp2_with (at_builtin; refine wpList_append_own_at _ rfl _ _ 27 rfl lo 2 i0 (.int .i64 0) 1 8 Try.underlying27 hi hz0 hz1 hz2 rfl (by decide) _ _ _ rfl (Grows.alloc G.out _) ⟨wr.heap.size, 0, none⟩ 1 1 [.int .i64 (k : Int)] rfl rfl ?c1 ?c2 ?c3 ?c4 ?c5 ?_)
          case c1 => exact one_new
          case c2 => intro u hu; simp at hu; subst hu; rfl
          case c3 => have := HLN.out; unfold maxLen; omega
          case c4 => have := HLN.out; omega
          case c5 => have := HK.out.grid.lt; simp; omega
          intro v' w' hown hgrow _ hat
          obtain ⟨va, vn, vc, rfl⟩ : ∃ va vn vc, v' = .slice va vn vc := by obtain ⟨a, c, e⟩ := SI.len (Grows.si (d := (0 : Int)) (Grows.more (news := [(k : Int)]) rfl hown)); exact ⟨a, _, c, e⟩
          have hgr : (wr.alloc (.cells #[.int .i64 (k : Int)] 2)).grownBy w' (U p).ownBlock := by rw [← HU.out]; exact hgrow
          have K2 := Lib.hid (HK.out.more (p := p) hpn hown hgr (by rw [← HU.out]; simpa using hat))
          have low := HK.out.low (p := p) hpn hgr
          have cB2 : w'.cell? ⟨B, p, none⟩ = some u := by rw [low.cell (p := ⟨B, p, none⟩) HK.out.grid.blo]; exact cB
          have fB2 : w'.frozen? ⟨B, p, none⟩ = false := by rw [low.frozen (p := ⟨B, p, none⟩) HK.out.grid.blo]; exact HB0.out
          have cE0 : w'.cell? ⟨E, p, none⟩ = some (.bool (evB P p)) := by rw [low.cell (p := ⟨E, p, none⟩) HK.out.elo, ← HEO.out]; exact HE0.out
          have cE1 : w'.cell? ⟨E, k, none⟩ = some (.bool (evK P k k)) := by rw [low.cell (p := ⟨E, k, none⟩) HK.out.elo]; exact HE1.out
          have fE1 : w'.frozen? ⟨E, k, none⟩ = false := by rw [low.frozen (p := ⟨E, k, none⟩) HK.out.elo]; exact HF0.out
          have K3 := Lib.hid ((K2.out.set hlt (!evB P p)).to (L' := fun a => chN P a (k + 1)) (f' := evK P (k + 1)) (fun a _ => HS.out a) (fun j _ => HEV.out j))
          generalize evB P p = q at cE0 K3
          generalize evK P k k = q2 at cE1
          clear hown hgrow hgr hat low cB
          go_wp2_with fail
          go_roundg (gk - 1)
          case measure => omega
          case rel => exact ⟨k + 1, _, by omega, by omega, by go_num, K3.out⟩
      · obtain rfl : k = P.length := by omega
        have HR := Lib.hid ((hK.to (L' := fun a => chL P a) (f' := fun j => evB P j) (fun _ _ => rfl) (fun j hj => evK_old hj)).back HB.out)
        clear hK
        go_wp2_with fail
        refine bodyPost_ret (v := .tuple #[.slice (some ⟨B, 0, none⟩) P.length P.length, .slice (some ⟨E, 0, none⟩) P.length P.length]) (by simp [results, Try.results72, go_sem]) rfl ?_
        exact ⟨B, E, lo, U, rfl, HR.out⟩
end Go.Proofs.Ytmkbjkjgemipcaa
