/- Queens: the model's recursion. -/
import Derived.Test.YtiobbclciboggaaEx0
import Derived.Test.YtiobbclciboggaaQn0
import Derived.Test.YtiobbclciboggaaLiI
import Derived.Test.YtiobbclciboggaaNumB
import Derived.Test.YtiobbclciboggaaEx1
import Derived.Deep.LoopGhost
namespace Go.Proofs.Ytiobbclciboggaa
open Go.RowKit Go.ChangeShapes Go.WideShapes

def qnL (n : Nat) : List (List Int) := List.replicate n (numL n)
theorem qnL_len (n : Nat) : (qnL n).length = n := List.length_replicate
theorem qnL_at {n i : Nat} (h : i < n) : (qnL n).getD i [] = numL n := by simp [qnL, List.getD, h]
def apK (P : List Int) (x : Int) (k : Nat) : Bool := (List.range k).all fun i => !metB P x i
theorem apK_up (P : List Int) (x : Int) (k : Nat) : apK P x (k + 1) = (apK P x k && !metB P x k) := by unfold apK; rw [List.range_succ, List.all_append]; simp
theorem apK_end (P : List Int) (x : Int) : apK P x P.length = apB P x := rfl
/-- The first choice that was found, where a pointer points to. -/
structure Fst (p : Nat) (fv : Value) (F : List Int) (w : World) : Prop where
  cell : w.cell? ⟨p, 0, none⟩ = some fv
  free : w.frozen? ⟨p, 0, none⟩ = false
  il : II (p + 1) w.heap.size w fv F
theorem But.ii {p : Nat} {w w' : World} (hb : But (fun k => k = p) w w') {v : Value} {Z : List Int} (h : II (p + 1) w.heap.size w v Z) : II (p + 1) w'.heap.size w' v Z :=
  SI.wide (SI.kept h (⟨hb.os, hb.tape, hb.output, hb.size, fun k hk hl => hb.block k hk (by omega)⟩ : Turned p (p + 1) w w') (Or.inr (Nat.le_refl _))) (Nat.le_refl _) hb.size (Nat.le_refl _)
theorem Fst.below {p : Nat} {fv : Value} {F : List Int} {w w' : World} (h : Fst p fv F w) (hb : Below w.heap.size w w') : Fst p fv F w' :=
  ⟨keep_cell h.cell hb (cell_block h.cell), by rw [hb.frozen (p := ⟨p, 0, none⟩) (cell_block h.cell)]; exact h.free, SI.wide (SI.below h.il hb (Nat.le_refl _)) (Nat.le_refl _) hb.size (Nat.le_refl _)⟩
theorem Fst.put {p : Nat} {fv fv' : Value} {F F' : List Int} {w : World} (h : Fst p fv F w) (hi : II (p + 1) w.heap.size w fv' F') : Fst p fv' F' (w.setCell ⟨p, 0, none⟩ fv') := by
  have hs : (w.setCell ⟨p, 0, none⟩ fv').heap.size = w.heap.size := by simp [World.setCell]
  exact ⟨World.cell?_setCell_same _ _ _ h.cell, by rw [World.frozen?_setCell]; exact h.free, by rw [hs]; exact SI.set hi (Or.inl (by show p < p + 1; omega)) _⟩
theorem But.below {S : Nat → Prop} {w w' : World} (h : Below w.heap.size w w') : But S w w' := ⟨h.os, h.tape, h.output, h.size, fun k hk _ => h.block k hk⟩
theorem But.then {S : Nat → Prop} {a b c : World} (h : But S a b) (k : But S b c) : But S a c :=
  ⟨k.os.trans h.os, k.tape.trans h.tape, k.output.trans h.output, Nat.le_trans h.size k.size, fun i hi hs => (k.block i (Nat.lt_of_lt_of_le hi h.size) hs).trans (h.block i hi hs)⟩
theorem But.put {p : Nat} {w w' : World} (h : But (fun k => k = p) w w') (v : Value) : But (fun k => k = p) w (w'.setCell ⟨p, 0, none⟩ v) :=
  h.then ⟨rfl, rfl, rfl, by simp [World.setCell], fun k _ hn => Below.heap_setCell _ _ _ _ hn⟩
/-- What the recursion leaves. -/
def QDone (p : Nat) (X : List (List Int)) (F : List Int) (w : World) (e : Ending) (w' : World) : Prop := ∃ fv, e = .returned (.int .i64 (cntW X)) ∧ But (fun k => k = p) w w' ∧ Fst p fv (hdo X F) w'
theorem cntW_app (A B : List (List Int)) : cntW (A ++ B) = wrap64 (cntW A + cntW B) := by
  unfold cntW; rw [wrap_add, List.length_append]; simp
theorem lies_ii {lo hi : Nat} {w : World} {ad : Addr} {cap : Nat} {P : List Int} (h : II lo hi w (.slice (some ad) P.length cap) P) {W : World} (hb : Below w.heap.size w W) : LiesI W ad P := by
  intro o j u hu
  have hv := (SI.vl h).below hb (Nat.le_refl _)
  rcases IL.lies hv with ⟨_, c, e⟩ | ⟨ad', c, e, hl⟩
  · cases e
  · injection e with e _ _
    injection e with e
    subst e
    exact hl o j u hu
set_option maxRecDepth 100000 in
set_option maxHeartbeats 4000000 in
theorem queensM_end (n p : Nat) (P : List Int) (ad : Addr) (cap : Nat) (F : List Int) (fv : Value) (w : World) (hP : P.length = n) (n1 : 1 ≤ n) (n8 : n ≤ 8)
    (hv : II (p + 1) w.heap.size w (.slice (some ad) P.length cap) P) (hF : Fst p fv F w) :
    Calls Try.prog 65 #[.int .i64 n, .slice (some ad) P.length cap, .pointer (some ⟨p, 0, none⟩)] w (QDone p [P] F w) := by
  obtain ⟨i0, hi, hz0, hz1, hz2⟩ := info_parts Try.infoI
  obtain ⟨fa, fc, rfl⟩ := SI.len hF.il
  have HP := Lib.hid hP
  have HV := Lib.hid hv
  have HF := Lib.hid hF
  have c0 := hF.cell
  have c1 := hF.free
  have HL := Lib.hid (lies_ii hv (Below.refl _ _))
  have hpl : P.length ≤ 8 := by omega
  have HC : Hid (cntW [P] = 1) := Lib.hid (by unfold cntW wrap64; simp)
  rw [← hP]
  clear hP hv hF n1 n8
  by_cases h0 : F.length = 0
  · have hF0 : F = [] := List.eq_nil_of_length_eq_zero h0
    subst hF0
    rw [List.length_nil] at c0 HF
    clear h0
    have hpp : ((P.length : Int) == (P.length : Int)) = true := by simp
    go_enter Try.func65, Try.ntmps65
    go_wp2_with (at_builtin; (refine wpList_append_own _ rfl _ _ 24 rfl w.heap.size 2 i0 (.int .i64 0) 1 8 Try.underlying24 hi hz0 hz1 hz2 rfl (by decide) _ _ _ rfl (Grows.empty (Value.int .i64) _ _ w (Nat.le_refl _)) ad P.length cap (P.map (Value.int .i64)) rfl (by simp) (HL.out _) (map_oneI P) (by simp; unfold maxLen; omega) (by simp; omega) (by simp) ?_; intro v' w' hown hgrow _; have HB := Lib.hid ((below_alloc w _).grown hgrow (by simp) (fun k hk => Nat.le_of_eq (Option.some.inj hk))); have HN : Hid (Grows (Value.int .i64) 2 w.heap.size v' P w') := Lib.hid (by have h := hown; show World.ownsRow _ _ _ _ _ _ _; simpa using h); have HF2 := Lib.hid (HF.out.below HB.out); have d0 := HF2.out.cell; have d1 := HF2.out.free; clear hown hgrow; obtain ⟨va, vc, rfl⟩ := SI.len (d := (0 : Int)) HN.out.si))
    go_ret
    have hf := HF2.out.put (SI.wide HN.out.si (by have := cell_block HF.out.cell; omega) (Nat.le_refl _) (Nat.le_refl _))
    exact ⟨.slice va P.length vc, ret_int HC.out.symm, (But.below HB.out).put _, hf⟩
  · have HE : Hid (hdo [P] F = F) := Lib.hid (by rw [hdo_one, if_neg]; intro e; subst e; exact h0 rfl)
    have hfl : ((F.length : Int) == 0) = false := by simpa using h0
    have hfl2 : ¬ (F.length : Int) = 0 := by omega
    have hpp : ((P.length : Int) == (P.length : Int)) = true := by simp
    clear h0
    go_enter Try.func65, Try.ntmps65
    go_wp2_with fail
    go_ret
    exact ⟨.slice fa F.length fc, ret_int HC.out.symm, But.below (Below.refl _ _), HE.out.symm ▸ HF.out⟩
theorem ap_free {P : List Int} {x : Int} {k : Nat} (y d : Int) (hy : P.getD k 0 = y) (hd : (P.length : Int) - (k : Int) = d) : metB P x k = (decide (y = x) || (decide (y = x - d) || decide (y = x + d))) := by unfold metB; rw [hy, hd]
theorem numL_get {n k : Nat} (h : k < n) : (numL n).getD k 0 = (k : Int) := by unfold numL; exact allF_at h
set_option maxRecDepth 100000 in
set_option maxHeartbeats 8000000 in
theorem queensM_step (n p f : Nat) (n8 : n ≤ 8) (P : List Int) (ad : Addr) (cap : Nat) (F : List Int) (fv : Value) (w : World) (hP : P.length + (f + 1) = n) (hin : ∀ x ∈ P, 0 ≤ x ∧ x ≤ 8)
    (hv : II (p + 1) w.heap.size w (.slice (some ad) P.length cap) P) (hF : Fst p fv F w)
    (ih : ∀ (Q : List Int) (bd : Addr) (cp : Nat) (G : List Int) (gv : Value) (W : World), Q.length + f = n → (∀ x ∈ Q, 0 ≤ x ∧ x ≤ 8) → II (p + 1) W.heap.size W (.slice (some bd) Q.length cp) Q → Fst p gv G W →
      Calls Try.prog 65 #[.int .i64 n, .slice (some bd) Q.length cp, .pointer (some ⟨p, 0, none⟩)] W (QDone p (exts apB (qnL n) f Q) G W)) :
    Calls Try.prog 65 #[.int .i64 n, .slice (some ad) P.length cap, .pointer (some ⟨p, 0, none⟩)] w (QDone p (exts apB (qnL n) (f + 1) P) F w) := by
  obtain ⟨i0, hi, hz0, hz1, hz2⟩ := info_parts Try.infoI
  obtain ⟨X, hX⟩ : ∃ X, X = exts apB (qnL n) (f + 1) P := ⟨_, rfl⟩
  have HXL : Hid (∀ C ∈ X, C.length = n) := Lib.hid (by rw [hX]; exact exts_len (f + 1) P (by omega))
  have HX0 : Hid ([] ++ extsL (exts apB (qnL n) f) apB P ((numL n).drop 0) = X) := Lib.hid (by rw [hX, exts_up, qnL_at (by omega)]; rfl)
  rw [← hX]
  have IH := Lib.hid ih
  have HV := Lib.hid hv
  have HF := Lib.hid hF
  have HIN := Lib.hid hin
  have hpn : P.length < n := by omega
  have hne : ((P.length : Int) == (n : Int)) = false := by simp; omega
  have hne2 : ¬ (P.length : Int) = (n : Int) := by omega
  have HPF := Lib.hid hP
  clear hX ih hv hF hin hP
  go_enter Try.func65, Try.ntmps65
  go_wp2_with fail
  go_loopg [8, 9] n (fun gk z i wr => ∃ (k : Nat) (mk : List (List Int)) (gv : Value), k ≤ n ∧ gk + k = n ∧ i = .int .i64 k ∧ z = .int .i64 (cntW mk) ∧ mk ++ extsL (exts apB (qnL n) f) apB P ((numL n).drop k) = X ∧ But (fun k => k = p) w wr ∧ Fst p gv (hdo mk F) wr)
  case atStart => exact ⟨0, [], _, Nat.zero_le _, by omega, by simp, by unfold cntW wrap64; simp, HX0.out, But.below (Below.refl _ _), by rw [hdo_nil]; exact HF.out⟩
  case round =>
    obtain ⟨k, mk, gv, hk, hgk, rfl, rfl, hmx, hbt, hft⟩ := hrel
    have HMX := Lib.hid hmx
    have HBT := Lib.hid hbt
    have HFT := Lib.hid hft
    clear hmx hbt hft
    by_cases hkn : k < n
    · have HVr := Lib.hid (HBT.out.ii HV.out)
      obtain ⟨wo, rfl⟩ : ∃ x : World, x = wr := ⟨_, rfl⟩
      obtain ⟨g2, rfl⟩ : ∃ x : Nat, x = gk := ⟨_, rfl⟩
      obtain ⟨zz, hzz⟩ : ∃ zz, zz = cntW mk := ⟨_, rfl⟩
      have HZZ := Lib.hid hzz
      rw [← hzz]
      clear hzz
      go_wp2_with fail
      go_loopg [10, 36] P.length (fun gk fr j wr => ∃ q : Nat, q ≤ P.length ∧ gk + q = P.length ∧ j = .int .i64 q ∧ fr = .bool (apK P k q) ∧ wr = wo)
      case atStart => exact ⟨0, Nat.zero_le _, by omega, by simp, rfl, rfl⟩
      case round =>
        obtain ⟨q, hq, hgq, rfl, rfl, rfl⟩ := hrel
        by_cases hlt : q < P.length
        · obtain ⟨-, ⟨hz, -⟩ | ⟨b, off, c3, e, h0, hlo, hbl, -, hcell⟩⟩ := HVr.out
          · rw [hz] at hlt; simp at hlt
          injection e with e1 e2 e3
          injection e1 with e1
          clear e2 e3
          subst e1
          have c1 : wr.cell? ⟨b, off + q, none⟩ = some (.int .i64 (P.getD q 0)) := hcell q hlt
          obtain ⟨y, hy⟩ : ∃ y, P.getD q 0 = y := ⟨_, rfl⟩
          obtain ⟨d, hd⟩ : ∃ d : Int, (P.length : Int) - (q : Int) = d := ⟨_, rfl⟩
          have hyb := HIN.out y (by rw [← hy]; exact getD_in hlt)
          have HM := Lib.hid (ap_free (x := (k : Int)) y d hy hd)
          have HUP := Lib.hid (apK_up P (k : Int) q)
          have d1 : 0 ≤ d := by omega
          have d2 : d ≤ 8 := by omega
          have wd : IntKind.i64.wrap ((P.length : Int) - (q : Int)) = d := by rw [IntWalk.i64_in _ (by omega)]; exact hd
          have w1 : IntKind.i64.wrap ((k : Int) - d) = (k : Int) - d := IntWalk.i64_in _ (by omega)
          have w2 : IntKind.i64.wrap ((k : Int) + d) = (k : Int) + d := IntWalk.i64_in _ (by omega)
          rw [hy] at c1
          clear hy hd hcell
          generalize hT : apK P (k : Int) q = T at HUP
          have HT := Lib.hid hT
          clear hT
          by_cases q1 : y = (k : Int)
          · have HR : Hid (apK P (k : Int) (q + 1) = false) := Lib.hid (by rw [HUP.out, HM.out, decide_eq_true q1]; simp)
            have t1 : (y == (k : Int)) = true := by simpa using q1
            clear q1
            go_wp2_with fail
            go_roundg (gk - 1)
            case measure => omega
            case rel => exact ⟨q + 1, by omega, by omega, by go_num, by rw [HR.out], rfl⟩
          have t1 : (y == (k : Int)) = false := by simpa using q1
          by_cases q2 : y = (k : Int) - d
          · have HR : Hid (apK P (k : Int) (q + 1) = false) := Lib.hid (by rw [HUP.out, HM.out, decide_eq_true q2]; simp)
            have t2 : (y == (k : Int) - d) = true := by simpa using q2
            clear q2 q1
            go_wp2_with fail
            go_roundg (gk - 1)
            case measure => omega
            case rel => exact ⟨q + 1, by omega, by omega, by go_num, by rw [HR.out], rfl⟩
          have t2 : (y == (k : Int) - d) = false := by simpa using q2
          by_cases q3 : y = (k : Int) + d
          · have HR : Hid (apK P (k : Int) (q + 1) = false) := Lib.hid (by rw [HUP.out, HM.out, decide_eq_true q3]; simp)
            have t3 : (y == (k : Int) + d) = true := by simpa using q3
            clear q3 q2 q1
            go_wp2_with fail
            go_roundg (gk - 1)
            case measure => omega
            case rel => exact ⟨q + 1, by omega, by omega, by go_num, by rw [HR.out], rfl⟩
          have HR : Hid (apK P (k : Int) (q + 1) = T) := Lib.hid (by rw [HUP.out, HM.out, decide_eq_false q1, decide_eq_false q2, decide_eq_false q3]; simp)
          have t3 : (y == (k : Int) + d) = false := by simpa using q3
          clear q3 q2 q1
          go_wp2_with fail
          go_roundg (gk - 1)
          case measure => omega
          case rel => exact ⟨q + 1, by omega, by omega, by go_num, by rw [HR.out], rfl⟩
        · obtain rfl : q = P.length := by omega
          cases hap : apB P k with
          | false =>
            have HAP := Lib.hid hap
            have HN : Hid (mk ++ extsL (exts apB (qnL n) f) apB P ((numL n).drop (k + 1)) = X) := Lib.hid (by rw [← HMX.out, extsL_no (k := k) (by rw [numL_len]; exact hkn) (by rw [numL_get hkn]; exact HAP.out)])
            rw [apK_end, hap]
            clear hap
            go_wp2_with fail
            go_roundg (g2 - 1)
            case measure => omega
            case rel => exact ⟨k + 1, mk, gv, by omega, by omega, by go_num, by rw [HZZ.out], HN.out, HBT.out, HFT.out⟩
          | true =>
            have HAP := Lib.hid hap
            obtain ⟨Q, hQ⟩ : ∃ Q, Q = P ++ [(k : Int)] := ⟨_, rfl⟩
            have HQ := Lib.hid hQ
            have hql : Q.length = P.length + 1 := by rw [hQ]; simp
            have HQL := Lib.hid hql
            have HQI : Hid (∀ x ∈ Q, 0 ≤ x ∧ x ≤ 8) := Lib.hid (by
              intro x hx
              rw [HQ.out] at hx
              rcases List.mem_append.1 hx with h | h
              · exact HIN.out x h
              · have : x = (k : Int) := by simpa using h
                omega)
            have HN : Hid ((mk ++ exts apB (qnL n) f Q) ++ extsL (exts apB (qnL n) f) apB P ((numL n).drop (k + 1)) = X) := Lib.hid (by rw [List.append_assoc, ← HMX.out, extsL_yes (k := k) (by rw [numL_len]; exact hkn) (by rw [numL_get hkn]; exact HAP.out), numL_get hkn, HQ.out])
            have HL := Lib.hid (lies_ii HVr.out (Below.refl _ _))
            have HP0 : Hid (p + 1 ≤ wr.heap.size) := Lib.hid (cell_block HFT.out.cell)
            have hpl8 : P.length ≤ 8 := by omega
            rw [apK_end, hap]
            clear hap hQ hql
            go_wp2_with (first | (at_builtin; refine wpList_append_own _ rfl _ _ 24 rfl wr.heap.size 2 i0 (.int .i64 0) 1 8 Try.underlying24 hi hz0 hz1 hz2 rfl (by decide) _ _ _ rfl (Grows.empty (Value.int .i64) _ _ wr (Nat.le_refl _)) ad P.length cap (P.map (Value.int .i64)) rfl (by simp) (HL.out _) (map_oneI P) (by simp; unfold maxLen; omega) (by simp; omega) (by simp) ?_; intro v1 w1 hown hgrow _; have HB1 := Lib.hid ((below_alloc wr _).grown hgrow (by simp) (fun k hk => Nat.le_of_eq (Option.some.inj hk))); have HN1 : Hid (Grows (Value.int .i64) 2 wr.heap.size v1 P w1) := Lib.hid (by have h := hown; show World.ownsRow _ _ _ _ _ _ _; simpa using h); clear hown hgrow) | (at_builtin; refine wpList_append_own _ rfl _ _ 24 rfl wr.heap.size 2 i0 (.int .i64 0) 1 8 Try.underlying24 hi hz0 hz1 hz2 rfl (by decide) _ _ _ rfl (Grows.alloc HN1.out _) ⟨w1.heap.size, 0, none⟩ 1 1 [.int .i64 (k : Int)] rfl rfl one_new (by intro u hu; simp at hu; subst hu; rfl) (by unfold maxLen; omega) (by omega) (by have := HB1.out.size; simp; omega) ?_; intro v2 w2 hown hgrow _; have HB2 := Lib.hid ((HB1.out.alloc HB1.out.size _).grown hgrow (by have := HB1.out.size; simp; omega) (fun g hg => HN1.out.block g hg)); have HN2 : Hid (Grows (Value.int .i64) 2 wr.heap.size v2 Q w2) := Lib.hid (HQ.out.symm ▸ Grows.more (news := [(k : Int)]) rfl hown); obtain ⟨va, vc, rfl⟩ := SI.len (d := (0 : Int)) HN2.out.si; clear hown hgrow))
            have hII : II (p + 1) w2.heap.size w2 (.slice va Q.length vc) Q := SI.wide HN2.out.si HP0.out (Nat.le_refl _) (Nat.le_refl _)
            obtain ⟨-, ⟨hz, -⟩ | ⟨b, off, c3, e, -⟩⟩ := hII
            · exact absurd (by rw [hz]; rfl : Q.length = 0) (by have := HQL.out; omega)
            injection e with e1 e2 e3
            clear e2 e3
            subst e1
            have hII : II (p + 1) w2.heap.size w2 (.slice (some ⟨b, off, none⟩) Q.length vc) Q := SI.wide HN2.out.si HP0.out (Nat.le_refl _) (Nat.le_refl _)
            have HII := Lib.hid hII
            clear hII
            go_at_call 65; refine (IH.out Q _ vc (hdo mk F) gv w2 (by have := HQL.out; have := HPF.out; omega) HQI.out HII.out (HFT.out.below HB2.out)).mono ?_; rintro e w3 ⟨gv', rfl, hb3, hf3⟩
            have HB3 : Hid (But (fun k => k = p) w w3) := Lib.hid ((HBT.out.then (But.below HB2.out)).then hb3)
            have HF3 : Hid (Fst p gv' (hdo (mk ++ exts apB (qnL n) f Q) F) w3) := Lib.hid (by
              rw [hdo_app (fun C hC e => by
                have := HXL.out C (by rw [← HMX.out]; exact List.mem_append.2 (Or.inl hC))
                rw [e] at this
                simp at this
                omega)]
              exact hf3)
            have HCA : Hid (cntW (mk ++ exts apB (qnL n) f Q) = wrap64 (zz + cntW (exts apB (qnL n) f Q))) := Lib.hid (by rw [cntW_app, HZZ.out])
            generalize hrr : cntW (exts apB (qnL n) f Q) = r at HCA
            clear hb3 hf3 hrr
            go_wp2_with fail
            go_roundg (g2 - 1)
            case measure => omega
            case rel => exact ⟨k + 1, mk ++ exts apB (qnL n) f Q, gv', by omega, by omega, by go_num, by rw [HCA.out], HN.out, HB3.out, HF3.out⟩
    · obtain rfl : k = n := by omega
      have HE : Hid (mk = X) := Lib.hid (by rw [← HMX.out, extsL_end (by rw [numL_len]; exact Nat.le_refl _), List.append_nil])
      obtain ⟨zz, hzz⟩ : ∃ zz, zz = cntW mk := ⟨_, rfl⟩
      have HZZ := Lib.hid hzz
      rw [← hzz]
      clear hzz
      go_wp2_with fail
      go_ret
      exact ⟨gv, ret_int (by rw [HZZ.out, HE.out]), HBT.out, HE.out ▸ HFT.out⟩
theorem queensM_any (n p : Nat) (n1 : 1 ≤ n) (n8 : n ≤ 8) : ∀ (f : Nat) (Q : List Int) (bd : Addr) (cp : Nat) (G : List Int) (gv : Value) (W : World), Q.length + f = n → (∀ x ∈ Q, 0 ≤ x ∧ x ≤ 8) → II (p + 1) W.heap.size W (.slice (some bd) Q.length cp) Q → Fst p gv G W →
      Calls Try.prog 65 #[.int .i64 n, .slice (some bd) Q.length cp, .pointer (some ⟨p, 0, none⟩)] W (QDone p (exts apB (qnL n) f Q) G W)
  | 0, Q, bd, cp, G, gv, W, hq, _, hi, hf => queensM_end n p Q bd cp G gv W hq n1 n8 hi hf
  | f + 1, Q, bd, cp, G, gv, W, hq, hin, hi, hf => queensM_step n p f n8 Q bd cp G gv W hq hin hi hf (queensM_any n p n1 n8 f)
end Go.Proofs.Ytiobbclciboggaa
