/- The column that enters, on both sides. -/
import Derived.Test.YtdacbkkanhelfaaLine
namespace Go.Proofs.Ytdacbkkanhelfaa
open Go.RowKit Go.ChangeShapes Go.WideShapes

/-- The first number below n that has it, -1 if none. -/
def firstI (f : Nat → Bool) (n : Nat) : Int := match (List.range n).find? f with
  | some k => (k : Int)
  | none => -1
theorem firstI_at {f : Nat → Bool} {n k : Nat} (hk : k < n) (h1 : f k = true) (h2 : ∀ j, j < k → f j = false) : firstI f n = (k : Int) := by
  unfold firstI
  have : (List.range n).find? f = some k := by
    rw [List.find?_range_eq_some]
    exact ⟨h1, List.mem_range.2 hk, fun j hj => by rw [h2 j hj]; rfl⟩
  rw [this]
theorem firstI_none {f : Nat → Bool} {n : Nat} (h : ∀ j, j < n → f j = false) : firstI f n = -1 := by
  unfold firstI
  have : (List.range n).find? f = none := by
    rw [List.find?_eq_none]
    intro x hx
    rw [h x (List.mem_range.1 hx)]; simp
  rw [this]
def negF (x : Nat) : Nat := Op.negFloat .f32 x
theorem run_negF {P : Program} (w : World) (x : Nat) : (Op.unary .neg (.float .f32 x)).run P w = .ok (.float .f32 (negF x)) w := by simp [Op.unary, negF]
attribute [local go_sem] run_negF
def entB (T : Tb) (x : Nat) (k : Nat) : Bool := ltB (T.at T.S.length k) (negF x)
def enterB (T : Tb) (x : Nat) : Bool := okT T && leastB x
def enterI (T : Tb) (x : Nat) : Int := bif enterB T x then firstI (entB T x) (T.wn - 1) else 0

/-- A call that answers a number and a bool. -/
def SaysIB (n : Int) (b : Bool) (w : World) (e : Ending) (w' : World) : Prop := e = .returned (.tuple #[.int .i64 n, .bool b]) ∧ Below w.heap.size w w'

set_option maxHeartbeats 2000000 in
theorem l02Enter_any (g : Nat) (s1 s2 : Value) (T : Tb) (x : Nat) (w : World) (h : TP w g s1 s2 T) (hT : OkT T) :
    Calls Try.prog 86 #[.pointer (some ⟨g, 0, none⟩), .float .f32 x] w (Num (firstI (entB T x) (T.wn - 1)) w) := by
  have HP := Lib.hid h
  have HT := Lib.hid hT
  obtain ⟨c0, c1, c2, r1, r2⟩ := h
  obtain ⟨ao, cap, rfl⟩ := r2.long
  have n2 : T.S.length ≤ 8 := hT.b2
  have hw3 := hT.w3
  have hw17 := hT.w17
  clear r1 r2 hT
  have hm : IntKind.i64.wrap ((T.wn : Int) - 1) = ((T.wn - 1 : Nat) : Int) := by
    have e : (T.wn : Int) - 1 = ((T.wn - 1 : Nat) : Int) := by omega
    rw [e]; exact IntWalk.i64_in _ (by omega)
  go_enter Try.func86, Try.ntmps86
  go_wp2_with fail
  go_loopg [5] T.wn (fun gk i wr => ∃ k : Nat, k ≤ T.wn - 1 ∧ gk + k = T.wn ∧ i = .int .i64 k ∧ (∀ j, j < k → entB T x j = false) ∧ ∃ n, wr = w.drewN n)
  case atStart => exact ⟨0, Nat.zero_le _, by omega, rfl, fun j hj => by omega, 0, rfl⟩
  case round =>
    obtain ⟨k, hk, hgk, rfl, hall, n, rfl⟩ := hrel
    have HA := Lib.hid hall
    clear hall
    by_cases hlt : k < T.wn - 1
    · cases hf : entB T x k with
      | true =>
        have HF := Lib.hid hf
        unfold entB ltB at hf
        generalize hy : T.at T.S.length k = y at hf
        have HY := Lib.hid hy
        clear hy
        go_wp2_with fail
        go_at_call 105; refine (l02Wide_ok _ _ _ T _ (TP.dn HP.out) HT.out).mono ?_; rintro e w' ⟨rfl, m, rfl⟩
        go_wp2_with fail
        go_at_call 108; refine (l02At_any _ _ _ T T.S.length k _ (TP.dn HP.out) HT.out (Nat.le_refl _) (by omega)).mono ?_; rintro e w' ⟨rfl, m', rfl⟩; rw [HY.out]
        go_wp2_with fail
        go_ret
        exact ⟨ret_int (firstI_at hlt HF.out HA.out).symm, _, rfl⟩
      | false =>
        have HF := Lib.hid hf
        unfold entB ltB at hf
        generalize hy : T.at T.S.length k = y at hf
        have HY := Lib.hid hy
        clear hy
        go_wp2_with fail
        go_at_call 105; refine (l02Wide_ok _ _ _ T _ (TP.dn HP.out) HT.out).mono ?_; rintro e w' ⟨rfl, m, rfl⟩
        go_wp2_with fail
        go_at_call 108; refine (l02At_any _ _ _ T T.S.length k _ (TP.dn HP.out) HT.out (Nat.le_refl _) (by omega)).mono ?_; rintro e w' ⟨rfl, m', rfl⟩; rw [HY.out]
        go_wp2_with fail
        go_roundg (gk - 1)
        case measure => omega
        case rel => exact ⟨k + 1, by omega, by omega, by go_num, fun j hj => by
          by_cases e : j = k
          · subst e; exact HF.out
          · exact HA.out j (by omega), _, rfl⟩
    · obtain rfl : k = T.wn - 1 := by omega
      go_wp2_with fail
      go_at_call 105; refine (l02Wide_ok _ _ _ T _ (TP.dn HP.out) HT.out).mono ?_; rintro e w' ⟨rfl, m, rfl⟩
      go_wp2_with fail
      go_ret
      exact ⟨ret_int (firstI_none HA.out).symm, _, rfl⟩
theorem l02Least_is (t : Bool) (x : Nat) (w : World) (h : leastB x = t) : Calls Try.prog 67 #[.float .f32 x] w (Tells t w) := by
  subst h; exact l02Least_any x w
theorem isNear_is (t : Bool) (x : Nat) (w : World) (h : leastB x = t) : Calls Try.prog 68 #[.float .f32 x] w (Tells t w) := by
  subst h; exact isNear_any x w
set_option maxHeartbeats 1000000 in
theorem specEnterOf_any (v : Value) (T : Tb) (x : Nat) (w : World) (hv : TV w v T) (oT : OKT T) (_ox : x < 4294967296) :
    Calls Try.prog 45 #[v, .float .f32 x] w (SaysIB (enterI T x) (enterB T x) w) := by
  have HB := Lib.hid (below_alloc w)
  obtain ⟨s1, s2, rfl, g1, g2⟩ := hv
  have HP := Lib.hid (TP.box w g1 g2)
  clear g1 g2
  unfold enterI enterB
  cases h1 : okT T with
  | false =>
    have H1 := Lib.hid h1
    clear h1
    go_enter Try.func45, Try.ntmps45
    go_wp2_with (go_at_call 70; refine (l02Table_is _ _ s1 s2 T _ HP.out oT H1.out).mono ?_; rintro e w' ⟨rfl, n1, rfl⟩)
    refine bodyPost_ret (results_tmp2 rfl _ _ _) rfl ?_
    exact ⟨rfl, below_drewN (HB.out _) _⟩
  | true =>
    have H1 := Lib.hid h1
    have HT := Lib.hid (okT_ok h1)
    clear h1
    cases h2 : leastB x with
    | false =>
      have H2 := Lib.hid h2
      clear h2
      go_enter Try.func45, Try.ntmps45
      go_wp2_with fail
      go_at_call 70; refine (l02Table_is _ _ s1 s2 T _ HP.out oT H1.out).mono ?_; rintro e w' ⟨rfl, n1, rfl⟩
      go_wp2_with fail
      go_at_call 67; refine (l02Least_is _ x _ H2.out).mono ?_; rintro e w' ⟨rfl, n2, rfl⟩
      go_wp2_with fail
      refine bodyPost_ret (results_tmp2 rfl _ _ _) rfl ?_
      exact ⟨rfl, below_drewN (HB.out _) _⟩
    | true =>
      have H2 := Lib.hid h2
      clear h2
      go_enter Try.func45, Try.ntmps45
      go_wp2_with fail
      go_at_call 70; refine (l02Table_is _ _ s1 s2 T _ HP.out oT H1.out).mono ?_; rintro e w' ⟨rfl, n1, rfl⟩
      go_wp2_with fail
      go_at_call 67; refine (l02Least_is _ x _ H2.out).mono ?_; rintro e w' ⟨rfl, n2, rfl⟩
      go_wp2_with fail
      go_at_call 86; refine (l02Enter_any _ s1 s2 T x _ (TP.dn HP.out) HT.out).mono ?_; rintro e w' ⟨rfl, n3, rfl⟩
      go_wp2_with fail
      refine bodyPost_ret (results_tmp2 rfl _ _ _) rfl ?_
      exact ⟨rfl, below_drewN (HB.out _) _⟩
theorem implValidTable_is (t : Bool) (v : Value) (T : Tb) (w : World) (hv : TV w v T) (oT : OKT T) (h : okT T = t) :
    Calls Try.prog 37 #[v] w (Says t w) := by
  subst h; exact implValidTable_any v T w hv oT
theorem take_sl {w : World} {b off cap : Nat} {Z : List Nat} {k : Nat} (hk : k ≤ Z.length) (hb : b < w.heap.size) (h : ∀ i, i < Z.length → w.cell? ⟨b, off + i, none⟩ = some (.float .f32 (Z.getD i 0))) :
    SL w (.slice (some ⟨b, off, none⟩) k (Z.length + cap)) (Z.take k) := by
  have hl : (Z.take k).length = k := by rw [List.length_take]; omega
  by_cases h0 : k = 0
  · subst h0; exact Or.inl ⟨rfl, _, _, rfl⟩
  · refine Or.inr ⟨b, off, Z.length + cap - k, by rw [hl, Nat.add_sub_cancel' (by omega)], by omega, hb, fun i hi => ?_⟩
    rw [hl] at hi
    rw [h i (by omega)]
    simp [List.getD, hi]
set_option maxHeartbeats 4000000 in
theorem implEnterOf_yes (v : Value) (T : Tb) (x : Nat) (w : World) (hv : TV w v T) (oT : OKT T) (h1 : okT T = true) (h2 : leastB x = true) :
    Calls Try.prog 46 #[v, .float .f32 x] w (SaysIB (firstI (entB T x) (T.wn - 1)) true w) := by
  have HB := Lib.hid (below_alloc w)
  have HV := Lib.hid hv
  have H1 := Lib.hid h1
  have H2 := Lib.hid h2
  have HT := Lib.hid (okT_ok h1)
  have hw3 := HT.out.w3
  have hw17 := HT.out.w17
  have hN := HT.out.hn
  have HL := Lib.hid (lineL_len (Z := T.N) (W := T.wn) (r := T.S.length) (by rw [HT.out.n, Nat.add_mul, Nat.one_mul]; exact Nat.le_refl _))
  obtain ⟨s1, s2, rfl, g1, g2⟩ := hv
  have X0 := Lib.hid (Box3.mk' w (.int .i64 T.vars) s1 s2 51)
  clear g1 g2 h1 h2
  go_enter Try.func46, Try.ntmps46
  go_wp2_with fail
  go_at_call 37; refine (implValidTable_is _ _ T _ (HV.out.below (HB.out _) (Nat.le_refl _)) oT H1.out).mono ?_; rintro e w1 ⟨rfl, b⟩
  have B1 := Lib.hid ((HB.out _).trans (b.mono (by simp)))
  have X1 := Lib.hid (X0.out.keep b X0.out.lt)
  clear b
  go_wp2_with fail
  go_at_call 68; refine (isNear_is _ x _ H2.out).mono ?_; rintro e w2 ⟨rfl, n2, rfl⟩
  obtain ⟨c0, c1, c2⟩ := X1.out
  have hlast : ((T.wn - 1 : Nat) : Int) ≤ ((T.wn : Nat) : Int) := by omega
  go_upto_region 3 with fail
  go_cut [20, 21, 22] (fun v20 v21 v22 wx => v21 = .int .i64 (T.wn - 1 : Nat) ∧ v22 = .int .i64 0 ∧ Hid (∃ b off cap, v20 = .slice (some ⟨b, off, none⟩) (T.wn - 1) cap ∧ (∀ i, i < T.wn - 1 → wx.cell? ⟨b, off + i, none⟩ = some (.float .f32 (T.at T.S.length i))) ∧ Below w.heap.size w wx))
  case first =>
    go_region_with (first
      | (go_at_call 83; refine (gainLine_any _ T _ (HV.out.below (show Below w.heap.size w (World.drew (World.drewN w1 n2)) from below_drewN (below_drewN B1.out n2) 1) (Nat.le_refl _)) HT.out).mono ?_; rintro e w3 ⟨u, rfl, hu, b⟩; have bz := (below_drewN (below_drewN (Below.refl w1.heap.size w1) n2) 1).trans b; have H3 := Lib.hid (B1.out.trans (bz.mono B1.out.size)); have X3 := Lib.hid (X1.out.keep bz X1.out.lt); have HU := Lib.hid hu; clear hu b bz; obtain ⟨d0, d1, d2⟩ := X3.out; rcases HU.out with ⟨hz, -⟩ | ⟨gb, goff, gcap, rfl, -, hgb, hgc⟩; (exfalso; rw [← HL.out, hz] at hw3; simp at hw3); rw [HL.out]; have hq : T.wn - 1 ≤ T.wn + gcap := by omega)
      | (go_at_call 82; refine (lastOf_ok _ T _ (HV.out.below H3.out (Nat.le_refl _)) HT.out).mono ?_; rintro e w4 ⟨rfl, b⟩; have H4 := Lib.hid (H3.out.trans (b.mono H3.out.size)); have HGC : Hid (∀ i, i < T.wn - 1 → w4.cell? ⟨gb, goff + i, none⟩ = some (.float .f32 (T.at T.S.length i))) := Lib.hid (fun i hi => by rw [b.cell (p := ⟨gb, goff + i, none⟩) hgb, hgc i (by rw [HL.out]; omega), lineL_at (by omega)]; rfl); clear b))
    all_goals
      go_wp2_with fail
      go_meet
      exact ⟨rfl, rfl, Lib.hid ⟨_, _, _, rfl, HGC.out, H4.out⟩⟩
  case rest =>
    obtain ⟨rfl, rfl, hh⟩ := hcut
    obtain ⟨b, off, cap, rfl, hcell, hB⟩ := hh.out
    have HC := Lib.hid hcell
    have B2 := Lib.hid hB
    clear hh hcell hB c0 c1 c2
    go_wp2_with fail
    go_loopg [22] T.wn (fun gk i wr => ∃ k : Nat, k ≤ T.wn - 1 ∧ gk + k = T.wn ∧ i = .int .i64 k ∧ (∀ j, j < k → entB T x j = false) ∧ wr = wc)
    case atStart => exact ⟨0, Nat.zero_le _, by omega, rfl, fun j hj => by omega, rfl⟩
    case round =>
      obtain ⟨k, hk, hgk, rfl, hall, rfl⟩ := hrel
      have HA := Lib.hid hall
      clear hall
      by_cases hlt : k < T.wn - 1
      · have c1 := HC.out k hlt
        cases hf : entB T x k with
        | true =>
          have HF := Lib.hid hf
          unfold entB ltB at hf
          generalize T.at T.S.length k = y at c1 hf
          go_wp2_with fail
          refine bodyPost_ret (results_tmp2 rfl _ _ _) rfl ?_
          exact ⟨by rw [firstI_at hlt HF.out HA.out]; rfl, B2.out⟩
        | false =>
          have HF := Lib.hid hf
          unfold entB ltB at hf
          generalize T.at T.S.length k = y at c1 hf
          go_wp2_with fail
          go_roundg (gk - 1)
          case measure => omega
          case rel => exact ⟨k + 1, by omega, by omega, by go_num, fun j hj => by
            by_cases e : j = k
            · subst e; exact HF.out
            · exact HA.out j (by omega), rfl⟩
      · obtain rfl : k = T.wn - 1 := by omega
        go_wp2_with fail
        refine bodyPost_ret (results_tmp2 rfl _ _ _) rfl ?_
        exact ⟨by rw [firstI_none HA.out]; rfl, B2.out⟩
set_option maxHeartbeats 1000000 in
theorem implEnterOf_any (v : Value) (T : Tb) (x : Nat) (w : World) (hv : TV w v T) (oT : OKT T) (_ox : x < 4294967296) :
    Calls Try.prog 46 #[v, .float .f32 x] w (SaysIB (enterI T x) (enterB T x) w) := by
  unfold enterI enterB
  cases h1 : okT T with
  | true =>
    cases h2 : leastB x with
    | true => exact implEnterOf_yes v T x w hv oT h1 h2
    | false =>
      have HB := Lib.hid (below_alloc w)
      have HV := Lib.hid hv
      have H1 := Lib.hid h1
      have H2 := Lib.hid h2
      obtain ⟨s1, s2, rfl, g1, g2⟩ := hv
      clear g1 g2 h1 h2
      go_enter Try.func46, Try.ntmps46
      go_wp2_with fail
      go_at_call 37; refine (implValidTable_is _ _ T _ (HV.out.below (HB.out _) (Nat.le_refl _)) oT H1.out).mono ?_; rintro e w1 ⟨rfl, b⟩
      have B1 := Lib.hid ((HB.out _).trans (b.mono (by simp)))
      clear b
      go_wp2_with fail
      go_at_call 68; refine (isNear_is _ x _ H2.out).mono ?_; rintro e w2 ⟨rfl, n2, rfl⟩
      go_wp2_with fail
      refine bodyPost_ret (results_tmp2 rfl _ _ _) rfl ?_
      exact ⟨rfl, below_drewN B1.out _⟩
  | false =>
    have HB := Lib.hid (below_alloc w)
    have HV := Lib.hid hv
    have H1 := Lib.hid h1
    obtain ⟨s1, s2, rfl, g1, g2⟩ := hv
    clear g1 g2 h1
    go_enter Try.func46, Try.ntmps46
    go_wp2_with fail
    go_at_call 37; refine (implValidTable_is _ _ T _ (HV.out.below (HB.out _) (Nat.le_refl _)) oT H1.out).mono ?_; rintro e w1 ⟨rfl, b⟩
    have B1 := Lib.hid ((HB.out _).trans (b.mono (by simp)))
    clear b
    go_wp2_with fail
    refine bodyPost_ret (results_tmp2 rfl _ _ _) rfl ?_
    exact ⟨rfl, B1.out⟩
end Go.Proofs.Ytdacbkkanhelfaa
