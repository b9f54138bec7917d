/- The room out of a set of nodes: both sides. -/
import Derived.Test.YtkpdjbpfnepgaaaRoom
namespace Go.Proofs.Ytkpdjbpfnepgaaa
open Go.RowKit Go.ChangeShapes Go.WideShapes

def roomB (N : Nt) (S : List Int) : Bool := okN N && setB N.nodes S
def roomI (N : Nt) (S : List Int) : Int := bif roomB N S then roomT N S N.arcs.length else 0
theorem l03Set_is (t : Bool) (v : Value) (S : List Int) (n : Int) (w : World) (hv : IL w v S) (hn : S.length ≤ 1048576) (n1 : 2 ≤ n) (n2 : n ≤ 16) (ht : setB n S = t) :
    Calls Try.prog 67 #[v, .int .i64 n] w (Tells t w) := by
  subst ht; exact l03Set_any v S n w hv hn n1 n2
theorem l00Has_is (t : Bool) (v : Value) (S : List Int) (x : Int) (w : World) (hv : IL w v S) (hn : S.length ≤ 1048576) (ht : inS S x = t) :
    Calls Try.prog 68 #[v, .int .i64 x] w fun e w' => e = .returned (.bool t) ∧ w = w' := by
  subst ht; exact l00Has_any v S x w hv hn
theorem contains_is (t : Bool) (v : Value) (S : List Int) (x : Int) (w : World) (hv : IL w v S) (hn : S.length ≤ 1048576) (ht : inS S x = t) :
    Calls Try.prog 70 #[v, .int .i64 x] w fun e w' => e = .returned (.bool t) ∧ w = w' := by
  subst ht; exact contains_any v S x w hv hn
theorem roomT_yes {N : Nt} {S : List Int} {k : Nat} (h1 : inS S (N.arcs.getD k zA).f = true) (h2 : inS S (N.arcs.getD k zA).t = false) : roomT N S (k + 1) = roomT N S k + (N.arcs.getD k zA).r := by
  conv => lhs; unfold roomT
  rw [h1, h2]; rfl
theorem roomT_no1 {N : Nt} {S : List Int} {k : Nat} (h1 : inS S (N.arcs.getD k zA).f = false) : roomT N S (k + 1) = roomT N S k := by
  conv => lhs; unfold roomT
  rw [h1]; simp
theorem roomT_no2 {N : Nt} {S : List Int} {k : Nat} (h2 : inS S (N.arcs.getD k zA).t = true) : roomT N S (k + 1) = roomT N S k := by
  conv => lhs; unfold roomT
  rw [h2]; simp

set_option maxHeartbeats 4000000 in
theorem isNodeSet_any (v : Value) (S : List Int) (n : Int) (w : World) (hv : IL w v S) (hn : S.length ≤ 1048576) (n1 : 2 ≤ n) (n2 : n ≤ 16) :
    Calls Try.prog 69 #[.int .i64 n, v] w (Tells (setB n S) w) := by
  rcases hv with ⟨rfl, ao, cap, rfl⟩ | ⟨b, off, cap, rfl, hpos, hbl, hcell⟩
  · go_enter Try.func69, Try.ntmps69
    go_wp2
    refine wp_loop_rounds 1 ?_
    rw [rounds_succ]
    go_wp2
    go_ret
    exact tells 0 rfl
  · have HC := Lib.hid hcell
    clear hcell
    go_enter Try.func69, Try.ntmps69
    go_wp2
    go_loopw [9] (fun i wr => ∃ k : Nat, k ≤ S.length ∧ i = .int .i64 k ∧ (∀ j, j < k → setA n S j = true) ∧ ∃ m, wr = w.drewN m) (fun i _ => S.length - (intOf i).toNat)
    case atStart => exact ⟨0, Nat.zero_le _, rfl, fun j hj => by omega, 0, rfl⟩
    case round =>
      obtain ⟨k, hk, rfl, hall, hwr⟩ := hrel
      have HL := Lib.hid hall
      have HW := Lib.hid (drew_more hwr)
      clear hall
      by_cases hlt : k < S.length
      · have c1 : wr.cell? ⟨b, off + k, none⟩ = some (.int .i64 (S.getD k 0)) := by obtain ⟨n, rfl⟩ := hwr; exact HC.out k hlt
        have c2 : wr.cell? ⟨b, off + (k - 1), none⟩ = some (.int .i64 (S.getD (k - 1) 0)) := by obtain ⟨n, rfl⟩ := hwr; exact HC.out (k - 1) (by omega)
        obtain ⟨t1, t2, t3, tt⟩ := setT n S k
        have T := Lib.hid tt
        have h1 := tt.e1
        have h2 := tt.e2
        have h3 := tt.e3
        generalize S.getD k 0 = y at c1 h1 h3
        generalize S.getD (k - 1) 0 = z at c2 h3
        have T1 := Lib.hid h1
        clear h1 tt hwr
        cases t1 with
        | false =>
          clear h2 h3
          go_wp2_with fail
          go_at_call 54; refine (isIndex_is _ n y _ (by omega) (by omega) T1.out).mono ?_; rintro e wq ⟨rfl, m1, rfl⟩
          go_wp2_with fail
          go_ret
          exact Tells.of HW.out (setB_no hlt (by rw [T.out.is]; rfl))
        | true =>
          cases t2 with
          | false =>
            have hk0 : k = 0 := by simpa using h2
            have hg : decide ((k : Int) > 0) = false := by simp; omega
            have HK0 := Lib.hid hk0
            clear h3 hk0
            go_wp2_with fail
            go_at_call 54; refine (isIndex_is _ n y _ (by omega) (by omega) T1.out).mono ?_; rintro e wq ⟨rfl, m1, rfl⟩
            go_wp2_with fail
            go_roundw
            case rel => exact ⟨k + 1, by omega, by go_num, fun j hj => by
              by_cases e : j = k
              · subst e; rw [T.out.is]; rfl
              · exact HL.out j (by omega), HW.out _⟩
            case measure => simp [intOf]; omega
          | true =>
            have hk1 : 0 < k := by simpa using h2
            have hg : decide ((k : Int) > 0) = true := by simp; omega
            have hq : IntKind.i64.wrap ((k : Int) - 1) = ((k - 1 : Nat) : Int) := by rw [IntWalk.i64_in _ (by omega)]; omega
            have hq1 : (0 : Int) ≤ ((k - 1 : Nat) : Int) := by omega
            have hq2 : ((k - 1 : Nat) : Int) < (S.length : Int) := by omega
            have hq3 : (((k - 1 : Nat) : Int)).toNat = k - 1 := by omega
            have hq4 : (k : Int) - 1 = ((k - 1 : Nat) : Int) := by omega
            cases t3 with
            | true =>
              go_wp2_with fail
              go_at_call 54; refine (isIndex_is _ n y _ (by omega) (by omega) T1.out).mono ?_; rintro e wq ⟨rfl, m1, rfl⟩
              go_wp2_with fail
              go_ret
              exact Tells.of HW.out (setB_no hlt (by rw [T.out.is]; rfl))
            | false =>
              go_wp2_with fail
              go_at_call 54; refine (isIndex_is _ n y _ (by omega) (by omega) T1.out).mono ?_; rintro e wq ⟨rfl, m1, rfl⟩
              go_wp2_with fail
              go_roundw
              case rel => exact ⟨k + 1, by omega, by go_num, fun j hj => by
                by_cases e : j = k
                · subst e; rw [T.out.is]; rfl
                · exact HL.out j (by omega), HW.out _⟩
              case measure => simp [intOf]; omega
      · obtain rfl : k = S.length := by omega
        clear hwr
        go_wp2_with fail
        go_ret
        exact Tells.of (m := 0) HW.out (setB_yes HL.out)
theorem isNodeSet_is (t : Bool) (v : Value) (S : List Int) (n : Int) (w : World) (hv : IL w v S) (hn : S.length ≤ 1048576) (n1 : 2 ≤ n) (n2 : n ≤ 16) (ht : setB n S = t) :
    Calls Try.prog 69 #[.int .i64 n, v] w (Tells t w) := by
  subst ht; exact isNodeSet_any v S n w hv hn n1 n2

set_option maxHeartbeats 4000000 in
theorem specCutRoom_yes (v : Value) (N : Nt) (u : Value) (S : List Int) (w : World) (hv : NV w v N) (hu : IL w u S) (oN : OKN N) (oS : OKI S) (h1 : okN N = true) (h2 : setB N.nodes S = true) :
    Calls Try.prog 38 #[v, u] w (SaysIB (roomT N S N.arcs.length) true w) := by
  have HB := Lib.hid (below_alloc w)
  have hn := oN.size
  have hs := oS.size
  have H1 := Lib.hid h1
  have H2 := Lib.hid h2
  have HK := Lib.hid (okN_ok h1)
  have n1 := HK.out.n1
  have n2 := HK.out.n2
  have h48 := HK.out.l
  obtain ⟨s1, rfl, r1⟩ := hv
  have HP := Lib.hid (NP.box w r1)
  have HU := Lib.hid (fun o => hu.below (HB.out o) (Nat.le_refl _))
  clear h1 h2
  rcases r1 with ⟨hz, ao, cap, rfl⟩ | ⟨b, off, cap, rfl, hpos, hbl, hcell⟩
  · have H0 : Hid (roomT N S N.arcs.length = 0) := Lib.hid (by rw [hz]; rfl)
    clear hz hu h48
    go_enter Try.func38, Try.ntmps38
    go_wp2_with fail
    go_at_call 52; refine (l03Is_is true _ _ N _ HP.out hn H1.out).mono ?_; rintro e w' ⟨rfl, m, rfl⟩
    go_wp2_with fail
    go_at_call 67; refine (l03Set_is true _ S N.nodes _ (IL.dn (HU.out _) _) hs n1 n2 H2.out).mono ?_; rintro e w' ⟨rfl, m2, rfl⟩
    go_wp2_with fail
    refine wp_loop_rounds 1 ?_
    rw [rounds_succ]
    go_wp2
    refine bodyPost_ret (results_tmp2 rfl _ _ _) rfl ?_
    exact ⟨ret_ib H0.out.symm, below_drewN (HB.out _) _⟩
  · have hc : ∀ (o : Obj) i, i < N.arcs.length → ArcAt (w.alloc o) b (off + i * 4) (N.arcs.getD i zA) := fun o i hi => (hcell i hi).keep (HB.out o) hbl
    have HC := Lib.hid hc
    clear hu hcell hc
    go_enter Try.func38, Try.ntmps38
    go_wp2_with fail
    go_at_call 52; refine (l03Is_is true _ _ N _ HP.out hn H1.out).mono ?_; rintro e w' ⟨rfl, m, rfl⟩
    go_wp2_with fail
    go_at_call 67; refine (l03Set_is true _ S N.nodes _ (IL.dn (HU.out _) _) hs n1 n2 H2.out).mono ?_; rintro e w' ⟨rfl, m2, rfl⟩
    go_wp2_with fail
    go_loop [6, 20] (fun s i => ∃ k : Nat, k ≤ N.arcs.length ∧ i = .int .i64 k ∧ s = .int .i64 (roomT N S k)) (fun _ i => N.arcs.length - (intOf i).toNat)
    case atStart => exact ⟨0, Nat.zero_le _, rfl, rfl⟩
    case round =>
      obtain ⟨k, hk, rfl, rfl⟩ := hrel
      by_cases hlt : k < N.arcs.length
      · have HA := Lib.hid (fun o => HC.out o k hlt)
        have hr := roomT_in (S := S) HK.out k (by omega)
        have ha := HK.out.a k hlt
        cases q1 : inS S (N.arcs.getD k zA).f with
        | false =>
          have Q1 := Lib.hid q1
          have HN := Lib.hid (roomT_no1 q1)
          have r0 := ha.r0
          have r1 := ha.r1
          have s0 := hr.1
          have s2 : roomT N S k ≤ 48000000 := by omega
          generalize roomT N S k = s at HN s0 s2
          generalize N.arcs.getD k zA = a at HN HA Q1 r0 r1
          clear ha hr
          obtain ⟨a0, a1, a2, a3⟩ := (HA.out (.cells #[.int .i64 N.nodes, .slice (some ⟨b, off, none⟩) N.arcs.length (N.arcs.length + cap)] 29))
          have d1 := HP.out.c1
          clear q1
          go_wp2_with fail
          go_at_call 68; refine (l00Has_is _ _ S a.f _ (IL.dn (HU.out _) _) hs Q1.out).mono ?_; rintro e w5 ⟨rfl, rfl⟩
          go_wp2_with fail
          go_round
          case rel => exact ⟨k + 1, by omega, by go_num, by rw [HN.out]⟩
          case measure => simp [intOf]; omega
        | true =>
          have Q1 := Lib.hid q1
          cases q2 : inS S (N.arcs.getD k zA).t with
          | true =>
            have Q2 := Lib.hid q2
            have HN := Lib.hid (roomT_no2 q2)
            have r0 := ha.r0
            have r1 := ha.r1
            have s0 := hr.1
            have s2 : roomT N S k ≤ 48000000 := by omega
            generalize roomT N S k = s at HN s0 s2
            generalize N.arcs.getD k zA = a at HN HA Q1 r0 r1 Q2
            clear ha hr
            obtain ⟨a0, a1, a2, a3⟩ := (HA.out (.cells #[.int .i64 N.nodes, .slice (some ⟨b, off, none⟩) N.arcs.length (N.arcs.length + cap)] 29))
            have d1 := HP.out.c1
            clear q1 q2
            go_wp2_with fail
            go_at_call 68; refine (l00Has_is _ _ S a.f _ (IL.dn (HU.out _) _) hs Q1.out).mono ?_; rintro e w5 ⟨rfl, rfl⟩
            go_wp2_with fail
            go_at_call 68; refine (l00Has_is _ _ S a.t _ (IL.dn (HU.out _) _) hs Q2.out).mono ?_; rintro e w5 ⟨rfl, rfl⟩
            go_wp2_with fail
            go_round
            case rel => exact ⟨k + 1, by omega, by go_num, by rw [HN.out]⟩
            case measure => simp [intOf]; omega
          | false =>
            have Q2 := Lib.hid q2
            have HN := Lib.hid (roomT_yes q1 q2)
            have r0 := ha.r0
            have r1 := ha.r1
            have s0 := hr.1
            have s2 : roomT N S k ≤ 48000000 := by omega
            generalize roomT N S k = s at HN s0 s2
            generalize N.arcs.getD k zA = a at HN HA Q1 r0 r1 Q2
            clear ha hr
            obtain ⟨a0, a1, a2, a3⟩ := (HA.out (.cells #[.int .i64 N.nodes, .slice (some ⟨b, off, none⟩) N.arcs.length (N.arcs.length + cap)] 29))
            have d1 := HP.out.c1
            clear q1 q2
            go_wp2_with fail
            go_at_call 68; refine (l00Has_is _ _ S a.f _ (IL.dn (HU.out _) _) hs Q1.out).mono ?_; rintro e w5 ⟨rfl, rfl⟩
            go_wp2_with fail
            go_at_call 68; refine (l00Has_is _ _ S a.t _ (IL.dn (HU.out _) _) hs Q2.out).mono ?_; rintro e w5 ⟨rfl, rfl⟩
            go_wp2_with fail
            go_round
            case rel => exact ⟨k + 1, by omega, by go_num, by rw [HN.out]⟩
            case measure => simp [intOf]; omega
      · obtain rfl : k = N.arcs.length := by omega
        go_wp2_with fail
        refine bodyPost_ret (results_tmp2 rfl _ _ _) rfl ?_
        exact ⟨rfl, below_drewN (HB.out _) _⟩
theorem specCutRoom_any (v : Value) (N : Nt) (u : Value) (S : List Int) (w : World) (hv : NV w v N) (hu : IL w u S) (oN : OKN N) (oS : OKI S) :
    Calls Try.prog 38 #[v, u] w (SaysIB (roomI N S) (roomB N S) w) := by
  unfold roomI roomB
  cases h1 : okN N with
  | false =>
    have HB := Lib.hid (below_alloc w)
    have hn := oN.size
    have H1 := Lib.hid h1
    obtain ⟨s1, rfl, r1⟩ := hv
    have HP := Lib.hid (NP.box w r1)
    clear r1 h1 hu
    go_enter Try.func38, Try.ntmps38
    go_wp2_with fail
    go_at_call 52; refine (l03Is_is false _ _ N _ HP.out hn H1.out).mono ?_; rintro e w' ⟨rfl, m, rfl⟩
    go_wp2_with fail
    refine bodyPost_ret (results_tmp2 rfl _ _ _) rfl ?_
    exact ⟨rfl, below_drewN (HB.out _) _⟩
  | true =>
    cases h2 : setB N.nodes S with
    | true => exact specCutRoom_yes v N u S w hv hu oN oS h1 h2
    | false =>
      have HB := Lib.hid (below_alloc w)
      have hn := oN.size
      have hs := oS.size
      have H1 := Lib.hid h1
      have H2 := Lib.hid h2
      have n1 := (okN_ok h1).n1
      have n2 := (okN_ok h1).n2
      obtain ⟨s1, rfl, r1⟩ := hv
      have HP := Lib.hid (NP.box w r1)
      have HU := Lib.hid (fun o => hu.below (HB.out o) (Nat.le_refl _))
      clear r1 h1 h2 hu
      go_enter Try.func38, Try.ntmps38
      go_wp2_with fail
      go_at_call 52; refine (l03Is_is true _ _ N _ HP.out hn H1.out).mono ?_; rintro e w' ⟨rfl, m, rfl⟩
      go_wp2_with fail
      go_at_call 67; refine (l03Set_is false _ S N.nodes _ (IL.dn (HU.out _) _) hs n1 n2 H2.out).mono ?_; rintro e w' ⟨rfl, m2, rfl⟩
      go_wp2_with fail
      refine bodyPost_ret (results_tmp2 rfl _ _ _) rfl ?_
      exact ⟨rfl, below_drewN (HB.out _) _⟩

set_option maxHeartbeats 4000000 in
theorem implCutRoom_yes (v : Value) (N : Nt) (u : Value) (S : List Int) (w : World) (hv : NV w v N) (hu : IL w u S) (oN : OKN N) (oS : OKI S) (h1 : okN N = true) (h2 : setB N.nodes S = true) :
    Calls Try.prog 39 #[v, u] w (SaysIB (roomT N S N.arcs.length) true w) := by
  have HB := Lib.hid (below_alloc w)
  have hs := oS.size
  have H1 := Lib.hid h1
  have H2 := Lib.hid h2
  have HK := Lib.hid (okN_ok h1)
  have n1 := HK.out.n1
  have n2 := HK.out.n2
  have h48 := HK.out.l
  have HV := Lib.hid hv
  have HU := Lib.hid hu
  obtain ⟨s1, rfl, r1⟩ := hv
  have X0 := Lib.hid (show NBox w _ N s1 from ⟨Box2.mk' w (.int .i64 N.nodes) s1 29, HB.out _⟩)
  clear h1 h2 hu
  rcases r1 with ⟨hz, ao, cap, rfl⟩ | ⟨b, off, cap, rfl, hpos, hbl, hcell⟩
  · have H0 : Hid (roomT N S N.arcs.length = 0) := Lib.hid (by rw [hz]; rfl)
    clear hz h48
    go_enter Try.func39, Try.ntmps39
    go_wp2_with fail
    go_at_call 18; refine (implValidNet_is true _ N _ (HV.out.below (HB.out _) (Nat.le_refl _)) oN H1.out).mono ?_; rintro e w1 ⟨rfl, bb⟩
    have X1 := Lib.hid (X0.out.next bb)
    have l1 := X1.out.box.lt
    obtain ⟨d0, d1⟩ := X1.out.box
    clear bb
    go_wp2_with fail
    go_at_call 69; refine (isNodeSet_is true _ S N.nodes _ (HU.out.below X1.out.below (Nat.le_refl _)) hs n1 n2 H2.out).mono ?_; rintro e w' ⟨rfl, m2, rfl⟩
    go_wp2_with fail
    refine wp_loop_rounds 1 ?_
    rw [rounds_succ]
    go_wp2
    refine bodyPost_ret (results_tmp2 rfl _ _ _) rfl ?_
    exact ⟨ret_ib H0.out.symm, below_drewN X1.out.below _⟩
  · have HC := Lib.hid hcell
    clear hcell
    go_enter Try.func39, Try.ntmps39
    go_wp2_with fail
    go_at_call 18; refine (implValidNet_is true _ N _ (HV.out.below (HB.out _) (Nat.le_refl _)) oN H1.out).mono ?_; rintro e w1 ⟨rfl, bb⟩
    have X1 := Lib.hid (X0.out.next bb)
    have l1 := X1.out.box.lt
    obtain ⟨d0, d1⟩ := X1.out.box
    clear bb
    go_wp2_with fail
    go_at_call 69; refine (isNodeSet_is true _ S N.nodes _ (HU.out.below X1.out.below (Nat.le_refl _)) hs n1 n2 H2.out).mono ?_; rintro e w' ⟨rfl, m2, rfl⟩
    go_wp2_with fail
    clear d0 d1 l1
    go_loopg [6, 22] N.arcs.length (fun gk s i wr => ∃ k : Nat, k ≤ N.arcs.length ∧ gk + k = N.arcs.length ∧ i = .int .i64 k ∧ s = .int .i64 (roomT N S k) ∧ NBox w wr N (.slice (some ⟨b, off, none⟩) N.arcs.length (N.arcs.length + cap)))
    case atStart => exact ⟨0, Nat.zero_le _, by omega, rfl, rfl, X1.out.next (below_drewN (Below.refl _ _) _)⟩
    case round =>
      clear X1 X0
      obtain ⟨k, hk, hgk, rfl, rfl, hx⟩ := hrel
      have HX := Lib.hid hx
      have l1 := hx.box.lt
      obtain ⟨d0, d1⟩ := hx.box
      by_cases hlt : k < N.arcs.length
      · have hA : ArcAt wr b (off + k * 4) (N.arcs.getD k zA) := (HC.out k hlt).keep hx.below hbl
        have hbw : b < wr.heap.size := Nat.lt_of_lt_of_le hbl hx.below.size
        have hr := roomT_in (S := S) HK.out k (by omega)
        have ha := HK.out.a k hlt
        clear hx
        cases q1 : inS S (N.arcs.getD k zA).f with
        | false =>
          have Q1 := Lib.hid q1
          have HN := Lib.hid (roomT_no1 q1)
          have r0 := ha.r0
          have r1 := ha.r1
          have s0 := hr.1
          have s2 : roomT N S k ≤ 48000000 := by omega
          generalize roomT N S k = s at HN s0 s2
          generalize N.arcs.getD k zA = a at HN hA Q1 r0 r1
          clear ha hr
          obtain ⟨a0, a1, a2, a3⟩ := hA
          clear q1
          go_wp2_with fail
          go_at_call 70; refine (contains_is _ _ S a.f _ (HU.out.below (HX.out.next (below_alloc _ _)).below (Nat.le_refl _)) hs Q1.out).mono ?_; rintro e w5 ⟨rfl, rfl⟩
          go_wp2_with fail
          go_roundg (gk - 1)
          case measure => omega
          case rel => exact ⟨k + 1, by omega, by omega, by go_num, by rw [HN.out], HX.out.next (below_alloc _ _)⟩
        | true =>
          have Q1 := Lib.hid q1
          cases q2 : inS S (N.arcs.getD k zA).t with
          | true =>
            have Q2 := Lib.hid q2
            have HN := Lib.hid (roomT_no2 q2)
            have r0 := ha.r0
            have r1 := ha.r1
            have s0 := hr.1
            have s2 : roomT N S k ≤ 48000000 := by omega
            generalize roomT N S k = s at HN s0 s2
            generalize N.arcs.getD k zA = a at HN hA Q1 r0 r1 Q2
            clear ha hr
            obtain ⟨a0, a1, a2, a3⟩ := hA
            clear q1 q2
            go_wp2_with fail
            go_at_call 70; refine (contains_is _ _ S a.f _ (HU.out.below (HX.out.next (below_alloc _ _)).below (Nat.le_refl _)) hs Q1.out).mono ?_; rintro e w5 ⟨rfl, rfl⟩
            go_wp2_with fail
            go_at_call 70; refine (contains_is _ _ S a.t _ (HU.out.below (HX.out.next (below_alloc _ _)).below (Nat.le_refl _)) hs Q2.out).mono ?_; rintro e w5 ⟨rfl, rfl⟩
            go_wp2_with fail
            go_roundg (gk - 1)
            case measure => omega
            case rel => exact ⟨k + 1, by omega, by omega, by go_num, by rw [HN.out], HX.out.next (below_alloc _ _)⟩
          | false =>
            have Q2 := Lib.hid q2
            have HN := Lib.hid (roomT_yes q1 q2)
            have r0 := ha.r0
            have r1 := ha.r1
            have s0 := hr.1
            have s2 : roomT N S k ≤ 48000000 := by omega
            generalize roomT N S k = s at HN s0 s2
            generalize N.arcs.getD k zA = a at HN hA Q1 r0 r1 Q2
            clear ha hr
            obtain ⟨a0, a1, a2, a3⟩ := hA
            clear q1 q2
            go_wp2_with fail
            go_at_call 70; refine (contains_is _ _ S a.f _ (HU.out.below (HX.out.next (below_alloc _ _)).below (Nat.le_refl _)) hs Q1.out).mono ?_; rintro e w5 ⟨rfl, rfl⟩
            go_wp2_with fail
            go_at_call 70; refine (contains_is _ _ S a.t _ (HU.out.below (HX.out.next (below_alloc _ _)).below (Nat.le_refl _)) hs Q2.out).mono ?_; rintro e w5 ⟨rfl, rfl⟩
            go_wp2_with fail
            go_roundg (gk - 1)
            case measure => omega
            case rel => exact ⟨k + 1, by omega, by omega, by go_num, by rw [HN.out], HX.out.next (below_alloc _ _)⟩
      · obtain rfl : k = N.arcs.length := by omega
        go_wp2_with fail
        refine bodyPost_ret (results_tmp2 rfl _ _ _) rfl ?_
        exact ⟨rfl, HX.out.below⟩
theorem implCutRoom_any (v : Value) (N : Nt) (u : Value) (S : List Int) (w : World) (hv : NV w v N) (hu : IL w u S) (oN : OKN N) (oS : OKI S) :
    Calls Try.prog 39 #[v, u] w (SaysIB (roomI N S) (roomB N S) w) := by
  unfold roomI roomB
  cases h1 : okN N with
  | false =>
    have HB := Lib.hid (below_alloc w)
    have H1 := Lib.hid h1
    have HV := Lib.hid hv
    obtain ⟨s1, rfl, r1⟩ := hv
    clear r1 h1 hu
    go_enter Try.func39, Try.ntmps39
    go_wp2_with fail
    go_at_call 18; refine (implValidNet_is false _ N _ (HV.out.below (HB.out _) (Nat.le_refl _)) oN H1.out).mono ?_; rintro e w1 ⟨rfl, bb⟩
    have H1 := Lib.hid ((HB.out _).trans (bb.mono (by simp)))
    clear bb
    go_wp2_with fail
    refine bodyPost_ret (results_tmp2 rfl _ _ _) rfl ?_
    exact ⟨rfl, H1.out⟩
  | true =>
    cases h2 : setB N.nodes S with
    | true => exact implCutRoom_yes v N u S w hv hu oN oS h1 h2
    | false =>
      have HB := Lib.hid (below_alloc w)
      have hs := oS.size
      have H1 := Lib.hid h1
      have H2 := Lib.hid h2
      have n1 := (okN_ok h1).n1
      have n2 := (okN_ok h1).n2
      have HV := Lib.hid hv
      have HU := Lib.hid hu
      obtain ⟨s1, rfl, r1⟩ := hv
      have X0 := Lib.hid (show NBox w _ N s1 from ⟨Box2.mk' w (.int .i64 N.nodes) s1 29, HB.out _⟩)
      clear r1 h1 h2 hu
      go_enter Try.func39, Try.ntmps39
      go_wp2_with fail
      go_at_call 18; refine (implValidNet_is true _ N _ (HV.out.below (HB.out _) (Nat.le_refl _)) oN H1.out).mono ?_; rintro e w1 ⟨rfl, bb⟩
      have X1 := Lib.hid (X0.out.next bb)
      have l1 := X1.out.box.lt
      obtain ⟨d0, d1⟩ := X1.out.box
      clear bb
      go_wp2_with fail
      go_at_call 69; refine (isNodeSet_is false _ S N.nodes _ (HU.out.below X1.out.below (Nat.le_refl _)) hs n1 n2 H2.out).mono ?_; rintro e w' ⟨rfl, m2, rfl⟩
      go_wp2_with fail
      refine bodyPost_ret (results_tmp2 rfl _ _ _) rfl ?_
      exact ⟨rfl, below_drewN X1.out.below _⟩
end Go.Proofs.Ytkpdjbpfnepgaaa
