/- The number with a decimal text: the program. -/
import Derived.Test.YtfingpllakbpnaaDoorRd0
import Derived.Test.YtfingpllakbpnaaDoorPiI
import Derived.Test.YtfingpllakbpnaaDoorFrameQ
import Derived.Test.YtfingpllakbpnaaDoorFmJ
import Derived.Test.YtfingpllakbpnaaDoorIvI
import Derived.Test.YtfingpllakbpnaaDoorTxI
import Derived.Lib.AtoiErrMem
import Derived.Lib.ParseIntBTie
namespace Go.Proofs.YtfingpllakbpnaaDoor
open Go.RowKit Go.ChangeShapes Go.WideShapes Go.Shelf

theorem var_below {P : Program} {B : Nat} {w w' : World} {nm : String} {cs : Array Value} (h : w.var? P nm = some cs) (hb : Below B w w') (hB : w.heap.size ≤ B) : w'.var? P nm = some cs := by
  unfold World.var? at h ⊢
  cases hg : P.globalNamed nm with
  | none => rw [hg] at h; cases h
  | some g =>
    rw [hg] at h
    simp only [Option.bind_some] at h ⊢
    have hlt : g < w.heap.size := by
      rcases Nat.lt_or_ge g w.heap.size with h' | h'
      · exact h'
      · rw [Array.getElem?_eq_none h'] at h; cases h
    rw [show w'.heap[g]? = w.heap[g]? from hb.block _ (by omega)]
    exact h
theorem ErrTab.below' {w w' : World} (h : ErrTab w) (hb : Below w.heap.size w w') : ErrTab w' := by
  obtain ⟨h1, ⟨a, b, h2⟩, ⟨c, d, h3⟩⟩ := h
  exact ⟨h1.below' hb, ⟨a, b, var_below h2 hb (Nat.le_refl _)⟩, ⟨c, d, var_below h3 hb (Nat.le_refl _)⟩⟩
theorem parse_ok (s : ByteArray) (n : Int) (w : World) (hs : s.size ≤ 1048576) (h : Lib.parseIntB 64 s.data.toList = .ok n) :
    Calls Tryd.prog 17 #[.string s, .int .i64 10, .int .i64 64] w fun e w' => e = .returned (.tuple #[.int .i64 n, .nilIface]) ∧ Below w.heap.size w w' :=
  (Any.strconv_ParseInt_10_at64_ok Tryd.lays174 s (by omega) n h w).mono fun _ _ ⟨he, hw⟩ => ⟨he, by
    rcases hw with rfl | ⟨t, rfl⟩
    · exact Below.refl _ _
    · exact Lib.bytesWorld_below _ _ _⟩
def ParseBad (w : World) (e : Ending) (w' : World) : Prop := ∃ n N, e = .returned (.tuple #[.int .i64 n, .iface 59 (.pointer (some ⟨N, 0, none⟩))]) ∧ Below w.heap.size w w'
theorem parse_bad (s : ByteArray) (w : World) (hs : s.size ≤ 1048576) (h : ∀ n, Lib.parseIntB 64 s.data.toList ≠ .ok n) (hE : ErrTab w) :
    Calls Tryd.prog 17 #[.string s, .int .i64 10, .int .i64 64] w (ParseBad w) := by
  obtain ⟨-, ⟨a, b, h2⟩, ⟨c, d, h3⟩⟩ := hE
  rcases hp : Lib.parseIntB 64 s.data.toList with n | _ | _
  · exact absurd hp (h n)
  · exact (Any.strconv_ParseInt_10_at64_syntax_var Tryd.lays174 s (by omega) hp a b w h2).mono fun _ _ ⟨N, he, _, _, hb⟩ => ⟨_, N, he, hb⟩
  · exact (Any.strconv_ParseInt_10_at64_range_var Tryd.lays174 s (by omega) hp c d w h3).mono fun _ _ ⟨N, he, _, _, hb⟩ => ⟨_, N, he, hb⟩
theorem ba_of {s : ByteArray} {D : List UInt8} (h : D = s.data.toList) : s = bsOf D := by
  subst h
  apply ByteArray.ext
  simp [bsOf]
def SaysRd (n : Int) (b : Bool) (w : World) (e : Ending) (w' : World) : Prop := e = .returned (.tuple #[.int .i64 n, .bool b]) ∧ Below w.heap.size w w'
set_option maxRecDepth 100000 in
set_option maxHeartbeats 4000000 in
theorem implReadDecimal_any (s : ByteArray) (w : World) (hs : s.size ≤ 1048576) (hE : ErrTab w) :
    Calls Tryd.prog 7 #[.string s] w (SaysRd (rdN s.data.toList) (rdB s.data.toList) w) := by
  have HE := Lib.hid hE
  by_cases hb : ∃ n, Lib.parseIntB 64 s.data.toList = .ok n
  · obtain ⟨n, hn⟩ := hb
    have hbd : -9223372036854775808 ≤ n ∧ n ≤ 9223372036854775807 := by
      have := Lib.parseIntB_bounds hn
      have e63 : ((2 ^ (64 - 1) : Nat) : Int) = 9223372036854775808 := by decide
      rw [e63] at this; omega
    have PO := Lib.hid (fun w => parse_ok s n w hs hn)
    have DEC := Lib.hid (fun W hp => implDecimal_any n W hbd.1 hbd.2 hp)
    cases hv : inB n (-1000000000000000) 1000000000000000 with
    | false =>
      have e := rd_out hn hv
      rw [e, rdN_no e]
      have T := Lib.hid hv
      clear hE hn hbd hv e DEC
      go_enter Tryd.func7, Tryd.ntmps7
      go_wp2_with fail
      go_at_call 17; refine (PO.out _).mono ?_; rintro e w2 ⟨rfl, b2⟩
      have B2 := Lib.hid b2
      clear b2
      go_wp2_with fail
      go_at_call 18; refine (isValue_is _ n _ T.out).mono ?_; rintro e w' ⟨rfl, m, rfl⟩
      go_wp2_with fail
      go_ret2
      exact ⟨rfl, below_drewN B2.out _⟩
    | true =>
      have T := Lib.hid hv
      by_cases hd : Lib.itoa n = s.data.toList
      · obtain ⟨e1, e2⟩ := rd_ok hn hv hd
        rw [e1, e2]
        obtain rfl := ba_of hd
        have HX : Hid ((⟨(Lib.itoa n).toArray⟩ : ByteArray) = bsOf (Lib.itoa n)) := Lib.hid rfl
        have DEC := Lib.hid (fun W hp => (show Calls Tryd.prog 19 #[.int .i64 n] W (fun e w' => e = .returned (.string (bsOf (Lib.itoa n))) ∧ Below W.heap.size W w') from DEC.out W hp))
        generalize bsOf (Lib.itoa n) = x at *
        clear hE hn hbd hv e1 e2 hd
        go_enter Tryd.func7, Tryd.ntmps7
        go_wp2_with fail
        go_at_call 17; refine (PO.out _).mono ?_; rintro e w2 ⟨rfl, b2⟩
        have B2 := Lib.hid b2
        clear b2
        go_wp2_with fail
        go_at_call 18; refine (isValue_is _ n _ T.out).mono ?_; rintro e w' ⟨rfl, m, rfl⟩
        have B3 := Lib.hid (below_drewN B2.out m)
        go_wp2_with fail
        go_at_call 19; refine (DEC.out _ (HE.out.below' B3.out).1).mono ?_; rintro e w4 ⟨rfl, b4⟩
        have B4 := Lib.hid (B3.out.trans (b4.mono B3.out.size))
        clear b4
        go_wp2_with fail
        go_ret2
        exact ⟨rfl, B4.out⟩
      · have e := rd_other hn hd
        rw [e, rdN_no e]
        have hne : ¬ bsOf (Lib.itoa n) = s := fun h => hd (by rw [← h, bs_list])
        have DEC := Lib.hid (fun W hp => (show Calls Tryd.prog 19 #[.int .i64 n] W (fun e w' => e = .returned (.string (bsOf (Lib.itoa n))) ∧ Below W.heap.size W w') from DEC.out W hp))
        generalize bsOf (Lib.itoa n) = x at *
        have hs1 : (x.toList == s.toList) = false := by simpa [ByteArray.toList_eq, ByteArray.ext_iff] using hne
        have hs2 : (x.toList != s.toList) = true := by rw [bne, hs1]; rfl
        clear hE hn hbd hv e hd hne
        go_enter Tryd.func7, Tryd.ntmps7
        go_wp2_with fail
        go_at_call 17; refine (PO.out _).mono ?_; rintro e w2 ⟨rfl, b2⟩
        have B2 := Lib.hid b2
        clear b2
        go_wp2_with fail
        go_at_call 18; refine (isValue_is _ n _ T.out).mono ?_; rintro e w' ⟨rfl, m, rfl⟩
        have B3 := Lib.hid (below_drewN B2.out m)
        go_wp2_with fail
        go_at_call 19; refine (DEC.out _ (HE.out.below' B3.out).1).mono ?_; rintro e w4 ⟨rfl, b4⟩
        have B4 := Lib.hid (B3.out.trans (b4.mono B3.out.size))
        clear b4
        go_wp2_with fail
        go_ret2
        exact ⟨rfl, B4.out⟩
  · have hb' : ∀ n, Lib.parseIntB 64 s.data.toList ≠ .ok n := fun n h => hb ⟨n, h⟩
    have e := rd_err hb'
    rw [e, rdN_no e]
    have PB := Lib.hid (fun w hE => parse_bad s w hs hb' hE)
    clear hE hb hb' e
    go_enter Tryd.func7, Tryd.ntmps7
    go_wp2_with fail
    go_at_call 17; refine (PB.out _ HE.out).mono ?_; rintro e w2 ⟨n, N, rfl, b2⟩
    have B2 := Lib.hid b2
    clear b2
    go_wp2_with fail
    go_ret2
    exact ⟨rfl, B2.out⟩
end Go.Proofs.YtfingpllakbpnaaDoor
