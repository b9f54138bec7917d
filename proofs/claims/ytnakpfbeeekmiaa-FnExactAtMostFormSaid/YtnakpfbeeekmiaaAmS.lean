/- The form of at most some letters: the model's recursion. -/
import Derived.Test.YtnakpfbeeekmiaaAm0
import Derived.Test.YtnakpfbeeekmiaaFo
import Derived.Test.YtnakpfbeeekmiaaClS
import Derived.Test.YtnakpfbeeekmiaaLiI
import Derived.Deep.AppendLies
namespace Go.Proofs.Ytnakpfbeeekmiaa
open Go.RowKit Go.ChangeShapes Go.WideShapes

theorem Try.infoLS : (Try.prog.info? 25).map (fun i => (i.zero, i.size, i.bytes)) = some (some (.slice none 0 0), 1, 24) := by kernel_rfl
/-- The row is the old one, or a new one. -/
def OwnOr (s s' : Value) (w : World) : Prop := s'.ownBlock = s.ownBlock ∨ ∃ g, s'.ownBlock = some g ∧ w.heap.size ≤ g
theorem OwnOr.same (s : Value) (w : World) : OwnOr s s w := Or.inl rfl
theorem OwnOr.then {s s1 s2 : Value} {w w1 : World} (h : OwnOr s s1 w) (k : OwnOr s1 s2 w1) (hw : w.heap.size ≤ w1.heap.size) : OwnOr s s2 w := by
  rcases k with e | ⟨g, e, h2⟩
  · rcases h with e2 | ⟨g, e2, h2⟩
    · exact Or.inl (e.trans e2)
    · exact Or.inr ⟨g, e.trans e2, h2⟩
  · exact Or.inr ⟨g, e, Nat.le_trans hw h2⟩
theorem grown_or {s s1 : Value} {w w1 w2 : World} (h : w.grownBy w1 s.ownBlock) (k : w1.grownBy w2 s1.ownBlock) (o : OwnOr s s1 w) : w.grownBy w2 s.ownBlock :=
  ⟨k.os.trans h.os, k.tape.trans h.tape, k.output.trans h.output, Nat.le_trans h.size k.size, fun i hi hne => (k.block i (Nat.lt_of_lt_of_le hi h.size) (by
    rcases o with e | ⟨g, e, hg⟩
    · rw [e]; exact hne
    · rw [e]; intro q; injection q with q; omega)).trans (h.block i hi hne)⟩
theorem grown_below {w w' : World} (b : Below w.heap.size w w') (row : Option Nat) : w.grownBy w' row := ⟨b.os, b.tape, b.output, b.size, fun i hi _ => b.block i hi⟩
/-- What the recursion puts together. -/
def chL (L d c : Nat) (now : List Int) (Out : List (List Int)) : List (List Int) := Out ++ ((cmb L d c).map (fun T => now ++ T)).take (49 - Out.length)
theorem chL_end {L d : Nat} {now : List Int} {Out : List (List Int)} (h : Out.length ≤ 48) : chL L d 0 now Out = Out ++ [now] := by
  unfold chL
  rw [cmb_zero]
  obtain ⟨q, hq⟩ : ∃ q, 49 - Out.length = q + 1 := ⟨48 - Out.length, by omega⟩
  rw [hq]; simp
theorem chL_none {L c : Nat} {now : List Int} {Out : List (List Int)} : chL L 0 (c + 1) now Out = Out := by
  unfold chL; rw [cmb_none]; simp
theorem chL_full {L d c : Nat} {now : List Int} {Out : List (List Int)} (h : Out.length = 49) : chL L d c now Out = Out := by
  unfold chL; rw [h]; simp
theorem chL_len {L d c : Nat} {now : List Int} {Out : List (List Int)} (h : Out.length ≤ 49) : (chL L d c now Out).length ≤ 49 := by
  unfold chL; rw [List.length_append, List.length_take]; omega
theorem chL_step (L d c : Nat) (now : List Int) (Out : List (List Int)) : chL L (d + 1) (c + 1) now Out = chL L d (c + 1) now (chL L d c (now ++ [-((L - d : Nat) : Int)]) Out) := by
  unfold chL
  rw [cmb_step, List.map_append, List.map_map, List.take_append]
  have e : List.map ((fun T => now ++ T) ∘ fun T => (-((L - d : Nat) : Int)) :: T) (cmb L d c) = List.map (fun T => (now ++ [-((L - d : Nat) : Int)]) ++ T) (cmb L d c) :=
    List.map_congr_left fun T _ => by simp
  rw [e, ← List.append_assoc]
  congr 2
  rw [List.length_append, List.length_take]
  omega
def ChSays (lo : Nat) (G : List (List Int)) (s : Value) (w0 w : World) (e : Ending) (w' : World) : Prop :=
  ∃ s' U', e = .returned s' ∧ OutUp lo G s' w0 w' U' ∧ w.grownBy w' s.ownBlock ∧ OwnOr s s' w
theorem ch_put {lo g cap : Nat} {Out : List (List Int)} {Z : List Int} {s d : Value} {w0 w w1 w9 : World} {U : Nat → Value} {o : Obj} (hO : OutUp lo Out s w0 w U) (hlo : w0.heap.size ≤ lo) (hl : lo ≤ w.heap.size)
    (hd : Grows (Value.int .i64) 2 w.heap.size d Z w1) (hb : Below w.heap.size w w1)
    (hown : w9.ownsRow lo 25 1 (.slice (some ⟨g, 0, none⟩) (Out.length + 1) cap) (Out.length + 1) ((List.range Out.length).map U ++ [d])) (hgrow : (w1.alloc o).grownBy w9 s.ownBlock) (hat : s.ownBlock = some g ∨ g = (w1.alloc o).heap.size) :
    ChSays lo (Out ++ [Z]) s w0 w (.returned (.slice (some ⟨g, 0, none⟩) (Out.length + 1) cap)) w9 := by
  have hb2 : Below w.heap.size w (w1.alloc o) := hb.alloc hb.size o
  have hfar : ∀ b, d.ownBlock = some b → w.heap.size ≤ b := fun b e => (World.ownsRow.lt hd b e).1
  have hst := (hO.keep hb2).step hlo ((hd.below (below_alloc w1 o) (Nat.le_refl _)).lower hl)
    (fun b e => ⟨fun e2 => by have h1 := hfar b e; have h2 := (World.ownsRow.lt hO.own b e2).2; omega, fun j hj e2 => by have h1 := hfar b e; have h2 := (World.ownsRow.lt (hO.row j hj) b e2).2; omega⟩) hown hgrow hat
  refine ⟨_, _, rfl, hst, grown_or (grown_below hb2 _) hgrow (OwnOr.same _ _), ?_⟩
  rcases hat with e | e
  · exact Or.inl e.symm
  · exact Or.inr ⟨g, rfl, by rw [e]; exact hb2.size⟩
theorem OutUp.slice {lo : Nat} {Out : List (List Int)} {s : Value} {w wr : World} {U : Nat → Value} (h : OutUp lo Out s w wr U) : ∃ ao cap, s = .slice ao Out.length cap := by
  rcases h.own.2 with ⟨e, h0⟩ | ⟨g2, cap, cur, e, _⟩
  · exact ⟨none, 0, by rw [e, h0]⟩
  · exact ⟨_, _, e⟩
theorem lies_grows {B : Nat} {w : World} {ad : Addr} {cap : Nat} {P : List Int} (h : Grows (Value.int .i64) 2 B (.slice (some ad) P.length cap) P w) : LiesI w ad P := by
  rcases IL.lies (SI.vl (Grows.si h)) with ⟨_, c, e⟩ | ⟨ad', c, e, hl⟩
  · cases e
  · injection e with e _ _
    injection e with e
    subst e
    exact hl
set_option maxRecDepth 100000 in
set_option maxHeartbeats 4000000 in
theorem choose_end (L lo : Nat) (x : Int) (now : List Int) (na : Addr) (nc : Nat) (Out : List (List Int)) (s : Value) (w0 w : World) (U : Nat → Value) (hO : OutUp lo Out s w0 w U) (hlo : w0.heap.size ≤ lo) (hl : lo ≤ w.heap.size)
    (ho : Out.length ≤ 48) (hN : Grows (Value.int .i64) 2 lo (.slice (some na) now.length nc) now w) (hn : now.length ≤ 16) :
    Calls Try.prog 79 #[.int .i64 (L : Int), .int .i64 x, .int .i64 0, .slice (some na) now.length nc, s] w (ChSays lo (Out ++ [now]) s w0 w) := by
  obtain ⟨i0, hi, hz0, hz1, hz2⟩ := info_parts Try.infoI
  obtain ⟨j0, hj, hy0, hy1, hy2⟩ := info_parts Try.infoLS
  have HO := Lib.hid hO
  have HL := Lib.hid (lies_grows hN)
  have HOW : Hid (∀ W, Below w.heap.size w W → W.ownsRow lo 25 1 s Out.length ((List.range Out.length).map U)) := Lib.hid fun W b => (hO.keep b).own
  clear hO hN
  go_enter Try.func79, Try.ntmps79
  go_wp2_with (first
    | (at_builtin; refine wpList_append_own _ rfl _ _ 25 rfl w.heap.size 2 i0 (.int .i64 0) 1 8 Try.underlying25 hi hz0 hz1 hz2 rfl (by decide) _ _ _ rfl (Grows.empty (Value.int .i64) _ _ w (Nat.le_refl _)) na now.length nc (now.map (Value.int .i64)) rfl (by simp) (HL.out _) (map_oneI now) (by simp; unfold maxLen; omega) (by simp; omega) (by simp) ?_; intro v1 w1 hown hgrow _; have HB1 := Lib.hid ((below_alloc w _).grown hgrow (by simp) (fun k hk => Nat.le_of_eq (Option.some.inj hk))); have HN1 : Hid (Grows (Value.int .i64) 2 w.heap.size v1 now w1) := Lib.hid (by have h := hown; show World.ownsRow _ _ _ _ _ _ _; simpa using h); clear hown hgrow; obtain ⟨va, vc, rfl⟩ := SI.len (d := (0 : Int)) HN1.out.si; have hz1 : w.heap.size ≤ w1.heap.size := HB1.out.size)
    | (at_builtin; (refine wpList_append_lies _ rfl _ _ 22 rfl lo 25 j0 (.slice none 0 0) 1 24 Try.underlying22 hj hy0 hy1 hy2 rfl (by decide) _ _ _ rfl (HOW.out _ (HB1.out.alloc HB1.out.size _)) ⟨w1.heap.size, 0, none⟩ 1 1 [.slice va now.length vc] rfl rfl one_new (by intro u hu; simp at hu; subst hu; rfl) (by omega) (by unfold maxLen; omega) (by omega) (by simp; omega) (w1.heap.size + 1) (by simp) ?_); intro g3 cap3 w9 hown hgrow hat hgl; (have HP := Lib.hid (ch_put HO.out hlo hl HN1.out HB1.out hown hgrow (hat.imp id (fun e => by rw [e]; simp)))); clear hown hgrow hat))
  go_ret
  exact HP.out
set_option maxRecDepth 100000 in
set_option maxHeartbeats 8000000 in
theorem choose_step (L lo c : Nat) (hL : L ≤ 10) (hc : c ≤ 10) (w0 : World)
    (ih : ∀ (M e : Nat) (now : List Int) (na : Addr) (nc : Nat) (Out : List (List Int)) (s : Value) (w : World) (U : Nat → Value), M + e = L + 1 → now.length + c ≤ 12 → OutUp lo Out s w0 w U → lo ≤ w.heap.size → Out.length ≤ 48 →
      Grows (Value.int .i64) 2 lo (.slice (some na) now.length nc) now w → (∀ b, (Value.slice (some na) now.length nc).ownBlock = some b → s.ownBlock ≠ some b) →
      Calls Try.prog 79 #[.int .i64 (L : Int), .int .i64 (M : Int), .int .i64 (c : Int), .slice (some na) now.length nc, s] w (ChSays lo (chL L e c now Out) s w0 w))
    (M e : Nat) (now : List Int) (na : Addr) (nc : Nat) (Out : List (List Int)) (s : Value) (w : World) (U : Nat → Value) (hM : M + e = L + 1) (hn : now.length + (c + 1) ≤ 12) (hO : OutUp lo Out s w0 w U) (hl : lo ≤ w.heap.size) (ho : Out.length ≤ 48)
    (hN : Grows (Value.int .i64) 2 lo (.slice (some na) now.length nc) now w) (hns : ∀ b, (Value.slice (some na) now.length nc).ownBlock = some b → s.ownBlock ≠ some b) :
    Calls Try.prog 79 #[.int .i64 (L : Int), .int .i64 (M : Int), .int .i64 ((c + 1 : Nat) : Int), .slice (some na) now.length nc, s] w (ChSays lo (chL L e (c + 1) now Out) s w0 w) := by
  obtain ⟨i0, hi, hz0, hz1, hz2⟩ := info_parts Try.infoI
  have IH := Lib.hid ih
  have HO := Lib.hid hO
  have HN := Lib.hid hN
  have HNS := Lib.hid hns
  obtain ⟨G, hG⟩ : ∃ G, chL L e (c + 1) now Out = G := ⟨_, rfl⟩
  have HG := Lib.hid hG
  rw [hG]
  obtain ⟨s0, hs0⟩ : ∃ s0, s0 = s := ⟨_, rfl⟩
  have hce : (((c + 1 : Nat) : Int) == 0) = false := by simp; omega
  have hce2 : ¬ ((c + 1 : Nat) : Int) = 0 := by omega
  have HS0 := Lib.hid hs0
  clear ih hO hN hns hG hs0
  go_enter Try.func79, Try.ntmps79
  go_wp2_with fail
  go_loopg [4, 11] e (fun gk s i wr => ∃ (M e : Nat) (X : List (List Int)) (U : Nat → Value), M + e = L + 1 ∧ gk = e ∧ i = .int .i64 M ∧ OutUp lo X s w0 wr U ∧ X.length ≤ 49 ∧ chL L e (c + 1) now X = G ∧ w.grownBy wr s0.ownBlock ∧ OwnOr s0 s w)
  case atStart => exact ⟨M, e, Out, U, hM, rfl, rfl, HO.out, by omega, HG.out, grown_below (Below.refl _ _) _, HS0.out ▸ OwnOr.same _ _⟩
  case round =>
    clear HO HG hM ho
    obtain ⟨M, e, X, U, hM, hge, rfl, hO, hX, hG, hgr, hor⟩ := hrel
    obtain ⟨sa, sc, rfl⟩ := hO.slice
    have HO := Lib.hid hO
    have HG := Lib.hid hG
    have HGR := Lib.hid hgr
    have HOR := Lib.hid hor
    have hlr : lo ≤ wr.heap.size := Nat.le_trans hl hgr.size
    have hwr : w.heap.size ≤ wr.heap.size := hgr.size
    clear hO hG hgr hor
    by_cases hlt : M ≤ L
    · by_cases h48 : X.length ≤ 48
      · obtain ⟨d, rfl⟩ : ∃ d, e = d + 1 := ⟨e - 1, by omega⟩
        obtain ⟨Q, hQ⟩ : ∃ Q, Q = now ++ [-(M : Int)] := ⟨_, rfl⟩
        have HQ := Lib.hid hQ
        have hQl : Q.length = now.length + 1 := by rw [hQ]; simp
        have HG2 : Hid (chL L d (c + 1) now (chL L d c Q X) = G) := Lib.hid (by rw [hQ, ← HG.out, chL_step, show L - d = M by omega])
        have HQL := Lib.hid hQl
        have hle : (M : Int) ≤ (L : Int) := by omega
        have hle8 : (X.length : Int) ≤ 48 := by omega
        have wn : IntKind.i64.wrap (-(M : Int)) = -(M : Int) := IntWalk.i64_in _ (by omega)
        have wm : IntKind.i64.wrap ((M : Int) + 1) = ((M + 1 : Nat) : Int) := by rw [IntKind.wrap_i64]; omega
        have wc : IntKind.i64.wrap (((c + 1 : Nat) : Int) - 1) = (c : Int) := by rw [IntKind.wrap_i64]; omega
        have HNr : Hid (Grows (Value.int .i64) 2 lo (.slice (some na) now.length nc) now wr) := Lib.hid (World.ownsRow.kept HN.out HGR.out (by
          cases q : (Value.slice (some na) now.length nc).ownBlock with
          | none => exact Or.inl rfl
          | some b => exact Or.inr (fun q2 => by rw [HS0.out] at q2; exact HNS.out b q q2.symm)))
        have HL := Lib.hid (lies_grows HNr.out)
        have hnl : now.length ≤ 12 := by omega
        clear hQ hQl
        go_wp2_with (first | (at_builtin; refine wpList_append_own _ rfl _ _ 25 rfl wr.heap.size 2 i0 (.int .i64 0) 1 8 Try.underlying25 hi hz0 hz1 hz2 rfl (by decide) _ _ _ rfl (Grows.empty (Value.int .i64) _ _ wr (Nat.le_refl _)) na now.length nc (now.map (Value.int .i64)) rfl (by simp) (HL.out _) (map_oneI now) (by simp; unfold maxLen; omega) (by simp; omega) (by simp) ?_; intro v1 w1 hown hgrow _; have HB1 := Lib.hid ((below_alloc wr _).grown hgrow (by simp) (fun k hk => Nat.le_of_eq (Option.some.inj hk))); have HN1 : Hid (Grows (Value.int .i64) 2 wr.heap.size v1 now w1) := Lib.hid (by have h := hown; show World.ownsRow _ _ _ _ _ _ _; simpa using h); clear hown hgrow) | (at_builtin; refine wpList_append_own _ rfl _ _ 25 rfl wr.heap.size 2 i0 (.int .i64 0) 1 8 Try.underlying25 hi hz0 hz1 hz2 rfl (by decide) _ _ _ rfl (Grows.alloc HN1.out _) ⟨w1.heap.size, 0, none⟩ 1 1 [.int .i64 (-(M : Int))] rfl rfl one_new (by intro u hu; simp at hu; subst hu; rfl) (by unfold maxLen; omega) (by omega) (by have := HB1.out.size; simp; omega) ?_; intro v2 w2 hown hgrow _; have HB2 := Lib.hid ((HB1.out.alloc HB1.out.size _).grown hgrow (by have := HB1.out.size; simp; omega) (fun g hg => HN1.out.block g hg)); have HN2 : Hid (Grows (Value.int .i64) 2 wr.heap.size v2 Q w2) := Lib.hid (HQ.out.symm ▸ Grows.more (news := [-(M : Int)]) rfl hown); obtain ⟨va, vc, rfl⟩ := SI.len (d := (0 : Int)) HN2.out.si; clear hown hgrow))
        have hV : ∃ g, va = some ⟨g, 0, none⟩ := by
          rcases HN2.out.2 with ⟨_, h0⟩ | ⟨g2, cap, cur, e, _⟩
          · exfalso; have := HQL.out; omega
          · injection e with e1 _ _; exact ⟨g2, e1⟩
        obtain ⟨g2, rfl⟩ := hV
        have hz2 : wr.heap.size ≤ w2.heap.size := HB2.out.size
        go_at_call 79; refine (IH.out (M + 1) d Q _ vc X _ w2 U (by omega) (by have := HQL.out; omega) (HO.out.keep HB2.out) (by omega) h48 (HN2.out.lower hlr) (fun b e e2 => by have h1 := (World.ownsRow.lt HN2.out b e).1; have h2 := (World.ownsRow.lt HO.out.own b e2).2; omega)).mono ?_; rintro e w3 ⟨s3, U3, rfl, hO3, hg3, hor3⟩
        have HO3 := Lib.hid hO3
        have HG3 := Lib.hid (grown_or HGR.out (grown_or (grown_below HB2.out _) hg3 (OwnOr.same _ _)) (HOR.out))
        have HR3 := Lib.hid (HOR.out.then (hor3.then (OwnOr.same _ w3) hg3.size |>.imp id (fun ⟨g, a, b⟩ => ⟨g, a, Nat.le_trans hz2 b⟩) : OwnOr _ s3 wr) hwr)
        have HX3 := Lib.hid (chL_len (L := L) (d := d) (c := c) (now := Q) (Out := X) (by omega))
        clear hO3 hg3 hor3
        generalize chL L d c Q X = Y at HO3 HX3 HG2
        go_wp2_with fail
        go_roundg d
        case measure => omega
        case rel => exact ⟨M + 1, d, Y, U3, by omega, rfl, rfl, HO3.out, HX3.out, HG2.out, HG3.out, HR3.out⟩
      · have hle : (M : Int) ≤ (L : Int) := by omega
        have hle8 : ¬ (X.length : Int) ≤ 48 := by omega
        have HE : Hid (X = G) := Lib.hid (by rw [← HG.out, chL_full (by omega)])
        go_wp2_with fail
        go_ret
        exact ⟨_, U, rfl, HE.out ▸ HO.out, HS0.out ▸ HGR.out, HS0.out ▸ HOR.out⟩
    · obtain rfl : e = 0 := by omega
      have hle : ¬ (M : Int) ≤ (L : Int) := by omega
      have HE : Hid (X = G) := Lib.hid (by rw [← HG.out, chL_none])
      go_wp2_with fail
      go_ret
      exact ⟨_, U, rfl, HE.out ▸ HO.out, HS0.out ▸ HGR.out, HS0.out ▸ HOR.out⟩
theorem choose_any (L lo : Nat) (hL : L ≤ 10) (w0 : World) (hlo : w0.heap.size ≤ lo) : ∀ (c : Nat), c ≤ 11 → ∀ (M e : Nat) (now : List Int) (na : Addr) (nc : Nat) (Out : List (List Int)) (s : Value) (w : World) (U : Nat → Value), M + e = L + 1 → now.length + c ≤ 12 → OutUp lo Out s w0 w U → lo ≤ w.heap.size → Out.length ≤ 48 →
      Grows (Value.int .i64) 2 lo (.slice (some na) now.length nc) now w → (∀ b, (Value.slice (some na) now.length nc).ownBlock = some b → s.ownBlock ≠ some b) →
      Calls Try.prog 79 #[.int .i64 (L : Int), .int .i64 (M : Int), .int .i64 (c : Int), .slice (some na) now.length nc, s] w (ChSays lo (chL L e c now Out) s w0 w)
  | 0, _, M, e, now, na, nc, Out, s, w, U, _, hn, hO, hl, ho, hN, _ => by rw [chL_end ho]; exact choose_end L lo M now na nc Out s w0 w U hO hlo hl ho hN (by omega)
  | c + 1, hc, M, e, now, na, nc, Out, s, w, U, hM, hn, hO, hl, ho, hN, hns => choose_step L lo c hL (by omega) w0 (choose_any L lo hL w0 hlo c (by omega)) M e now na nc Out s w U hM hn hO hl ho hN hns
end Go.Proofs.Ytnakpfbeeekmiaa
