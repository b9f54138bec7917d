/- The entry of a line in a journal, and the library's builder: the program. -/
import Derived.Test.YtcgdkjbbdpmmhaaDoorJo0
import Derived.Test.YtcgdkjbbdpmmhaaDoorFmJ
import Derived.Test.YtcgdkjbbdpmmhaaDoorTxI
import Derived.Test.YtcgdkjbbdpmmhaaDoorBdLen
import Derived.Laws.Concat
import Derived.Shelf.Strings.Builder1
namespace Go.Proofs.YtcgdkjbbdpmmhaaDoor
open Go.RowKit Go.ChangeShapes Go.WideShapes Go.Shelf

theorem run_bs_add2 (a b : ByteArray) (h : a.size + b.size ≤ 1000000000) (W : World) : (Op.stringOp .add a b).run Tryd.prog W = .ok (.string (a ++ b)) W :=
  run_string_add_sum W _ _ (by omega)
theorem bs_eq (s : ByteArray) : bsOf s.data.toList = s := by
  apply ByteArray.ext
  simp [bsOf]
theorem entry_is (c : Int) (s : ByteArray) : bsOf (Lib.itoa c) ++ ⟨#[32]⟩ ++ s ++ ⟨#[10]⟩ = bsOf (jEnt c s) := by
  have e1 : (⟨#[32]⟩ : ByteArray) = bsOf [32] := rfl
  have e2 : (⟨#[10]⟩ : ByteArray) = bsOf [10] := rfl
  conv => lhs; rw [← bs_eq s, e1, e2]
  rw [bs_append, bs_append, bs_append]; rfl
def SaysE (E : List UInt8) (c : Int) (w : World) (e : Ending) (w' : World) : Prop := e = .returned (.tuple #[.string (bsOf E), .int .i64 c]) ∧ Below w.heap.size w w'
set_option maxRecDepth 100000 in
theorem entryOf_any (b : Int) (s : ByteArray) (w : World) (hs : s.size ≤ 1048576) (h0 : 0 ≤ b) (h1 : b < 65003) (hp : PowTab w) :
    Calls Tryd.prog 41 #[.int .i64 b, .string s] w (SaysE (jEnt (chkTo b s s.size) s) (chkTo b s s.size) w) := by
  have HP := Lib.hid hp
  have CK := Lib.hid (fun w => implCheck_yes b s (by unfold maxLen; omega) h0 h1 w)
  obtain ⟨c0, c1⟩ := chkTo_in b s h0 h1 s.size (Nat.le_refl _)
  generalize chkTo b s s.size = c at *
  have DEC := Lib.hid (fun W hp => (show Calls Tryd.prog 52 #[.int .i64 c] W (fun e w' => e = .returned (.string (bsOf (Lib.itoa c))) ∧ Below W.heap.size W w') from implDecimal_any c W (by omega) (by omega) hp))
  have EI := Lib.hid (entry_is c s)
  have hl : (bsOf (Lib.itoa c)).size ≤ 20 := by rw [bs_size]; exact itoa_len (by omega)
  generalize bsOf (Lib.itoa c) = x at *
  have z1 : (⟨#[32]⟩ : ByteArray).size = 1 := rfl
  have z2 : (⟨#[10]⟩ : ByteArray).size = 1 := rfl
  have A1 := run_bs_add2 x ⟨#[32]⟩ (by omega)
  have l1 : (x ++ ⟨#[32]⟩ : ByteArray).size = x.size + 1 := by rw [ByteArray.size_append, z1]
  obtain ⟨y, hy⟩ : ∃ y : ByteArray, y = x ++ ⟨#[32]⟩ := ⟨_, rfl⟩
  rw [← hy] at A1 l1 EI
  have A2 := run_bs_add2 y s (by omega)
  have l2 : (y ++ s : ByteArray).size = y.size + s.size := ByteArray.size_append
  obtain ⟨z, hz⟩ : ∃ z : ByteArray, z = y ++ s := ⟨_, rfl⟩
  rw [← hz] at A2 l2 EI
  have A3 := run_bs_add2 z ⟨#[10]⟩ (by omega)
  rw [EI.out] at A3
  obtain ⟨E, hE⟩ : ∃ E, bsOf (jEnt c s) = E := ⟨_, rfl⟩
  rw [hE] at A3
  have HE := Lib.hid hE
  clear hE hp hy hz z1 z2 l1 l2 hl EI
  go_enter Tryd.func41, Tryd.ntmps41
  go_wp2_with fail
  go_at_call 70; refine (CK.out _).mono ?_; rintro e w2 ⟨rfl, rfl⟩
  go_wp2_with fail
  go_at_call 52; refine (DEC.out _ HP.out).mono ?_; rintro e w3 ⟨rfl, b3⟩
  have B3 := Lib.hid b3
  clear b3
  go_wp2_with fail
  go_ret2
  exact ⟨by rw [HE.out]; rfl, B3.out⟩
/-- The library's builder holds these bytes. -/
def Bld (B b : Nat) (l : List UInt8) (w : World) : Prop := Lib.IsBuilder 123 5 B b (Lib.byteCells l) w
theorem bldAt_keep {B b C : Nat} {p : Value} {l : List UInt8} {w w' : World} (h : Lib.BuilderAt 123 5 B b p (Lib.byteCells l) w) (hb : Below C w w') (hC : w.heap.size ≤ C) : Lib.BuilderAt 123 5 B b p (Lib.byteCells l) w' := by
  obtain ⟨hB, v, hk, hown, hne⟩ := h
  have hlt : b < w.heap.size := (Array.getElem?_eq_some_iff.1 hk).1
  refine ⟨hB, v, by rw [hb.block b (by omega)]; exact hk, ?_, hne⟩
  rw [Lib.byteCells_length] at hown ⊢
  exact Grows.below (mk := byV) (Z := l) hown hb hC
theorem Bld.keep {B b C : Nat} {l : List UInt8} {w w' : World} (h : Bld B b l w) (hb : Below C w w') (hC : w.heap.size ≤ C) : Bld B b l w' := by
  rcases h with h | h
  · exact Or.inl (bldAt_keep h hb hC)
  · exact Or.inr (bldAt_keep h hb hC)
theorem Bld.fresh (w : World) : Bld w.heap.size w.heap.size [] (w.alloc (.cells #[.pointer none, .slice none 0 0] 123)) := Lib.fresh_isBuilder _ _ w
theorem bldLen_any (B b : Nat) (l : List UInt8) (w : World) (h : Bld B b l w) :
    Calls Tryd.prog 107 #[.pointer (some ⟨b, 0, none⟩)] w fun e w' => e = .returned (.int .i64 (l.length : Int)) ∧ w = w' :=
  (Any.Builder_Len Tryd.lays170 B b (Lib.byteCells l) w h).mono fun _ _ ⟨he, hw⟩ => ⟨by rw [he, Lib.byteCells_length], hw.symm⟩
theorem bldWrite_any (B b : Nat) (l D : List UInt8) (w : World) (h : Bld B b l w) (hlen : l.length + D.length ≤ 140737488355328) (hB : B ≤ w.heap.size) :
    Calls Tryd.prog 101 #[.pointer (some ⟨b, 0, none⟩), .string (bsOf D)] w fun e w' => ∃ n, e = .returned (.tuple #[.int .i64 n, .nilIface]) ∧ Bld B b (l ++ D) w' ∧ Below B w w' :=
  (Any.Builder_WriteString { Tryd.lays156 with } Tryd.extra156 B b (Lib.byteCells l) (bsOf D) w h (by rw [Lib.byteCells_length, bs_size]; exact hlen) hB).mono fun _ _ ⟨he, hb, hw⟩ => ⟨_, he, Or.inr (by
    have e : Lib.byteCells l ++ Lib.strCells (bsOf D) = Lib.byteCells (l ++ D) := by unfold Lib.byteCells Lib.strCells; rw [bs_list, List.map_append]
    rw [e] at hb; exact hb), hw⟩
theorem bldString_any (B b : Nat) (l : List UInt8) (w : World) (h : Bld B b l w) (hB : B ≤ w.heap.size) :
    Calls Tryd.prog 102 #[.pointer (some ⟨b, 0, none⟩)] w fun e w' => e = .returned (.string ⟨l.toArray⟩) ∧ Below B w w' :=
  Any.Builder_String_any { Tryd.lays156 with } Tryd.extra156 B b l w h hB
end Go.Proofs.YtcgdkjbbdpmmhaaDoor
