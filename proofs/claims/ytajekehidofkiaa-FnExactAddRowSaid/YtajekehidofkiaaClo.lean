/- Clones of lists of numbers; rows that come out: the program's side. -/
import Derived.Test.YtajekehidofkiaaOwn
import Derived.Test.YtajekehidofkiaaF2
import Derived.Test.YtajekehidofkiaaRws
import Derived.Test.YtajekehidofkiaaBox
import Derived.WalkSpells
namespace Go.Proofs.Ytajekehidofkiaa
open Go.RowKit Go.ChangeShapes Go.WideShapes

/-- Where a list of numbers lies, also an empty one, but nil. -/
def LiesF (w : World) (ad : Addr) (Z : List Nat) : Prop := ∀ (o : Obj) j u, (Z.map (Value.float .f32))[j]? = some u → (w.alloc o).cell? (ad.add j) = some u
theorem SL.lies {w : World} {v : Value} {Z : List Nat} (h : SL w v Z) : (Z = [] ∧ ∃ cap, v = .slice none 0 cap) ∨ ∃ ad cap, v = .slice (some ad) Z.length cap ∧ LiesF w ad Z := by
  rcases h with ⟨rfl, ao, cap, rfl⟩ | ⟨b, off, cap, rfl, hpos, hbl, hcell⟩
  · cases ao with
    | none => exact Or.inl ⟨rfl, cap, rfl⟩
    | some ad => exact Or.inr ⟨ad, cap, rfl, fun o j u hu => by simp at hu⟩
  · refine Or.inr ⟨_, _, rfl, fun o j u hu => ?_⟩
    have hj : j < Z.length := by
      have := (List.getElem?_eq_some_iff.1 hu).1
      simpa using this
    rw [Go.WideShapes.add_plain, (below_alloc w o).cell (p := ⟨b, off + j, none⟩) hbl, hcell j hj]
    rw [← hu]
    simp [List.getD, hj]
def MadeF (Z : List Nat) (w : World) (e : Ending) (w' : World) : Prop := ∃ v, e = .returned v ∧ FI w.heap.size w'.heap.size w' v Z ∧ Below w.heap.size w w'
theorem map_one (Z : List Nat) : ∀ u ∈ Z.map (Value.float .f32), u.oneCell' = true := by
  intro u hu
  obtain ⟨x, -, rfl⟩ := List.mem_map.1 hu
  rfl
set_option maxHeartbeats 1000000 in
theorem cloneF_any (v : Value) (Z : List Nat) (w : World) (hv : SL w v Z) (hn : Z.length ≤ 1048576) :
    Calls Try.prog 60 #[v] w (MadeF Z w) := by
  obtain ⟨i0, hi, hz0, hz1, hz2⟩ := info_parts Try.infoF
  rcases hv.lies with ⟨rfl, cap, rfl⟩ | ⟨ad, cap, rfl, hl⟩
  · have hnil := fun (W : World) => Lib.run_eql_slice_nil (P := Try.prog) W 44 47 none 0 cap 0 0 Try.underlying44
    clear hv
    go_enter Try.func60, Try.ntmps60
    go_wp2_with fail
    refine bodyPost_ret (results_tmp rfl _ _ _) rfl ?_
    exact ⟨_, rfl, SI.nil _ (Nat.le_refl _) _ _, Below.refl _ _⟩
  · have HL := Lib.hid hl
    clear hv hl
    have hnil := fun (W : World) => Lib.run_eql_slice_nil (P := Try.prog) W 44 47 (some ad) Z.length cap 0 0 Try.underlying44
    go_enter Try.func60, Try.ntmps60
    go_wp2_with (at_builtin; refine wpList_append_own _ rfl _ _ 44 rfl w.heap.size 47 i0 (.float .f32 0) 1 4 Try.underlying44 hi hz0 hz1 hz2 rfl (by decide) _ _ _ rfl (Grows.empty (Value.float .f32) _ _ w (Nat.le_refl _)) ad Z.length cap (Z.map (Value.float .f32)) rfl (by simp) ?c1 ?c2 ?c3 ?c4 ?c5 ?_)
    case c1 => exact HL.out _
    case c2 => exact map_one Z
    case c3 => simp; unfold maxLen; omega
    case c4 => simp; omega
    case c5 => simp
    intro v' w' hown hgrow _
    have HN : Hid (Grows (Value.float .f32) 47 w.heap.size v' Z w') := Lib.hid (by have h := hown; show World.ownsRow _ _ _ _ _ _ _; simpa using h)
    have HB := Lib.hid ((below_alloc w _).grown hgrow (by simp) (fun k hk => by simp [Value.ownBlock] at hk; omega))
    clear hown hgrow
    go_wp2_with fail
    refine bodyPost_ret (results_tmp rfl _ _ _) rfl ?_
    exact ⟨_, rfl, HN.out.si, HB.out⟩
end Go.Proofs.Ytajekehidofkiaa
