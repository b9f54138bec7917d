/- Clones of lists of integers; lists that grow, kept over calls. -/
import Derived.Test.YtknonlbbakbpiaaLiI
import Derived.Test.YtknonlbbakbpiaaGrw
import Derived.Test.YtknonlbbakbpiaaIl
import Derived.WalkSpells
namespace Go.Proofs.Ytknonlbbakbpiaa
open Go.RowKit Go.ChangeShapes Go.WideShapes

set_option maxHeartbeats 1000000 in
theorem cloneI_any (v : Value) (Z : List Int) (w : World) (hv : IL w v Z) (hn : Z.length ≤ 1048576) :
    Calls Try.prog 144 #[v] w (Made (Value.int .i64) (0 : Int) Z w) := by
  obtain ⟨i0, hi, hz0, hz1, hz2⟩ := info_parts Try.infoI
  rcases hv.lies with ⟨rfl, cap, rfl⟩ | ⟨ad, cap, rfl, hl⟩
  · have hnil := fun (W : World) => Lib.run_eql_slice_nil (P := Try.prog) W 35 2 none 0 cap 0 0 Try.underlying35
    clear hv
    go_enter Try.func144, Try.ntmps144
    go_wp2_with fail
    refine bodyPost_ret (results_tmp rfl _ _ _) rfl ?_
    exact ⟨_, rfl, SI.nil _ (Nat.le_refl _) _ _, Below.refl _ _⟩
  · have HL := Lib.hid hl
    clear hv hl
    have hnil := fun (W : World) => Lib.run_eql_slice_nil (P := Try.prog) W 35 2 (some ad) Z.length cap 0 0 Try.underlying35
    go_enter Try.func144, Try.ntmps144
    go_wp2_with (at_builtin; refine wpList_append_own _ rfl _ _ 35 rfl w.heap.size 2 i0 (.int .i64 0) 1 8 Try.underlying35 hi hz0 hz1 hz2 rfl (by decide) _ _ _ rfl (Grows.empty (Value.int .i64) _ _ w (Nat.le_refl _)) ad Z.length cap (Z.map (Value.int .i64)) rfl (by simp) ?c1 ?c2 ?c3 ?c4 ?c5 ?_)
    case c1 => exact HL.out _
    case c2 => exact map_oneI Z
    case c3 => simp; unfold maxLen; omega
    case c4 => simp; omega
    case c5 => simp
    intro v' w' hown hgrow _
    have HN : Hid (Grows (Value.int .i64) 2 w.heap.size v' Z w') := Lib.hid (by have h := hown; show World.ownsRow _ _ _ _ _ _ _; simpa using h)
    have HB := Lib.hid ((below_alloc w _).grown hgrow (by simp) (fun k hk => by simp [Value.ownBlock] at hk; omega))
    clear hown hgrow
    go_wp2_with fail
    refine bodyPost_ret (results_tmp rfl _ _ _) rfl ?_
    exact ⟨_, rfl, HN.out.si, HB.out⟩
end Go.Proofs.Ytknonlbbakbpiaa
