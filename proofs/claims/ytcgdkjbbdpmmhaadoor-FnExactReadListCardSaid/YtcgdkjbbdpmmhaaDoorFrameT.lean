/- The door of the laws that read lists of numbers: seven variables are laid, a pinned table and two errors among them; the world's shape is handed over. -/
import Derived.Test.YtcgdkjbbdpmmhaaDoorFrameQ
import Derived.Test.YtcgdkjbbdpmmhaaDoorFrameV
namespace Go.Proofs.YtcgdkjbbdpmmhaaDoor
open Go.ChangeShapes Go.WideShapes Go.ChangeAt Go.RowKit

abbrev laidT : List (String × DataW Unit) := [("math/bits.deBruijn32tab", Rows.laid_math_bits_deBruijn32tab), ("math/bits.deBruijn64tab", Rows.laid_math_bits_deBruijn64tab), ("internal/strconv.uint64pow10", Rows.laid_internal_strconv_uint64pow10), ("unicode/utf8.acceptRanges", Rows.laid_unicode_utf8_acceptRanges), ("strconv.ErrRange", Rows.laid_strconv_ErrRange), ("strconv.ErrSyntax", Rows.laid_strconv_ErrSyntax), ("unicode/utf8.first", Rows.laid_unicode_utf8_first)]
theorem tab_of_laidT {W : World} (h : laidMetH Tryd.prog laidT W) : ErrTab W := by
  rw [MakeChecks.laidMetH_plain _ _ _ (by kernel_rfl)] at h
  have h2 := h.tail.tail
  have h3 := h2.tail.tail
  have h4 := h3.tail
  rw [pow_data] at h2
  obtain ⟨a0, s0, hv0, -, -, -⟩ := laid_sentinel h3 (g := 4) (ti := 112) (tp := 182) (te := 184) (ts := 9) (by kernel_rfl) (by kernel_rfl) Tryd.underlying112 row_err Tryd.underlying182 Tryd.underlying184 rfl rfl Tryd.underlying9 (by kernel_rfl) (by kernel_rfl)
  obtain ⟨a1, s1, hv1, -, -, -⟩ := laid_sentinel h4 (g := 3) (ti := 112) (tp := 182) (te := 184) (ts := 9) (by kernel_rfl) (by kernel_rfl) Tryd.underlying112 row_err Tryd.underlying182 Tryd.underlying184 rfl rfl Tryd.underlying9 (by kernel_rfl) (by kernel_rfl)
  exact ⟨Lib.tabIs_of_head (g := 2) (t := 166) (e := 143) (n := 20) (by kernel_rfl) (by kernel_rfl) Tryd.underlying166 Tryd.underlying143 (by kernel_rfl) (by kernel_rfl) h2, ⟨_, _, hv1⟩, ⟨_, _, hv0⟩⟩
theorem laidT_met (os : Os) (args : Array Value) : laidMetH Tryd.prog laidT ((World.laidAll Tryd.prog os laidT).forCall (fun _ _ => 0) ⟨#[], args, []⟩).memory := by
  rw [MakeChecks.laidMetH_plain _ _ _ (by kernel_rfl)]
  exact laidMet_laidAll _ (by kernel_rfl) (by kernel_rfl)
end Go.Proofs.YtcgdkjbbdpmmhaaDoor
