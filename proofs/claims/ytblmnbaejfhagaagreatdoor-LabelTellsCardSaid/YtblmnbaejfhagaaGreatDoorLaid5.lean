/-
  THE LIBRARY'S VARIABLES AS THE ROW LISTS THEM: what the condition gives the walks; a start that meets it.
-/
import Derived.Test.YtblmnbaejfhagaaGreatDoorAll5
import Derived.Test.YtblmnbaejfhagaaGreatDoorFrameX
import Derived.Stop.LaidErr
import Derived.Lay
import Derived.MakeChecks
namespace Go.Proofs.YtblmnbaejfhagaaGreatDoor
open Go.ChangeShapes Go.WideShapes Go.ChangeAt Go.RowKit
set_option linter.unusedVariables false

def laid5 : List (String × DataW Unit) := [("math/bits.deBruijn32tab", Rows.laid_math_bits_deBruijn32tab), ("math/bits.deBruijn64tab", Rows.laid_math_bits_deBruijn64tab), ("internal/strconv.uint64pow10", Rows.laid_internal_strconv_uint64pow10), ("unicode/utf8.acceptRanges", Rows.laid_unicode_utf8_acceptRanges), ("strconv.ErrRange", Rows.laid_strconv_ErrRange), ("strconv.ErrSyntax", Rows.laid_strconv_ErrSyntax), ("unicode/utf8.first", Rows.laid_unicode_utf8_first)]
theorem laid5_plain (W : World) : laidMetH Tryz.prog laid5 W = laidMet Tryz.prog laid5 W := MakeChecks.laidMetH_plain _ _ _ (by kernel_rfl)
theorem pow_global : Tryz.prog.globalNamed "internal/strconv.uint64pow10" = some 1 := by kernel_rfl
theorem pow_type : (Tryz.prog.globals[1]?).map (·.type) = some 116 := by kernel_rfl
theorem pow_list : (Rows.laid_internal_strconv_uint64pow10 : DataW Unit) = Lib.tabData .u64 Lib.pow10Tab := rfl
theorem range_global : Tryz.prog.globalNamed "strconv.ErrRange" = some 3 := by kernel_rfl
theorem range_type : (Tryz.prog.globals[3]?).map (·.type) = some 69 := by kernel_rfl
theorem wrong_global : Tryz.prog.globalNamed "strconv.ErrSyntax" = some 2 := by kernel_rfl
theorem wrong_type : (Tryz.prog.globals[2]?).map (·.type) = some 69 := by kernel_rfl
theorem star_name : "*" ++ "errors.errorString" = "*errors.errorString" := by decide
theorem star_row (u : TypeId) (h : Tryz.prog.typeName? 3 u = some "*errors.errorString") : u = 134 :=
  typeName_ptr_named (nm := "errors.errorString") (by rw [star_name]; kernel_rfl) (by kernel_rfl) (by decide) u (by rw [star_name]; exact h)
theorem cells_es : Tryz.prog.cellsOf 136 = 1 := by kernel_rfl
theorem cells_str : Tryz.prog.cellsOf 9 = 1 := by kernel_rfl
set_option maxRecDepth 100000 in
theorem vars_of_laid {W : World} (h : laidMetH Tryz.prog laid5 W) : Vars W := by
  rw [laid5_plain] at h
  have h2 := h.tail.tail
  have h4 := h2.tail.tail
  have h5 := h4.tail
  obtain ⟨a0, _, v0, _⟩ := laid_sentinel h4 range_global range_type Tryz.underlying69 star_row Tryz.underlying134 Tryz.underlying136 rfl rfl Tryz.underlying9 cells_es cells_str
  obtain ⟨a1, _, v1, _⟩ := laid_sentinel h5 wrong_global wrong_type Tryz.underlying69 star_row Tryz.underlying134 Tryz.underlying136 rfl rfl Tryz.underlying9 cells_es cells_str
  rw [pow_list] at h2
  exact ⟨Lib.tabIs_of_head pow_global pow_type Tryz.underlying116 Tryz.underlying54 (by kernel_rfl) (by kernel_rfl) h2, ⟨_, _, v1⟩, _, _, v0⟩
theorem door_met (os : Os) (args : Array Value) : laidMetH Tryz.prog laid5 ((World.laidAll Tryz.prog os laid5).forCall (fun _ _ => 0) ⟨#[], args, []⟩).memory := by
  rw [laid5_plain]; exact laidMet_laidAll _ (by kernel_rfl) (by kernel_rfl)
theorem door_shaped (os : Os) : (World.laidAll Tryz.prog os laid5).Shaped Tryz.prog := World.shaped_of_ZipB (by kernel_rfl) (by kernel_rfl)
end Go.Proofs.YtblmnbaejfhagaaGreatDoor
