/- The tables that the rows list: what the list gives; a world that holds them. -/
import Derived.Test.YthefieemngmnjaaGreatDoorCards
import Derived.Test.YthefieemngmnjaaGreatDoorTie
import Derived.Test.YthefieemngmnjaaGreatDoorLibAB
import Derived.Test.YthefieemngmnjaaGreatDoorLibAF
import Derived.Test.YthefieemngmnjaaGreatDoorLibAA
import Derived.WalkKit
import Derived.ProofKit
import Derived.OpenShut
import Derived.Deep.DeepHandedRow
import Derived.Lib.LaidTab
import Derived.Shelf.Vars
namespace Go.Proofs.YthefieemngmnjaaGreatDoor
open Go.ChangeShapes Go.WideShapes Go.ChangeAt Go.RowKit
set_option linter.unusedVariables false

theorem laid_tail {P : Program} {x : String × DataW Unit} {rest : List (String × DataW Unit)} {W : World} (h : laidMet P (x :: rest) W) : laidMet P rest W := by
  obtain ⟨ps, hv, hn, hr⟩ := h
  obtain ⟨n, d⟩ := x
  obtain ⟨g, t, cs, fuel, p, q, _, _, _, _, hq, rfl⟩ := hv
  exact ⟨q, hq, (List.nodup_append.1 hn).2.1, fun b off hb => hr b off (List.mem_append_right _ hb)⟩

def vals0 : List Int := [0, 1, 28, 2, 29, 14, 24, 3, 30, 22, 20, 15, 25, 17, 4, 8, 31, 27, 13, 23, 21, 19, 16, 7, 26, 12, 18, 6, 11, 5, 10, 9]
theorem gTab0 : Tryz.prog.globalNamed "math/bits.deBruijn32tab" = some 4 := by kernel_rfl
theorem gTabType0 : (Tryz.prog.globals[4]?).map (·.type) = some 172 := by kernel_rfl
theorem tab0 {W : World} (h : laidMetH Tryz.prog [("math/bits.deBruijn32tab", Rows.laid_math_bits_deBruijn32tab), ("math/bits.deBruijn64tab", Rows.laid_math_bits_deBruijn64tab), ("internal/strconv.uint64pow10", Rows.laid_internal_strconv_uint64pow10), ("biscotti/date.months", Rows.laid_biscotti_date_months), ("biscotti/date.lengths", Rows.laid_biscotti_date_lengths)] W) : Lib.TabIs Tryz.prog W "math/bits.deBruijn32tab" .u8 vals0 :=
  Lib.tabIs_of_head gTab0 gTabType0 Tryz.underlying172 Tryz.underlying5 (by kernel_rfl) (by kernel_rfl) h

def vals1 : List Int := [0, 1, 56, 2, 57, 49, 28, 3, 61, 58, 42, 50, 38, 29, 17, 4, 62, 47, 59, 36, 45, 43, 51, 22, 53, 39, 33, 30, 24, 18, 12, 5, 63, 55, 48, 27, 60, 41, 37, 16, 46, 35, 44, 21, 52, 32, 23, 11, 54, 26, 40, 15, 34, 20, 31, 10, 25, 14, 19, 9, 13, 8, 7, 6]
theorem gTab1 : Tryz.prog.globalNamed "math/bits.deBruijn64tab" = some 5 := by kernel_rfl
theorem gTabType1 : (Tryz.prog.globals[5]?).map (·.type) = some 173 := by kernel_rfl
theorem tab1 {W : World} (h : laidMetH Tryz.prog [("math/bits.deBruijn32tab", Rows.laid_math_bits_deBruijn32tab), ("math/bits.deBruijn64tab", Rows.laid_math_bits_deBruijn64tab), ("internal/strconv.uint64pow10", Rows.laid_internal_strconv_uint64pow10), ("biscotti/date.months", Rows.laid_biscotti_date_months), ("biscotti/date.lengths", Rows.laid_biscotti_date_lengths)] W) : Lib.TabIs Tryz.prog W "math/bits.deBruijn64tab" .u8 vals1 :=
  Lib.tabIs_of_head gTab1 gTabType1 Tryz.underlying173 Tryz.underlying5 (by kernel_rfl) (by kernel_rfl) (laid_tail h)

def vals2 : List Int := [1, 10, 100, 1000, 10000, 100000, 1000000, 10000000, 100000000, 1000000000, 10000000000, 100000000000, 1000000000000, 10000000000000, 100000000000000, 1000000000000000, 10000000000000000, 100000000000000000, 1000000000000000000, 10000000000000000000]
theorem gTab2 : Tryz.prog.globalNamed "internal/strconv.uint64pow10" = some 3 := by kernel_rfl
theorem gTabType2 : (Tryz.prog.globals[3]?).map (·.type) = some 168 := by kernel_rfl
theorem tab2 {W : World} (h : laidMetH Tryz.prog [("math/bits.deBruijn32tab", Rows.laid_math_bits_deBruijn32tab), ("math/bits.deBruijn64tab", Rows.laid_math_bits_deBruijn64tab), ("internal/strconv.uint64pow10", Rows.laid_internal_strconv_uint64pow10), ("biscotti/date.months", Rows.laid_biscotti_date_months), ("biscotti/date.lengths", Rows.laid_biscotti_date_lengths)] W) : Lib.TabIs Tryz.prog W "internal/strconv.uint64pow10" .u64 vals2 :=
  Lib.tabIs_of_head gTab2 gTabType2 Tryz.underlying168 Tryz.underlying163 (by kernel_rfl) (by kernel_rfl) (laid_tail (laid_tail h))

def vals3 : List (List UInt8) := [[74, 97, 110], [70, 101, 98], [77, 97, 114], [65, 112, 114], [77, 97, 121], [74, 117, 110], [74, 117, 108], [65, 117, 103], [83, 101, 112], [79, 99, 116], [78, 111, 118], [68, 101, 99]]
theorem gTab3 : Tryz.prog.globalNamed "biscotti/date.months" = some 1 := by kernel_rfl
theorem gTabType3 : (Tryz.prog.globals[1]?).map (·.type) = some 154 := by kernel_rfl
theorem tab3 {W : World} (h : laidMetH Tryz.prog [("math/bits.deBruijn32tab", Rows.laid_math_bits_deBruijn32tab), ("math/bits.deBruijn64tab", Rows.laid_math_bits_deBruijn64tab), ("internal/strconv.uint64pow10", Rows.laid_internal_strconv_uint64pow10), ("biscotti/date.months", Rows.laid_biscotti_date_months), ("biscotti/date.lengths", Rows.laid_biscotti_date_lengths)] W) : TabStr Tryz.prog W "biscotti/date.months" vals3 :=
  tabStr_of_head gTab3 gTabType3 Tryz.underlying154 Tryz.underlying9 (by kernel_rfl) (by kernel_rfl) (laid_tail (laid_tail (laid_tail h)))

def vals4 : List Int := [31, 28, 31, 30, 31, 30, 31, 31, 30, 31, 30, 31]
theorem gTab4 : Tryz.prog.globalNamed "biscotti/date.lengths" = some 2 := by kernel_rfl
theorem gTabType4 : (Tryz.prog.globals[2]?).map (·.type) = some 155 := by kernel_rfl
theorem tab4 {W : World} (h : laidMetH Tryz.prog [("math/bits.deBruijn32tab", Rows.laid_math_bits_deBruijn32tab), ("math/bits.deBruijn64tab", Rows.laid_math_bits_deBruijn64tab), ("internal/strconv.uint64pow10", Rows.laid_internal_strconv_uint64pow10), ("biscotti/date.months", Rows.laid_biscotti_date_months), ("biscotti/date.lengths", Rows.laid_biscotti_date_lengths)] W) : Lib.TabIs Tryz.prog W "biscotti/date.lengths" .i64 vals4 :=
  Lib.tabIs_of_head gTab4 gTabType4 Tryz.underlying155 Tryz.underlying3 (by kernel_rfl) (by kernel_rfl) (laid_tail (laid_tail (laid_tail (laid_tail h))))

theorem most_of {W : World} (hS : W.ShapedOpen Tryz.prog) : ∀ g, Tryz.prog.globalNamed "internal/bytealg.MaxLen" = some g → ∃ m, W.cell? ⟨g, 0, none⟩ = some (.int .i64 m) := by
  intro g hg
  obtain rfl : 0 = g := Option.some.inj ((show Tryz.prog.globalNamed "internal/bytealg.MaxLen" = some 0 by kernel_rfl).symm.trans hg)
  exact cell_of_shapedOpen_int (zero := #[.int .i64 0]) (t := 3) hS (of_decide_eq_true (by kernel_rfl)) (by kernel_rfl) rfl (by kernel_rfl) (by kernel_rfl) Tryz.underlying3

theorem gives0_of {W : World} (hS : W.ShapedOpen Tryz.prog) (h : laidMetH Tryz.prog [("math/bits.deBruijn32tab", Rows.laid_math_bits_deBruijn32tab), ("math/bits.deBruijn64tab", Rows.laid_math_bits_deBruijn64tab), ("internal/strconv.uint64pow10", Rows.laid_internal_strconv_uint64pow10), ("biscotti/date.months", Rows.laid_biscotti_date_months), ("biscotti/date.lengths", Rows.laid_biscotti_date_lengths)] W) : PTab Tryz.prog W :=
  ⟨by
    have e : vals2 = Lib.pow10Tab := by decide +kernel
    rw [← e]
    exact tab2 h, most_of hS⟩

theorem gives1_of {W : World} (hS : W.ShapedOpen Tryz.prog) (h : laidMetH Tryz.prog [("math/bits.deBruijn32tab", Rows.laid_math_bits_deBruijn32tab), ("math/bits.deBruijn64tab", Rows.laid_math_bits_deBruijn64tab), ("internal/strconv.uint64pow10", Rows.laid_internal_strconv_uint64pow10), ("biscotti/date.months", Rows.laid_biscotti_date_months), ("biscotti/date.lengths", Rows.laid_biscotti_date_lengths)] W) : DTab W :=
  by
    refine ⟨fun i hi => ?_, fun i hi => ?_, fun g hg => absurd hg (by rw [show Tryz.prog.globalNamed "biscotti/date.weekdays" = none by kernel_rfl]; simp)⟩
    · exact (tab4 h).cell gTab4 i hi
    · exact (tab3 h).cell gTab3 i hi

theorem gives_of {W : World} (hS : W.ShapedOpen Tryz.prog) (h : laidMetH Tryz.prog [("math/bits.deBruijn32tab", Rows.laid_math_bits_deBruijn32tab), ("math/bits.deBruijn64tab", Rows.laid_math_bits_deBruijn64tab), ("internal/strconv.uint64pow10", Rows.laid_internal_strconv_uint64pow10), ("biscotti/date.months", Rows.laid_biscotti_date_months), ("biscotti/date.lengths", Rows.laid_biscotti_date_lengths)] W) : PTab Tryz.prog W ∧ DTab W :=
  ⟨gives0_of hS h, gives1_of hS h⟩

noncomputable def laidWorld (os : Os) : World :=
  { World.holding Tryz.prog os ⟨#[], #[], []⟩ with heap := ((((((World.holding Tryz.prog os ⟨#[], #[], []⟩).heap.modify 4 fun
      | .cells _ t frozen => .cells (vals0.map (Value.int .u8)).toArray t frozen
      | o => o).modify 5 fun
      | .cells _ t frozen => .cells (vals1.map (Value.int .u8)).toArray t frozen
      | o => o).modify 3 fun
      | .cells _ t frozen => .cells (vals2.map (Value.int .u64)).toArray t frozen
      | o => o).modify 1 fun
      | .cells _ t frozen => .cells (vals3.map (fun l => Value.string (str l))).toArray t frozen
      | o => o).modify 2 fun
      | .cells _ t frozen => .cells (vals4.map (Value.int .i64)).toArray t frozen
      | o => o) }
end Go.Proofs.YthefieemngmnjaaGreatDoor
