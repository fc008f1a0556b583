/- What the list of a row of layer 3 gives: the table of four steps; and a world that holds it. -/
import Derived.Test.YtjjnehlghpdneaaDoorCards
import Derived.Test.YtjjnehlghpdneaaDoorTie
import Derived.Test.YtjjnehlghpdneaaDoorCrc
import Derived.Test.YtjjnehlghpdneaaDoorOpen
import Derived.WalkKit
import Derived.ProofKit
import Derived.OpenShut
import Derived.Deep.DeepHandedRow
import Derived.Lib.LaidTab
namespace Go.Proofs.YtjjnehlghpdneaaDoor
open Go.ChangeShapes Go.WideShapes Go.ChangeAt Go.RowKit

theorem gTab : Tryd.prog.globalNamed "biscotti/crc.fourSteps" = some 0 := by kernel_rfl
theorem gTabType : (Tryd.prog.globals[0]?).map (·.type) = some 64 := by kernel_rfl
theorem cellsTab : Tryd.prog.cellsOf 64 = 16 := by kernel_rfl
theorem cellsTabE : Tryd.prog.cellsOf 43 = 1 := by kernel_rfl

theorem gives_of {W : World} (h : laidMetH Tryd.prog [("biscotti/crc.fourSteps", Rows.laid_biscotti_crc_fourSteps)] W) : CTab W := by
  have hT : Lib.TabIs Tryd.prog W "biscotti/crc.fourSteps" .u32 [0, 498536548, 997073096, 651767980, 1994146192, 1802195444, 1303535960, 1342533948, 3988292384, 4027552580, 3604390888, 3412177804, 2607071920, 2262029012, 2685067896, 3183342108] :=
    Lib.tabIs_of_head (rest := []) gTab gTabType Tryd.underlying64 Tryd.underlying43 cellsTabE cellsTab h
  intro i hi
  rw [hT.cell gTab i hi]
  have : ∀ i, i < 16 → ([0, 498536548, 997073096, 651767980, 1994146192, 1802195444, 1303535960, 1342533948, 3988292384, 4027552580, 3604390888, 3412177804, 2607071920, 2262029012, 2685067896, 3183342108] : List Int).getD i 0 = ((cTab.getD i 0 : Nat) : Int) := by decide
  rw [this i hi]

noncomputable def laidWorld (os : Os) : World :=
  { World.holding Tryd.prog os ⟨#[], #[], []⟩ with heap := (World.holding Tryd.prog os ⟨#[], #[], []⟩).heap.modify 0 fun
      | .cells _ t frozen => .cells (([0, 498536548, 997073096, 651767980, 1994146192, 1802195444, 1303535960, 1342533948, 3988292384, 4027552580, 3604390888, 3412177804, 2607071920, 2262029012, 2685067896, 3183342108] : List Int).map (Value.int .u32)).toArray t frozen
      | o => o }
end Go.Proofs.YtjjnehlghpdneaaDoor
