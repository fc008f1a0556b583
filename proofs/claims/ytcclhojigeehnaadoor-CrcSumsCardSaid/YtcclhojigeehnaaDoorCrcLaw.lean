/- The walks of layer 3's laws: sums, changes, zeros, places behind. -/
import Derived.Test.YtcclhojigeehnaaDoorCrc
import Derived.Test.YtcclhojigeehnaaDoorOpen
namespace Go.Proofs.YtcclhojigeehnaaDoor
open Go.RowKit
set_option linter.unusedVariables false

theorem crcSums_long (a0 : Option Addr) (n0 c0 : Nat) (w : World) (hT : CTab w) (h : 1000 < n0) :
    Calls Tryd.prog 3 #[.slice a0 n0 c0] w fun e w' => e = .returned (.bool true) ∧ Below w.heap.size w w' := by
  have HT := Lib.hid hT
  clear hT
  go_enter Tryd.func3, Tryd.ntmps3
  go_wp2_with (go_at_call 8; (with_reducible refine (awake03C _ HT.out).mono ?_); rintro e w' ⟨rfl, hb⟩)
  go_ret
  exact ⟨rfl, hb⟩

theorem crcSums_short (l : List Int) (a0 : Option Addr) (n0 c0 : Nat) (w : World) (hT : CTab w) (h : n0 ≤ 1000) (hl : l.length = n0) (ha : Reads w a0 (l.map (Value.int .u8))) (hb : IsBytes l) :
    Calls Tryd.prog 3 #[.slice a0 n0 c0] w fun e w' => e = .returned (.bool true) ∧ Below w.heap.size w w' := by
  have H1 := fun w ha hT => sumC l n0 a0 c0 w hl ha hb (by unfold maxLen; omega) hT
  have H2 := fun w ha => refSumC l n0 a0 c0 w hl ha hb (by unfold maxLen; omega)
  unfold SumIs at H1
  generalize cSum l = s at H1 H2
  have HT := Lib.hid hT
  clear hT hl hb
  go_enter Tryd.func3, Tryd.ntmps3
  go_wp2_with (first
    | (go_at_call 9; (with_reducible refine (H1 _ ha HT.out).mono ?_); rintro e w1 ⟨rfl, hb1⟩)
    | (go_at_call 10; (with_reducible refine (H2 _ (ha.below' hb1)).mono ?_); rintro e w' ⟨rfl, rfl⟩)
    | (go_at_call 8; (with_reducible refine (awake03C _ (HT.out.below hb1)).mono ?_); rintro e w2 ⟨rfl, hb2⟩))
  go_ret
  exact ⟨rfl, hb1.trans (hb2.mono hb1.size)⟩

theorem crcSums_walk (a0 : Option Addr) (n0 c0 : Nat) (z0 : List Int) (w : World) (w0 : IsRow .u8 w a0 n0 c0 z0) (hT : CTab w) :
    Calls Tryd.prog 3 #[.slice a0 n0 c0] w fun e w' => e = .returned (.bool true) ∧ Below w.heap.size w w' := by
  by_cases c : 1000 < n0
  · exact crcSums_long a0 n0 c0 w hT c
  · obtain ⟨h1, h2, _⟩ := isRow_reads w0
    exact crcSums_short _ a0 n0 c0 w hT (by omega) h2 h1 (isRow_bytes w0)
end Go.Proofs.YtcclhojigeehnaaDoor
