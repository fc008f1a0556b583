/- Contracts of layer 6: texts. -/
import Derived.Test.YtgibhpljlebcdaaDoorAscii
import Derived.Below
import Derived.Test.YtgibhpljlebcdaaDoorOwn
namespace Go.Proofs.YtgibhpljlebcdaaDoor
open Go.RowKit
set_option linter.unusedVariables false

/-- A text is answered; what was there is as it was. -/
def GivesStr (l : List UInt8) (w : World) (e : Ending) (w' : World) : Prop := e = .returned (.string (str l)) ∧ Below w.heap.size w w'

theorem digitsC (l : List UInt8) (n : Nat) (w : World) (hl : l.length = n) (hm : n ≤ maxLen) :
    Calls Tryd.prog 65 #[.string (str l)] w fun e w' => e = .returned (.int .i64 (l.findIdx (fun x => !digit x) : Int)) ∧ w = w' := by
  have HF := fun w => firstDigitC (fun x => !digit x) l n w (fun x => digitFnC x w) hl hm
  generalize l.findIdx (fun x => !digit x) = f at *
  clear hl
  go_enter Tryd.func65, Tryd.ntmps65
  go_wp2_with (go_at_call 67; (with_reducible refine (HF _).mono ?_); rintro e w2 ⟨rfl, rfl⟩)
  go_ret
  exact ⟨rfl, rfl⟩

/-- What is ahead of the first byte c, what is behind it, and whether there is one. -/
def cutL (l : List UInt8) (c : UInt8) : List UInt8 × List UInt8 × Bool :=
  if l.findIdx (· == c) = l.length then (l, [], false) else (l.take (l.findIdx (· == c)), l.drop (l.findIdx (· == c) + 1), true)

end Go.Proofs.YtgibhpljlebcdaaDoor
