/- Contracts of the reference of layer 21: an event that is refused. -/
import Derived.Test.YtelgaglnmcggkaaGreatDoorLibAV
import Derived.Test.YtelgaglnmcggkaaGreatDoorEventRef2
import Derived.Test.YtelgaglnmcggkaaGreatDoorCookieRef2
import Derived.Deep.DeepCutAuto
import Derived.Deep.RegionLaw
namespace Go.Proofs.YtelgaglnmcggkaaGreatDoor
open Go.RowKit
set_option linter.unusedVariables false

def applyR (m : MapR) (r : EvR) : MapR × Bool × Int :=
  if rightE r.e = false then (m, false, 1)
  else if hasV m.ctx r.e.dot = true then (m, false, 0)
  else if ¬ getV m.ctx r.e.dot.dev r.e.dot.inc + 1 = r.e.dot.seq then (m, false, 6)
  else if 2048 ≤ m.kept.length then (m, false, 9)
  else (⟨setV m.ctx r.e.dot, insR m.kept r, sortD (m.dead ++ r.e.over)⟩, true, 0)
theorem apply_map (m : MapR) (r : EvR) : (applyR m r).1.plain = (applyM m.plain r.e).1 ∧ (applyR m r).2 = (applyM m.plain r.e).2 := by
  unfold applyR applyM
  have h2 : m.plain.kept.length = m.kept.length := List.length_map ..
  have h3 : m.plain.dead = m.dead := rfl
  have h4 : m.plain.ctx = m.ctx := rfl
  rw [h2, h3, h4]
  split
  · exact ⟨rfl, rfl⟩
  split
  · exact ⟨rfl, rfl⟩
  split
  · exact ⟨rfl, rfl⟩
  split
  · exact ⟨rfl, rfl⟩
  refine ⟨?_, rfl⟩
  unfold MapR.plain
  dsimp only
  rw [ins_map]

end Go.Proofs.YtelgaglnmcggkaaGreatDoor
