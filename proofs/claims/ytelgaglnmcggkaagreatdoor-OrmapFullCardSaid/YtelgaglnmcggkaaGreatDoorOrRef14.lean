/- Contracts of the reference of layer 21: what stands against a map. -/
import Derived.Test.YtelgaglnmcggkaaGreatDoorLibAX
import Derived.Test.YtelgaglnmcggkaaGreatDoorLibAQ
namespace Go.Proofs.YtelgaglnmcggkaaGreatDoor
open Go.RowKit
set_option linter.unusedVariables false

def keptF (c : List DotN) : Option DotN → List EventN → Int
  | _, [] => 0
  | pr, e :: t => if rightE e = false then 1 else if (pr.map fun z => lessD z e.dot) = some false then 6 else if hasV c e.dot = false then 4 else keptF c (some e.dot) t
def deadF : Option DotN → List DotN → Int
  | _, [] => 0
  | pr, d :: t => if rightD d = false then 4 else if (pr.map fun z => lessD z d) = some false then 6 else deadF (some d) t
/-- What stands against a map: 0 where nothing does. -/
def loadM (m : MapN) : Int :=
  if checkV m.ctx ≠ 0 then checkV m.ctx
  else if 2048 < m.kept.length ∨ 65536 < m.dead.length then 3
  else if keptF m.ctx none m.kept ≠ 0 then keptF m.ctx none m.kept
  else deadF none m.dead
theorem keptF_drop {c : List DotN} {pr : Option DotN} {L : List EventN} {k : Nat} {e : EventN} (h : L[k]? = some e) : keptF c pr (L.drop k) = if rightE e = false then 1 else if (pr.map fun z => lessD z e.dot) = some false then 6 else if hasV c e.dot = false then 4 else keptF c (some e.dot) (L.drop (k + 1)) := by
  obtain ⟨hk, rfl⟩ := List.getElem?_eq_some_iff.1 h
  rw [List.drop_eq_getElem_cons hk]
  rfl
theorem deadF_drop {pr : Option DotN} {L : List DotN} {k : Nat} {d : DotN} (h : L[k]? = some d) : deadF pr (L.drop k) = if rightD d = false then 4 else if (pr.map fun z => lessD z d) = some false then 6 else deadF (some d) (L.drop (k + 1)) := by
  obtain ⟨hk, rfl⟩ := List.getElem?_eq_some_iff.1 h
  rw [List.drop_eq_getElem_cons hk]
  rfl
def prevE (L : List EventN) (k : Nat) : Option DotN := if k = 0 then none else L[k - 1]?.map (·.dot)

end Go.Proofs.YtelgaglnmcggkaaGreatDoor
