/- Contracts and plain words that the laws' proofs stand on, put together. -/
import Derived.Test.YtelgaglnmcggkaaGreatDoorLibAO
import Derived.Test.YtelgaglnmcggkaaGreatDoorLibAH
import Derived.Test.YtelgaglnmcggkaaGreatDoorLibAI
import Derived.Test.YtelgaglnmcggkaaGreatDoorLibAE
import Derived.Test.YtelgaglnmcggkaaGreatDoorLibAA
import Derived.Test.YtelgaglnmcggkaaGreatDoorLibAJ
/- Events in plain words. No program in it. -/
namespace Go.Proofs.YtelgaglnmcggkaaGreatDoor
set_option linter.unusedVariables false

structure EventN where
  dot : DotN
  stamp : StampN
  kind : Int
  item : ItemL
  over : List DotN

/-- Are the values of two cookies the same, their keys aside? -/
def likeC (x y : ItemL) : Bool := x.val == y.val && (x.host == y.host && (x.sec == y.sec && (x.http == y.http && (x.pers == y.pers && (x.exp == y.exp && (x.made == y.made && (x.used == y.used)))))))
theorem sameKC_iff {x y : ItemL} : (sameKey x y && likeC x y) = true ↔ x = y := by
  unfold sameKey likeC
  simp only [Bool.and_eq_true, beq_iff_eq]
  constructor
  · rintro ⟨⟨h1, h2, h3⟩, h4, h5, h6, h7, h8, h9, h10, h11⟩
    cases x; cases y
    simp only at h1 h2 h3 h4 h5 h6 h7 h8 h9 h10 h11
    subst h1 h2 h3 h4 h5 h6 h7 h8 h9 h10 h11
    rfl
  · rintro rfl
    exact ⟨⟨rfl, rfl, rfl⟩, rfl, rfl, rfl, rfl, rfl, rfl, rfl, rfl⟩
def sameE (a b : EventN) : Bool := sameD a.dot b.dot && (sameT a.stamp b.stamp && (a.kind == b.kind && (sameKey a.item b.item && (likeC a.item b.item && sameDs a.over b.over))))
theorem sameE_iff {a b : EventN} : sameE a b = true ↔ a = b := by
  unfold sameE
  simp only [Bool.and_eq_true]
  constructor
  · rintro ⟨h1, h2, h3, h4, h5, h6⟩
    have e1 := sameD_iff.1 h1
    have e2 := sameT_iff.1 h2
    have e3 := sameKC_iff.1 (by rw [h4, h5]; rfl)
    have e4 := sameDs_iff.1 h6
    have e5 : a.kind = b.kind := by simpa using h3
    cases a; cases b
    simp only at e1 e2 e3 e4 e5
    subst e1 e2 e3 e4 e5
    rfl
  · rintro rfl
    have h := sameKC_iff.2 (rfl : a.item = a.item)
    rw [Bool.and_eq_true] at h
    exact ⟨sameD_iff.2 rfl, sameT_iff.2 rfl, by simp, h.1, h.2, sameDs_iff.2 rfl⟩

/-- Are an event's texts and lists short enough to be gone over? -/
def lightE (e : EventN) : Bool := decide (e.over.length ≤ 100) && (decide (e.item.name.length ≤ 2000) && (decide (e.item.dom.length ≤ 2000) && (decide (e.item.path.length ≤ 2000) && decide (e.item.val.length ≤ 2000))))

/-- May the k-th dot stand among those that an event is over? -/
def okO (L : List DotN) (d : DotN) (k : Nat) : Bool :=
  rightD (L.getD k ⟨0, 0, 0⟩) && ((k == 0 || lessD (L.getD (k - 1) ⟨0, 0, 0⟩) (L.getD k ⟨0, 0, 0⟩)) && !(((L.getD k ⟨0, 0, 0⟩).dev == d.dev && (L.getD k ⟨0, 0, 0⟩).inc == d.inc) && decide (d.seq ≤ (L.getD k ⟨0, 0, 0⟩).seq)))
def headE (e : EventN) : Bool := rightD e.dot && (rightT e.stamp && (e.stamp.dev == e.dot.dev && decide (e.over.length ≤ 64)))
def kindE (e : EventN) : Bool := if e.kind = 1 then rightX e.item else e.kind == 2 && (sameKey e.item ItemL.none && likeC e.item ItemL.none) && decide (0 < e.over.length)
def rightE (e : EventN) : Bool := headE e && ((List.range e.over.length).all (okO e.over e.dot) && kindE e)
/-- The bytes of an event that may be. -/
def itemBytes (x : ItemL) : List Int := short x.name.length ++ strBytes (str x.name) ++ (short x.dom.length ++ strBytes (str x.dom)) ++ (short x.path.length ++ strBytes (str x.path)) ++ (short x.val.length ++ strBytes (str x.val)) ++ short (foldI x.exp).toNat ++ short x.made.toNat ++ short x.used.toNat
def bytesE (e : EventN) : List Int := bytesD e.dot ++ bytesT e.stamp ++ [(flagSum [e.kind == 1, e.item.host, e.item.sec, e.item.http, e.item.pers] : Int)] ++ short e.over.length ++ e.over.flatMap bytesD ++ (if e.kind = 1 then itemBytes e.item else [])
end Go.Proofs.YtelgaglnmcggkaaGreatDoor

/- How events as arguments are opened. -/
namespace Go.Proofs.YtelgaglnmcggkaaGreatDoor
open Go.ChangeShapes Go.WideShapes Go.ChangeAt Go.RowKit
set_option linter.unusedVariables false

end Go.Proofs.YtelgaglnmcggkaaGreatDoor
