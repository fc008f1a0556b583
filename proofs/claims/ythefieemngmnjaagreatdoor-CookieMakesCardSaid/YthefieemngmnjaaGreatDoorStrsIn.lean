/- A slice of strings that came in: what a walk is told of it. No program in it. -/
import Derived.Test.YthefieemngmnjaaGreatDoorLibAC
import Derived.Test.YthefieemngmnjaaGreatDoorLibAA
import Derived.Deep.Strs
namespace Go.Proofs.YthefieemngmnjaaGreatDoor
open Go.ChangeShapes Go.WideShapes Go.ChangeAt Go.RowKit
set_option linter.unusedVariables false

/-- A slice that holds just these texts. -/
def IsStrs (w : World) (a : Option Addr) (len cap : Nat) (P : List (List UInt8)) : Prop :=
  P.length = len ∧ len ≤ cap ∧ cap ≤ maxLen ∧ (a = none → cap = 0) ∧ Reads w a (strs P) ∧ ∀ x ∈ P, x.length ≤ maxLen

theorem IsStrs.reads {w : World} {a : Option Addr} {len cap : Nat} {P : List (List UInt8)} (h : IsStrs w a len cap P) : Reads w a (strs P) := h.2.2.2.2.1

theorem IsStrs.below {w w' : World} {a : Option Addr} {len cap : Nat} {P : List (List UInt8)} (h : IsStrs w a len cap P) (hb : Below w.heap.size w w') : IsStrs w' a len cap P :=
  ⟨h.1, h.2.1, h.2.2.1, h.2.2.2.1, h.reads.below' hb, h.2.2.2.2.2⟩

theorem open_texts {H : Type} {enc : TypeId × Value → H} {P : Program} {w : World} {held : Bool} {r : Reach} {b0 : Nat} {t e : TypeId} {v : Value} {d : DataW H} {p : List MemPlace}
    (ht : P.underlying t = some (.slice e)) (he : P.underlying e = some .string) (ce : P.cellsOf e = 1)
    (hv : Value.okWide P w r b0 t v) (h : DataW.Trod enc P w 0 (fun _ => true) held t v d p) :
    ∃ a len cap L, v = .slice a len cap ∧ IsStrs w a len cap L := by
  obtain ⟨a, len, cap, rfl⟩ := okWide_slice ht hv
  refine ⟨a, len, cap, ?_⟩
  obtain ⟨fuel, hf⟩ := h
  rcases Go.Deep.open_strs ht he ce hf with ⟨hcs, _⟩ | ⟨x, l, c, m, S, hcs, _, hl, hm, hmm, _, hall⟩
  · simp [Value.cells] at hcs
    obtain ⟨rfl, rfl, rfl⟩ := hcs
    exact ⟨[], rfl, rfl, Nat.le_refl _, by unfold maxLen; omega, fun _ => rfl, Reads.nil _ _, fun x hx => by cases hx⟩
  · simp [Value.cells] at hcs
    obtain ⟨rfl, rfl, rfl⟩ := hcs
    have hml : len ≤ m := by rw [hmm]; simp; omega
    refine ⟨(List.range len).map fun i => (S i).data.toList, rfl, by simp, hl, hm, (fun h => by cases h), ?_, ?_⟩
    · intro i u hu
      have hil : i < len := by
        have := (List.getElem?_eq_some_iff.1 hu).1
        simpa [strs] using this
      obtain ⟨b, off, spot⟩ := x
      have hspot : spot = none := by simpa [Addr.add] using World.cell?_spot (hall 0 (by omega)).1
      subst hspot
      have h0 := (hall i (by omega)).1
      have hA : (⟨b, off, none⟩ : Addr).add i = ⟨b, off + i, none⟩ := by
        by_cases h0 : i = 0
        · subst h0; simp [Addr.add]
        · simp [Addr.add, h0]
      rw [hA] at h0
      simp [strs, hil] at hu
      subst hu
      refine ⟨b, off, rfl, ?_⟩
      rw [h0, ← str_of]
    · intro y hy
      rw [List.mem_map] at hy
      obtain ⟨i, hi, rfl⟩ := hy
      have := (hall i (by have := List.mem_range.1 hi; omega)).2
      exact this
end Go.Proofs.YthefieemngmnjaaGreatDoor
