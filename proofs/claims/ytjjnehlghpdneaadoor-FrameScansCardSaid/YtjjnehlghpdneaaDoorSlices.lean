/- A slice of slices of bytes that came in: what a walk is told of it. -/
import Derived.Test.YtjjnehlghpdneaaDoorOpen
import Derived.Deep.Matrix
namespace Go.Proofs.YtjjnehlghpdneaaDoor
open Go.ChangeShapes Go.WideShapes Go.ChangeAt Go.RowKit
set_option linter.unusedVariables false

/-- The rows of a slice of slices of integers: each is a slice, and reads as a list. -/
def IsRows (k : IntKind) (w : World) (a : Option Addr) (len cap : Nat) (R : Nat → List Int) : Prop :=
  len ≤ cap ∧ cap ≤ maxLen ∧ (a = none → cap = 0) ∧
  ∀ r, r < len → ∃ (b off : Nat) (A : Option Addr) (L C : Nat), a = some ⟨b, off, none⟩ ∧ w.cell? ⟨b, off + r, none⟩ = some (.slice A L C) ∧ (R r).length = L ∧ L ≤ C ∧ C ≤ maxLen ∧ (A = none → C = 0) ∧ Reads w A ((R r).map (Value.int k)) ∧ ∀ x ∈ R r, (Lit.int k x).wf = true

theorem open_rows {H : Type} {enc : TypeId × Value → H} {P : Program} {w : World} {held : Bool} {r : Reach} {b0 : Nat} {t e q : TypeId} {k : IntKind} {v : Value} {d : DataW H} {p : List MemPlace}
    (ht : P.underlying t = some (.slice e)) (he : P.underlying e = some (.slice q)) (hq : P.underlying q = some (.int k)) (ce : P.cellsOf e = 1) (cq : P.cellsOf q = 1)
    (hv : Value.okWide P w r b0 t v) (h : DataW.Trod enc P w 0 (fun _ => true) held t v d p) :
    ∃ a len cap R, v = .slice a len cap ∧ IsRows k w a len cap R := by
  obtain ⟨a, len, cap, rfl⟩ := okWide_slice ht hv
  refine ⟨a, len, cap, ?_⟩
  obtain ⟨fuel, hf⟩ := h
  rcases Go.Deep.open_int_rows ht he hq ce cq hf with ⟨hcs, _⟩ | ⟨x, l, c, A, L, C, Z, hcs, _, hl, hm, _, hall⟩
  · simp [Value.cells] at hcs
    obtain ⟨rfl, rfl, rfl⟩ := hcs
    exact ⟨fun _ => [], rfl, Nat.le_refl _, by unfold maxLen; omega, fun _ => rfl, fun r hr => by omega⟩
  · simp [Value.cells] at hcs
    obtain ⟨rfl, rfl, rfl⟩ := hcs
    refine ⟨fun r => (Z r).take (L r), rfl, hl, hm, (fun h => by cases h), fun r hr => ?_⟩
    obtain ⟨hc, h1, h2, h3, h4, h5, h6⟩ := hall r (by omega)
    obtain ⟨b, off, spot⟩ := x
    have hspot : spot = none := by
      obtain ⟨hc0, _⟩ := hall 0 (by omega)
      simpa [Addr.add] using World.cell?_spot hc0
    subst hspot
    have ea : (⟨b, off, none⟩ : Addr).add r = ⟨b, off + r, none⟩ := by
      by_cases h0 : r = 0
      · subst h0; simp [Addr.add]
      · simp [Addr.add, h0]
    rw [ea] at hc
    have hrow : IsRow k w (A r) (L r) (C r) (Z r) := by
      cases hA : A r with
      | none =>
        have hC := h5 hA
        refine .inl ⟨rfl, by omega, hC, ?_⟩
        exact List.length_eq_zero_iff.mp (by omega)
      | some a' => exact .inr ⟨a', rfl, h1, h2, h3, fun i hi => (h6 a' hA).2 i (by omega), h4⟩
    obtain ⟨g1, g2, g3, g4, g5⟩ := isRow_reads hrow
    exact ⟨b, off, A r, L r, C r, rfl, hc, g2, h1, h2, h5, g1, g5⟩

/-- The first so many rows, one behind the other. -/
def rowsTo (R : Nat → List Int) : Nat → List Int
  | 0 => []
  | k + 1 => rowsTo R k ++ R k
theorem rowsTo_succ (R : Nat → List Int) (k : Nat) : rowsTo R (k + 1) = rowsTo R k ++ R k := rfl
end Go.Proofs.YtjjnehlghpdneaaDoor
