/- Parts of rows of elements of several cells; a row beside one that grows. No program in it. -/
import Derived.Test.YtfdiomghoheljaaRow
namespace Go.Proofs.Ytfdiomghoheljaa
open Go.RowKit
set_option linter.unusedVariables false

theorem take_snocI {α : Type} {L : List α} {k : Nat} {x : α} (h : L[k]? = some x) : L.take (k + 1) = L.take k ++ [x] := by
  obtain ⟨h1, e1⟩ := List.getElem?_eq_some_iff.1 h
  rw [List.take_succ_eq_append_getElem h1, e1]

/-- The first elements of a row, the others, and a row beside one that grows. -/
theorem row_front {α : Type} {enc : α → List Value} {z : Nat} {w : World} {a : Option Addr} {len cap : Nat} {P : List α} (h : RowOf enc z w a len cap P) (k : Nat) (hk : k ≤ len) : RowOf enc z w a k cap (P.take k) := by
  refine ⟨by rw [List.length_take, h.leq]; omega, Nat.le_trans hk h.cle, h.capm, h.nil0, fun i x hx => ?_⟩
  rw [List.getElem?_take] at hx
  split at hx
  · exact h.at_ i x hx
  · cases hx
theorem row_back {α : Type} {enc : α → List Value} {z : Nat} {w : World} {g off : Nat} {len cap : Nat} {P : List α} (h : RowOf enc z w (some ⟨g, off, none⟩) len cap P) (k : Nat) (hk : k ≤ len) (o : Nat) (ho : k < len → o = off + k * z) : RowOf enc z w (some ⟨g, o, none⟩) (len - k) (cap - k) (P.drop k) := by
  have h1 := h.cle
  have h2 := h.capm
  have h3 := h.leq
  refine ⟨by rw [List.length_drop, h3], by omega, by omega, (fun c => by cases c), fun i x hx => ?_⟩
  have hlt : k + i < P.length := by
    have := (List.getElem?_eq_some_iff.1 hx).1
    rw [List.length_drop] at this
    omega
  rw [List.getElem?_drop] at hx
  obtain ⟨g', off', e, hc⟩ := h.at_ (k + i) x hx
  cases e
  refine ⟨g, o, rfl, fun j v hv => ?_⟩
  have := hc j v hv
  rw [ho (by omega)]
  rw [Nat.add_mul] at this
  have e2 : off + k * z + i * z + j = off + (k * z + i * z) + j := by omega
  rw [e2]
  exact this
theorem row_grown {α : Type} {enc : α → List Value} {z : Nat} {w w' : World} {a b : Option Addr} {len cap : Nat} {P : List α} (h : RowOf enc z w a len cap P) (hg : GrownBut w w' b) (ha : ∀ x, a = some x → Apart b x.block) : RowOf enc z w' a len cap P :=
  ⟨h.leq, h.cle, h.capm, h.nil0, fun i x hx => by
    obtain ⟨g, off, e, hc⟩ := h.at_ i x hx
    exact ⟨g, off, e, fun j v hv => hg.cell (hc j v hv) (ha ⟨g, off, none⟩ e)⟩⟩

/-- A walk from one world is a walk from any world of which the same is known. -/
theorem wp_some {P : Program} {c : Code} {Q : Exit → Act → World → Prop} {a : Act} {w : World} (S : World → Prop) (h : S w) (H : ∀ w', S w' → Code.wp P c Q a w') : Code.wp P c Q a w := H w h
end Go.Proofs.Ytfdiomghoheljaa
