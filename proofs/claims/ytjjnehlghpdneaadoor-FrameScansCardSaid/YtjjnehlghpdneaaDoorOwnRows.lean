/- Slices of slices that the call makes itself, element by element. No program in it. -/
import Derived.Test.YtjjnehlghpdneaaDoorOwnAt
import Derived.Test.YtjjnehlghpdneaaDoorSlices
namespace Go.Proofs.YtjjnehlghpdneaaDoor
open Go.RowKit
set_option linter.unusedVariables false

theorem owned_none (w : World) (base : Nat) (e : TypeId) : Owned base e none 0 0 [] w := by
  have h : w.ownsRow base e 1 (.slice none 0 0) 0 [] := ⟨by simp, .inl ⟨rfl, rfl⟩⟩
  obtain ⟨a, c, e1, h1⟩ := owns_open h
  cases e1
  exact ⟨h, h1⟩

theorem Owned.lt {base : Nat} {e : TypeId} {a : Option Addr} {n c : Nat} {xs : List Value} {w : World} (h : Owned base e a n c xs w) (x : Addr) (hx : a = some x) : base ≤ x.block ∧ x.block < w.heap.size := by
  subst hx
  exact h.1.lt x.block rfl

/-- The elements of a slice are slices that read so, apart from it. -/
def RowsAt (k : IntKind) (a : Option Addr) (n : Nat) (P : List (List Int)) (xs : List Value) (w : World) : Prop :=
  ∀ i, i < n → ∃ (A : Option Addr) (L C : Nat), xs[i]? = some (.slice A L C) ∧ (P.getD i []).length = L ∧ L ≤ C ∧ C ≤ maxLen ∧ (A = none → C = 0) ∧ Reads w A ((P.getD i []).map (Value.int k)) ∧ (∀ x ∈ P.getD i [], (Lit.int k x).wf = true) ∧ ∀ x, A = some x → Apart a x.block ∧ x.block < w.heap.size

/-- A slice of the call's own, whose elements are slices that read so, apart from it. -/
def OwnsRows (base : Nat) (e : TypeId) (k : IntKind) (a : Option Addr) (n c : Nat) (P : List (List Int)) (w : World) : Prop :=
  ∃ xs : List Value, Owned base e a n c xs w ∧ P.length = n ∧ RowsAt k a n P xs w

theorem OwnsRows.nil (base : Nat) (e : TypeId) (k : IntKind) (w : World) : OwnsRows base e k none 0 0 [] w :=
  ⟨[], owned_none w base e, rfl, fun i h => absurd h (Nat.not_lt_zero _)⟩
theorem OwnsRows.lit (e : TypeId) (k : IntKind) (w : World) : OwnsRows w.heap.size e k (some ⟨w.heap.size, 0, none⟩) 0 0 [] (w.alloc (.cells #[] e)) :=
  ⟨[], owned_lit w e, rfl, fun i h => absurd h (Nat.not_lt_zero _)⟩

theorem RowsAt.below {k : IntKind} {a : Option Addr} {n : Nat} {P : List (List Int)} {xs : List Value} {w w' : World} (h : RowsAt k a n P xs w) (hb : Below w.heap.size w w') : RowsAt k a n P xs w' := fun i hi => by
  obtain ⟨A, L, C, h1, h2, h3, h4, h5, h6, h7, h8⟩ := h i hi
  exact ⟨A, L, C, h1, h2, h3, h4, h5, h6.below' hb, h7, fun x hx => ⟨(h8 x hx).1, Nat.lt_of_lt_of_le (h8 x hx).2 hb.size⟩⟩
theorem OwnsRows.below {base : Nat} {e : TypeId} {k : IntKind} {a : Option Addr} {n c : Nat} {P : List (List Int)} {w w' : World} (h : OwnsRows base e k a n c P w) (hb : Below w.heap.size w w') : OwnsRows base e k a n c P w' := by
  obtain ⟨xs, h1, h2, h3⟩ := h
  exact ⟨xs, h1.below hb (Nat.le_refl _), h2, h3.below hb⟩
theorem OwnsRows.base {base base' : Nat} {e : TypeId} {k : IntKind} {a : Option Addr} {n c : Nat} {P : List (List Int)} {w : World} (h : OwnsRows base e k a n c P w) (hb : base' ≤ base) : OwnsRows base' e k a n c P w := by
  obtain ⟨xs, h1, h2, h3⟩ := h
  exact ⟨xs, h1.base hb, h2, h3⟩

theorem RowsAt.snoc {k : IntKind} {a a' : Option Addr} {n : Nat} {P : List (List Int)} {xs : List Value} {w w' : World} (h : RowsAt k a n P xs w) (hP : P.length = n) (hx : xs.length = n) (hg : GrownBut w w' a) (ha : a' = a ∨ ∃ g, a' = some ⟨g, 0, none⟩ ∧ w.heap.size ≤ g)
    {A : Option Addr} {L C : Nat} {y : List Int} (hy : y.length = L) (hC : L ≤ C) (hm : C ≤ maxLen) (hA : A = none → C = 0) (hr : Reads w A (y.map (Value.int k))) (hw : ∀ x ∈ y, (Lit.int k x).wf = true) (hap : ∀ x, A = some x → Apart a x.block ∧ x.block < w.heap.size) :
    RowsAt k a' (n + 1) (P ++ [y]) (xs ++ [.slice A L C]) w' := by
  have hkeep : ∀ (B : Option Addr) (zs : List Value), Reads w B zs → (∀ x, B = some x → Apart a x.block ∧ x.block < w.heap.size) → Reads w' B zs ∧ ∀ x, B = some x → Apart a' x.block ∧ x.block < w'.heap.size := fun B zs hr hap => by
    refine ⟨fun i v hv => ?_, fun x hx => ⟨?_, Nat.lt_of_lt_of_le (hap x hx).2 hg.1⟩⟩
    · obtain ⟨b, off, e, hc⟩ := hr i v hv
      exact ⟨b, off, e, hg.cell hc (hap _ e).1⟩
    · rcases ha with e | ⟨g, e, hg2⟩
      · rw [e]; exact (hap x hx).1
      · rw [e]
        intro z hz
        cases hz
        have := (hap x hx).2
        show g ≠ x.block
        omega
  intro i hi
  by_cases c : i < n
  · obtain ⟨B, L', C', h1, h2, h3, h4, h5, h6, h7, h8⟩ := h i c
    have hp : (P ++ [y]).getD i [] = P.getD i [] := by rw [List.getD_eq_getElem?_getD, List.getD_eq_getElem?_getD, List.getElem?_append_left (by omega)]
    rw [hp]
    obtain ⟨k1, k2⟩ := hkeep B _ h6 h8
    exact ⟨B, L', C', by rw [List.getElem?_append_left (by omega)]; exact h1, h2, h3, h4, h5, k1, h7, k2⟩
  · have hi' : i = n := by omega
    subst hi'
    have hp : (P ++ [y]).getD i [] = y := by rw [List.getD_eq_getElem?_getD, List.getElem?_append_right (by omega), hP, Nat.sub_self]; rfl
    rw [hp]
    obtain ⟨k1, k2⟩ := hkeep A _ hr hap
    exact ⟨A, L, C, by rw [List.getElem?_append_right (by omega), hx, Nat.sub_self]; rfl, hy, hC, hm, hA, k1, hw, k2⟩

theorem OwnsRows.isRows {base : Nat} {e : TypeId} {k : IntKind} {a : Option Addr} {n c : Nat} {P : List (List Int)} {w : World} (h : OwnsRows base e k a n c P w) : IsRows k w a n c (fun i => P.getD i []) := by
  obtain ⟨xs, h1, h2, h3⟩ := h
  refine ⟨h1.2.2.2.1, h1.2.2.2.2.1, h1.nil0, fun i hi => ?_⟩
  obtain ⟨A, L, C, g1, g2, g3, g4, g5, g6, g7, g8⟩ := h3 i hi
  obtain ⟨b, off, e, hc⟩ := h1.reads i _ g1
  exact ⟨b, off, A, L, C, e, hc, g2, g3, g4, g5, g6, g7⟩

theorem IsRows.congr {k : IntKind} {w : World} {a : Option Addr} {n c : Nat} {R S : Nat → List Int} (h : IsRows k w a n c R) (e : ∀ i, i < n → R i = S i) : IsRows k w a n c S := by
  refine ⟨h.1, h.2.1, h.2.2.1, fun i hi => ?_⟩
  rw [← e i hi]
  exact h.2.2.2 i hi
theorem IsRows.head {k : IntKind} {w : World} {a : Option Addr} {n c : Nat} {R : Nat → List Int} (h : IsRows k w a n c R) (m : Nat) (hm : m ≤ n) : IsRows k w a m c R :=
  ⟨Nat.le_trans hm h.1, h.2.1, h.2.2.1, fun i hi => h.2.2.2 i (Nat.lt_of_lt_of_le hi hm)⟩
theorem IsRows.below {k : IntKind} {w w' : World} {a : Option Addr} {n c : Nat} {R : Nat → List Int} (h : IsRows k w a n c R) (hb : Below w.heap.size w w') : IsRows k w' a n c R := by
  refine ⟨h.1, h.2.1, h.2.2.1, fun i hi => ?_⟩
  obtain ⟨b, off, A, L, C, e, hc, h1, h2, h3, h4, h5, h6⟩ := h.2.2.2 i hi
  exact ⟨b, off, A, L, C, e, (hb.cell (cell_lt hc)).trans hc, h1, h2, h3, h4, h5.below' hb, h6⟩
theorem IsRows.drewN {k : IntKind} {w : World} {a : Option Addr} {n c : Nat} {R : Nat → List Int} (h : IsRows k w a n c R) (d : Nat) : IsRows k (w.drewN d) a n c R :=
  h.below (below_drewN (Below.refl _ _) d)
end Go.Proofs.YtjjnehlghpdneaaDoor
