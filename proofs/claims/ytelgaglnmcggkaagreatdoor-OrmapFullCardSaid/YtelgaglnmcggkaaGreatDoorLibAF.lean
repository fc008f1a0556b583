/- Contracts and plain words that the laws' proofs stand on, put together. -/
import Derived.Test.YtelgaglnmcggkaaGreatDoorLibAC
import Derived.Lib.ItoaLen
import Derived.Lib.AppendIntMem
import Derived.Test.YtelgaglnmcggkaaGreatDoorLibAD
import Derived.Test.YtelgaglnmcggkaaGreatDoorLibAE
import Derived.Test.YtelgaglnmcggkaaGreatDoorLibAA
/- Blanks at the ends of a text: what is left without them. No program in it. -/
namespace Go.Proofs.YtelgaglnmcggkaaGreatDoor
set_option linter.unusedVariables false

end Go.Proofs.YtelgaglnmcggkaaGreatDoor

/- Decimal digits of a number: plain, with no program in it. -/
namespace Go.Proofs.YtelgaglnmcggkaaGreatDoor
open Go.RowKit
set_option linter.unusedVariables false

/-- What the library's functions read of its variables: the table that numerals are written by; the number that a search asks for. -/
structure PTab (P : Program) (w : World) : Prop where
  tab : Lib.TabIs P w "internal/strconv.uint64pow10" .u64 Lib.pow10Tab
  most : ∀ g, P.globalNamed "internal/bytealg.MaxLen" = some g → ∃ m, w.cell? ⟨g, 0, none⟩ = some (.int .i64 m)
theorem PTab.below {P : Program} {w w' : World} (h : PTab P w) (hb : Below w.heap.size w w') : PTab P w' := by
  refine ⟨?_, fun g hg => ?_⟩
  · have h := h.tab
    unfold Lib.TabIs at h ⊢
    unfold World.var? at h ⊢
    cases hg : P.globalNamed "internal/strconv.uint64pow10" with
    | none => rw [hg] at h; cases h
    | some g =>
      rw [hg] at h
      simp only [Option.bind_some] at h ⊢
      have hlt : g < w.heap.size := by
        rcases Nat.lt_or_ge g w.heap.size with h1 | h1
        · exact h1
        · rw [Array.getElem?_eq_none h1] at h; cases h
      rw [hb.block g hlt]
      exact h
  · obtain ⟨m, hm⟩ := h.most g hg
    have hlt : g < w.heap.size := by
      rcases Nat.lt_or_ge g w.heap.size with h1 | h1
      · exact h1
      · unfold World.cell? at hm
        rw [Array.getElem?_eq_none h1] at hm; cases hm
    exact ⟨m, (hb.cell hlt).trans hm⟩

end Go.Proofs.YtelgaglnmcggkaaGreatDoor

/- Readers of bytes in plain words: what is left, and the first error. No program in it. -/
namespace Go.Proofs.YtelgaglnmcggkaaGreatDoor
set_option linter.unusedVariables false

end Go.Proofs.YtelgaglnmcggkaaGreatDoor

/- A reader whose bytes lie in blocks that are known: it stays in front of the same bytes when a cell of another block is written (a result's cell, say). -/
namespace Go.Proofs.YtelgaglnmcggkaaGreatDoor
open Go.RowKit
set_option linter.unusedVariables false

/-- A reader at block p, without an error, in front of the bytes l, which lie in the blocks F (if there are any). -/
def RdIn (F : Nat → Prop) (p : Nat) (l : List Int) (w : World) : Prop :=
  ∃ a n c, p < w.heap.size ∧ w.cell? ⟨p, 0, none⟩ = some (.slice a n c) ∧ w.cell? ⟨p, 1, none⟩ = some (.int .i64 0) ∧ w.frozen? ⟨p, 0, none⟩ = false ∧ Reads w a (l.map (Value.int .u8)) ∧ l.length = n ∧ n ≤ c ∧ c ≤ maxLen ∧ (a = none → c = 0) ∧ Apart a p ∧ (l ≠ [] → ∀ k, At a k → F k)
theorem RdIn.rd {F : Nat → Prop} {p : Nat} {l : List Int} {w : World} (h : RdIn F p l w) : Rd p l w := by
  obtain ⟨a, n, c, h1, h2, h3, h4, h5, h6, h7, h8, h9, h10, -⟩ := h
  exact ⟨a, n, c, h1, h2, h3, h4, h5, h6, h7, h8, h9, h10⟩
theorem RdIn.lt {F : Nat → Prop} {p : Nat} {l : List Int} {w : World} (h : RdIn F p l w) : p < w.heap.size := h.rd.lt
theorem Rd.inside {p : Nat} {l : List Int} {w : World} (h : Rd p l w) : RdIn (fun k => k < w.heap.size) p l w := by
  obtain ⟨a, n, c, h1, h2, h3, h4, h5, h6, h7, h8, h9, h10⟩ := h
  refine ⟨a, n, c, h1, h2, h3, h4, h5, h6, h7, h8, h9, h10, fun hne k hk => ?_⟩
  obtain ⟨x, t, rfl⟩ := List.exists_cons_of_ne_nil hne
  obtain ⟨b, off, rfl, hc⟩ := h5 0 (.int .u8 x) rfl
  obtain rfl := at_some.1 hk
  exact cell_lt hc
theorem RdIn.below {F : Nat → Prop} {p : Nat} {l : List Int} {w w' : World} (h : RdIn F p l w) (hb : Below w.heap.size w w') : RdIn F p l w' := by
  obtain ⟨a, n, c, h1, h2, h3, h4, h5, h6⟩ := h
  exact ⟨a, n, c, Nat.lt_of_lt_of_le h1 hb.size, (hb.cell (p := ⟨p, 0, none⟩) h1).trans h2, (hb.cell (p := ⟨p, 1, none⟩) h1).trans h3, (hb.frozen (p := ⟨p, 0, none⟩) h1).trans h4, h5.below' hb, h6⟩
theorem RdIn.drewN {F : Nat → Prop} {p : Nat} {l : List Int} {w : World} (h : RdIn F p l w) (d : Nat) : RdIn F p l (w.drewN d) := by
  obtain ⟨a, n, c, h1, h2, h3, h4, h5, h6⟩ := h
  exact ⟨a, n, c, by simpa using h1, by simpa using h2, by simpa using h3, by simpa using h4, h5.drewN d, h6⟩
theorem RdIn.mono {F G : Nat → Prop} {p : Nat} {l : List Int} {w : World} (h : RdIn F p l w) (hs : ∀ k, F k → G k) : RdIn G p l w := by
  obtain ⟨a, n, c, h1, h2, h3, h4, h5, h6, h7, h8, h9, h10, h11⟩ := h
  exact ⟨a, n, c, h1, h2, h3, h4, h5, h6, h7, h8, h9, h10, fun e k hk => hs k (h11 e k hk)⟩
theorem RdIn.step {F : Nat → Prop} {p : Nat} {l r : List Int} {w : World} {a : Option Addr} {n c : Nat} (h : RdIn F p l w) (hr : Reads w a (r.map (Value.int .u8))) (hn : r.length = n) (hc : n ≤ c) (hm : c ≤ maxLen) (h0 : a = none → c = 0) (ha : Apart a p) (hF : r ≠ [] → ∀ k, At a k → F k) :
    RdIn F p r (w.setCell ⟨p, 0, none⟩ (.slice a n c)) := by
  obtain ⟨a', n', c', h1, h2, h3, h4, -⟩ := h
  refine ⟨a, n, c, by simpa using h1, World.cell?_setCell_same w ⟨p, 0, none⟩ _ h2, ?_, by rw [World.frozen?_setCell]; exact h4, ?_, hn, hc, hm, h0, ha, hF⟩
  · rw [World.cell?_setCell_other _ _ _ _ (by intro h; cases h)]; exact h3
  · intro i v hv
    obtain ⟨b, off, hb, hcell⟩ := hr i v hv
    refine ⟨b, off, hb, ?_⟩
    have hne : b ≠ p := ha _ hb
    rw [World.cell?_setCell_other _ _ _ _ (fun h => hne (congrArg Addr.block h).symm)]
    exact hcell
/-- A cell of another block is written. -/
theorem RdIn.other {F : Nat → Prop} {p : Nat} {l : List Int} {w : World} (h : RdIn F p l w) {x : Addr} (hp : x.block ≠ p) (hF : ¬ F x.block) (v : Value) : RdIn F p l (w.setCell x v) := by
  obtain ⟨a, n, c, h1, h2, h3, h4, h5, h6, h7, h8, h9, h10, h11⟩ := h
  refine ⟨a, n, c, by simpa using h1, ?_, ?_, by rw [World.frozen?_setCell]; exact h4, ?_, h6, h7, h8, h9, h10, h11⟩
  · rw [World.cell?_setCell_other _ _ _ _ (fun h => hp (congrArg Addr.block h))]; exact h2
  · rw [World.cell?_setCell_other _ _ _ _ (fun h => hp (congrArg Addr.block h))]; exact h3
  · intro i u hu
    have hne : l ≠ [] := fun e => by subst e; simp at hu
    obtain ⟨b, off, hb, hcell⟩ := h5 i u hu
    refine ⟨b, off, hb, ?_⟩
    have hx : x.block ≠ b := fun e => hF (e ▸ h11 hne b ⟨_, hb, rfl⟩)
    rw [World.cell?_setCell_other _ _ _ _ (fun h => hx (congrArg Addr.block h))]
    exact hcell

/-- A method of the reader answers v, and what is left is l. -/
def RdInGives (F : Nat → Prop) (p : Nat) (v : Value) (l : List Int) (w : World) (en : Ending) (w' : World) : Prop := en = .returned v ∧ RdIn F p l w' ∧ Kept p none w w'
theorem RdInGives.early {F : Nat → Prop} {p : Nat} {v : Value} {l : List Int} {w w1 w2 : World} {en : Ending} (h : RdInGives F p v l w1 en w2) (hb : Below w.heap.size w w1) : RdInGives F p v l w en w2 :=
  ⟨h.1, h.2.1, (Kept.of hb).trans (Near.refl _ _) h.2.2⟩
theorem RdInGives.rd {F : Nat → Prop} {p : Nat} {v : Value} {l : List Int} {w w2 : World} {en : Ending} (h : RdInGives F p v l w en w2) : RdGives p v l w en w2 := ⟨h.1, h.2.1.rd, h.2.2⟩

end Go.Proofs.YtelgaglnmcggkaaGreatDoor
