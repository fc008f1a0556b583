/- A reader whose bytes lie in blocks that are known: it stays in front of the same bytes when a cell of another block is written (a result's cell, say). -/
import Derived.Test.YtfdiomghoheljaaPackRead
import Derived.Test.YtfdiomghoheljaaKeeps
namespace Go.Proofs.Ytfdiomghoheljaa
open Go.RowKit
set_option linter.unusedVariables false

/-- A reader at block p, without an error, in front of the bytes l, which lie in the blocks F (if there are any). -/
def RdIn (F : Nat → Prop) (p : Nat) (l : List Int) (w : World) : Prop :=
  ∃ a n c, p < w.heap.size ∧ w.cell? ⟨p, 0, none⟩ = some (.slice a n c) ∧ w.cell? ⟨p, 1, none⟩ = some (.int .i64 0) ∧ w.frozen? ⟨p, 0, none⟩ = false ∧ Reads w a (l.map (Value.int .u8)) ∧ l.length = n ∧ n ≤ c ∧ c ≤ maxLen ∧ (a = none → c = 0) ∧ Apart a p ∧ (l ≠ [] → ∀ k, At a k → F k)
theorem RdIn.rd {F : Nat → Prop} {p : Nat} {l : List Int} {w : World} (h : RdIn F p l w) : Rd p l w := by
  obtain ⟨a, n, c, h1, h2, h3, h4, h5, h6, h7, h8, h9, h10, -⟩ := h
  exact ⟨a, n, c, h1, h2, h3, h4, h5, h6, h7, h8, h9, h10⟩
theorem RdIn.lt {F : Nat → Prop} {p : Nat} {l : List Int} {w : World} (h : RdIn F p l w) : p < w.heap.size := h.rd.lt
theorem Rd.inside {p : Nat} {l : List Int} {w : World} (h : Rd p l w) : RdIn (fun k => k < w.heap.size) p l w := by
  obtain ⟨a, n, c, h1, h2, h3, h4, h5, h6, h7, h8, h9, h10⟩ := h
  refine ⟨a, n, c, h1, h2, h3, h4, h5, h6, h7, h8, h9, h10, fun hne k hk => ?_⟩
  obtain ⟨x, t, rfl⟩ := List.exists_cons_of_ne_nil hne
  obtain ⟨b, off, rfl, hc⟩ := h5 0 (.int .u8 x) rfl
  obtain rfl := at_some.1 hk
  exact cell_lt hc
theorem RdIn.below {F : Nat → Prop} {p : Nat} {l : List Int} {w w' : World} (h : RdIn F p l w) (hb : Below w.heap.size w w') : RdIn F p l w' := by
  obtain ⟨a, n, c, h1, h2, h3, h4, h5, h6⟩ := h
  exact ⟨a, n, c, Nat.lt_of_lt_of_le h1 hb.size, (hb.cell (p := ⟨p, 0, none⟩) h1).trans h2, (hb.cell (p := ⟨p, 1, none⟩) h1).trans h3, (hb.frozen (p := ⟨p, 0, none⟩) h1).trans h4, h5.below' hb, h6⟩
theorem RdIn.drewN {F : Nat → Prop} {p : Nat} {l : List Int} {w : World} (h : RdIn F p l w) (d : Nat) : RdIn F p l (w.drewN d) := by
  obtain ⟨a, n, c, h1, h2, h3, h4, h5, h6⟩ := h
  exact ⟨a, n, c, by simpa using h1, by simpa using h2, by simpa using h3, by simpa using h4, h5.drewN d, h6⟩
theorem RdIn.mono {F G : Nat → Prop} {p : Nat} {l : List Int} {w : World} (h : RdIn F p l w) (hs : ∀ k, F k → G k) : RdIn G p l w := by
  obtain ⟨a, n, c, h1, h2, h3, h4, h5, h6, h7, h8, h9, h10, h11⟩ := h
  exact ⟨a, n, c, h1, h2, h3, h4, h5, h6, h7, h8, h9, h10, fun e k hk => hs k (h11 e k hk)⟩
theorem RdIn.step {F : Nat → Prop} {p : Nat} {l r : List Int} {w : World} {a : Option Addr} {n c : Nat} (h : RdIn F p l w) (hr : Reads w a (r.map (Value.int .u8))) (hn : r.length = n) (hc : n ≤ c) (hm : c ≤ maxLen) (h0 : a = none → c = 0) (ha : Apart a p) (hF : r ≠ [] → ∀ k, At a k → F k) :
    RdIn F p r (w.setCell ⟨p, 0, none⟩ (.slice a n c)) := by
  obtain ⟨a', n', c', h1, h2, h3, h4, -⟩ := h
  refine ⟨a, n, c, by simpa using h1, World.cell?_setCell_same w ⟨p, 0, none⟩ _ h2, ?_, by rw [World.frozen?_setCell]; exact h4, ?_, hn, hc, hm, h0, ha, hF⟩
  · rw [World.cell?_setCell_other _ _ _ _ (by intro h; cases h)]; exact h3
  · intro i v hv
    obtain ⟨b, off, hb, hcell⟩ := hr i v hv
    refine ⟨b, off, hb, ?_⟩
    have hne : b ≠ p := ha _ hb
    rw [World.cell?_setCell_other _ _ _ _ (fun h => hne (congrArg Addr.block h).symm)]
    exact hcell
/-- A cell of another block is written. -/
theorem RdIn.other {F : Nat → Prop} {p : Nat} {l : List Int} {w : World} (h : RdIn F p l w) {x : Addr} (hp : x.block ≠ p) (hF : ¬ F x.block) (v : Value) : RdIn F p l (w.setCell x v) := by
  obtain ⟨a, n, c, h1, h2, h3, h4, h5, h6, h7, h8, h9, h10, h11⟩ := h
  refine ⟨a, n, c, by simpa using h1, ?_, ?_, by rw [World.frozen?_setCell]; exact h4, ?_, h6, h7, h8, h9, h10, h11⟩
  · rw [World.cell?_setCell_other _ _ _ _ (fun h => hp (congrArg Addr.block h))]; exact h2
  · rw [World.cell?_setCell_other _ _ _ _ (fun h => hp (congrArg Addr.block h))]; exact h3
  · intro i u hu
    have hne : l ≠ [] := fun e => by subst e; simp at hu
    obtain ⟨b, off, hb, hcell⟩ := h5 i u hu
    refine ⟨b, off, hb, ?_⟩
    have hx : x.block ≠ b := fun e => hF (e ▸ h11 hne b ⟨_, hb, rfl⟩)
    rw [World.cell?_setCell_other _ _ _ _ (fun h => hx (congrArg Addr.block h))]
    exact hcell

/-- A method of the reader answers v, and what is left is l. -/
def RdInGives (F : Nat → Prop) (p : Nat) (v : Value) (l : List Int) (w : World) (en : Ending) (w' : World) : Prop := en = .returned v ∧ RdIn F p l w' ∧ Kept p none w w'
theorem RdInGives.early {F : Nat → Prop} {p : Nat} {v : Value} {l : List Int} {w w1 w2 : World} {en : Ending} (h : RdInGives F p v l w1 en w2) (hb : Below w.heap.size w w1) : RdInGives F p v l w en w2 :=
  ⟨h.1, h.2.1, (Kept.of hb).trans (Near.refl _ _) h.2.2⟩
theorem RdInGives.rd {F : Nat → Prop} {p : Nat} {v : Value} {l : List Int} {w w2 : World} {en : Ending} (h : RdInGives F p v l w en w2) : RdGives p v l w en w2 := ⟨h.1, h.2.1.rd, h.2.2⟩

set_option maxRecDepth 100000 in
theorem rNumIn (F : Nat → Prop) (p N : Nat) (r l : List Int) (most : Int) (w : World) (hr : RdIn F p l w) (hl : short N ++ r = l) (hb : IsBytes l) (h : N ≤ 18446744073709551615) (hm : (N : Int) ≤ most) :
    Calls Try.prog 42 #[.pointer (some ⟨p, 0, none⟩), .int .u64 most] w (RdInGives F p (.int .u64 (N : Int)) r w) := by
  have HE := rErrC p l w hr.rd
  have hr' := Lib.hid hr
  obtain ⟨a, n, c, h1, h2, h3, h4, h5, h6, h7, h8, h9, h10, h11⟩ := hr
  have HG := fun w ha => getC l a c w ha hb (by omega)
  have hgot := got_back N r h
  rw [hl] at hgot
  rw [hgot, h6] at HG
  unfold GotIs at HG
  obtain ⟨s1, -, -⟩ := short_bounds N
  have hln : (short N).length + r.length = n := by rw [← h6, ← hl, List.length_append]
  obtain ⟨B, off, rfl⟩ : ∃ B off, a = some ⟨B, off, none⟩ := by
    obtain ⟨B, off, e, -⟩ := h5.at 0 (by omega)
    exact ⟨B, off, e⟩
  have h5' := h5
  rw [← hl, List.map_append] at h5'
  have hcut := h5'.cut_if (c := c) (short N).length (List.length_map _) (fun e => by
    have : r.length = 0 := by omega
    rw [List.length_eq_zero_iff.mp this]; rfl)
  have hF : ∀ o, ∀ k, At (some ⟨B, o, none⟩) k → F k := fun o k hk => h11 (fun e => by rw [e] at h6; simp at h6; omega) k (at_some.2 (show B = k from (at_some (x := ⟨B, o, none⟩)).1 hk))
  clear hgot h5' hl hb h11
  generalize (short N).length = L at *
  have hL : (L : Int) ≤ (n : Int) := by omega
  unfold maxLen at h8
  have hap : ∀ o, Apart (some ⟨B, o, none⟩) p := fun o x hx => by cases hx; exact h10 ⟨B, off, none⟩ rfl
  by_cases hcL : c = L
  all_goals
    first
      | (rw [if_pos hcL] at hcut; subst hcL)
      | rw [if_neg hcL] at hcut
    go_enter Try.func42, Try.ntmps42
    go_wp2_with (first
      | (go_at_call 29; (with_reducible refine HE.mono ?_); rintro e w' ⟨rfl, rfl⟩)
      | (go_at_call 49; (with_reducible refine (HG _ h5).mono ?_); rintro e w' ⟨rfl, rfl⟩))
    go_ret
    exact ⟨rfl, hr'.out.step hcut (by omega) (by omega) (by unfold maxLen; omega) (fun h => by cases h) (hap _) (fun _ => hF _), (Kept.refl _ _ _).setCell 0 _⟩
end Go.Proofs.Ytfdiomghoheljaa
