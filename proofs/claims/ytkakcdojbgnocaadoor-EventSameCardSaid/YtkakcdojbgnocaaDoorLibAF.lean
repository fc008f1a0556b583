/- Contracts and plain words that the laws' proofs stand on, put together. -/
import Derived.Test.YtkakcdojbgnocaaDoorLibAC
import Derived.Lib.ItoaLen
import Derived.Lib.AppendIntMem
import Derived.Test.YtkakcdojbgnocaaDoorLibAD
import Derived.Test.YtkakcdojbgnocaaDoorLibAE
import Derived.Test.YtkakcdojbgnocaaDoorLibAA
import Derived.Test.YtkakcdojbgnocaaDoorLibAB
import Derived.BigQuiet
/- Blanks at the ends of a text: what is left without them. No program in it. -/
namespace Go.Proofs.YtkakcdojbgnocaaDoor
set_option linter.unusedVariables false

end Go.Proofs.YtkakcdojbgnocaaDoor

/- Decimal digits of a number: plain, with no program in it. -/
namespace Go.Proofs.YtkakcdojbgnocaaDoor
open Go.RowKit
set_option linter.unusedVariables false

/-- What the library's functions read of its variables: the table that numerals are written by; the number that a search asks for. -/
structure PTab (P : Program) (w : World) : Prop where
  tab : Lib.TabIs P w "internal/strconv.uint64pow10" .u64 Lib.pow10Tab
  most : ∀ g, P.globalNamed "internal/bytealg.MaxLen" = some g → ∃ m, w.cell? ⟨g, 0, none⟩ = some (.int .i64 m)
theorem PTab.below {P : Program} {w w' : World} (h : PTab P w) (hb : Below w.heap.size w w') : PTab P w' := by
  refine ⟨?_, fun g hg => ?_⟩
  · have h := h.tab
    unfold Lib.TabIs at h ⊢
    unfold World.var? at h ⊢
    cases hg : P.globalNamed "internal/strconv.uint64pow10" with
    | none => rw [hg] at h; cases h
    | some g =>
      rw [hg] at h
      simp only [Option.bind_some] at h ⊢
      have hlt : g < w.heap.size := by
        rcases Nat.lt_or_ge g w.heap.size with h1 | h1
        · exact h1
        · rw [Array.getElem?_eq_none h1] at h; cases h
      rw [hb.block g hlt]
      exact h
  · obtain ⟨m, hm⟩ := h.most g hg
    have hlt : g < w.heap.size := by
      rcases Nat.lt_or_ge g w.heap.size with h1 | h1
      · exact h1
      · unfold World.cell? at hm
        rw [Array.getElem?_eq_none h1] at hm; cases hm
    exact ⟨m, (hb.cell hlt).trans hm⟩

end Go.Proofs.YtkakcdojbgnocaaDoor

/- Readers of bytes in plain words: what is left, and the first error. No program in it. -/
namespace Go.Proofs.YtkakcdojbgnocaaDoor
set_option linter.unusedVariables false

/-- What a reader of bytes is: what is left, and the error. -/
abbrev RdN := List Int × Int
def numR (r : RdN) (most : Int) : RdN × Int :=
  if r.2 ≠ 0 then (r, 0) else if (got r.1 0 0).2.2 ≠ 0 then ((r.1, (got r.1 0 0).2.2), 0) else if most < (got r.1 0 0).1 then ((r.1, 3), 0) else ((r.1.drop (got r.1 0 0).2.1.toNat, 0), (got r.1 0 0).1)

end Go.Proofs.YtkakcdojbgnocaaDoor

/- A reader whose bytes lie in blocks that are known: it stays in front of the same bytes when a cell of another block is written (a result's cell, say). -/
namespace Go.Proofs.YtkakcdojbgnocaaDoor
open Go.RowKit
set_option linter.unusedVariables false

/-- A reader at block p, without an error, in front of the bytes l, which lie in the blocks F (if there are any). -/
def RdIn (F : Nat → Prop) (p : Nat) (l : List Int) (w : World) : Prop :=
  ∃ a n c, p < w.heap.size ∧ w.cell? ⟨p, 0, none⟩ = some (.slice a n c) ∧ w.cell? ⟨p, 1, none⟩ = some (.int .i64 0) ∧ w.frozen? ⟨p, 0, none⟩ = false ∧ Reads w a (l.map (Value.int .u8)) ∧ l.length = n ∧ n ≤ c ∧ c ≤ maxLen ∧ (a = none → c = 0) ∧ Apart a p ∧ (l ≠ [] → ∀ k, At a k → F k)
theorem RdIn.rd {F : Nat → Prop} {p : Nat} {l : List Int} {w : World} (h : RdIn F p l w) : Rd p l w := by
  obtain ⟨a, n, c, h1, h2, h3, h4, h5, h6, h7, h8, h9, h10, -⟩ := h
  exact ⟨a, n, c, h1, h2, h3, h4, h5, h6, h7, h8, h9, h10⟩
theorem RdIn.lt {F : Nat → Prop} {p : Nat} {l : List Int} {w : World} (h : RdIn F p l w) : p < w.heap.size := h.rd.lt
theorem Rd.inside {p : Nat} {l : List Int} {w : World} (h : Rd p l w) : RdIn (fun k => k < w.heap.size) p l w := by
  obtain ⟨a, n, c, h1, h2, h3, h4, h5, h6, h7, h8, h9, h10⟩ := h
  refine ⟨a, n, c, h1, h2, h3, h4, h5, h6, h7, h8, h9, h10, fun hne k hk => ?_⟩
  obtain ⟨x, t, rfl⟩ := List.exists_cons_of_ne_nil hne
  obtain ⟨b, off, rfl, hc⟩ := h5 0 (.int .u8 x) rfl
  obtain rfl := at_some.1 hk
  exact cell_lt hc
theorem RdIn.below {F : Nat → Prop} {p : Nat} {l : List Int} {w w' : World} (h : RdIn F p l w) (hb : Below w.heap.size w w') : RdIn F p l w' := by
  obtain ⟨a, n, c, h1, h2, h3, h4, h5, h6⟩ := h
  exact ⟨a, n, c, Nat.lt_of_lt_of_le h1 hb.size, (hb.cell (p := ⟨p, 0, none⟩) h1).trans h2, (hb.cell (p := ⟨p, 1, none⟩) h1).trans h3, (hb.frozen (p := ⟨p, 0, none⟩) h1).trans h4, h5.below' hb, h6⟩
theorem RdIn.drewN {F : Nat → Prop} {p : Nat} {l : List Int} {w : World} (h : RdIn F p l w) (d : Nat) : RdIn F p l (w.drewN d) := by
  obtain ⟨a, n, c, h1, h2, h3, h4, h5, h6⟩ := h
  exact ⟨a, n, c, by simpa using h1, by simpa using h2, by simpa using h3, by simpa using h4, h5.drewN d, h6⟩
theorem RdIn.mono {F G : Nat → Prop} {p : Nat} {l : List Int} {w : World} (h : RdIn F p l w) (hs : ∀ k, F k → G k) : RdIn G p l w := by
  obtain ⟨a, n, c, h1, h2, h3, h4, h5, h6, h7, h8, h9, h10, h11⟩ := h
  exact ⟨a, n, c, h1, h2, h3, h4, h5, h6, h7, h8, h9, h10, fun e k hk => hs k (h11 e k hk)⟩
theorem RdIn.step {F : Nat → Prop} {p : Nat} {l r : List Int} {w : World} {a : Option Addr} {n c : Nat} (h : RdIn F p l w) (hr : Reads w a (r.map (Value.int .u8))) (hn : r.length = n) (hc : n ≤ c) (hm : c ≤ maxLen) (h0 : a = none → c = 0) (ha : Apart a p) (hF : r ≠ [] → ∀ k, At a k → F k) :
    RdIn F p r (w.setCell ⟨p, 0, none⟩ (.slice a n c)) := by
  obtain ⟨a', n', c', h1, h2, h3, h4, -⟩ := h
  refine ⟨a, n, c, by simpa using h1, World.cell?_setCell_same w ⟨p, 0, none⟩ _ h2, ?_, by rw [World.frozen?_setCell]; exact h4, ?_, hn, hc, hm, h0, ha, hF⟩
  · rw [World.cell?_setCell_other _ _ _ _ (by intro h; cases h)]; exact h3
  · intro i v hv
    obtain ⟨b, off, hb, hcell⟩ := hr i v hv
    refine ⟨b, off, hb, ?_⟩
    have hne : b ≠ p := ha _ hb
    rw [World.cell?_setCell_other _ _ _ _ (fun h => hne (congrArg Addr.block h).symm)]
    exact hcell
/-- A cell of another block is written. -/
theorem RdIn.other {F : Nat → Prop} {p : Nat} {l : List Int} {w : World} (h : RdIn F p l w) {x : Addr} (hp : x.block ≠ p) (hF : ¬ F x.block) (v : Value) : RdIn F p l (w.setCell x v) := by
  obtain ⟨a, n, c, h1, h2, h3, h4, h5, h6, h7, h8, h9, h10, h11⟩ := h
  refine ⟨a, n, c, by simpa using h1, ?_, ?_, by rw [World.frozen?_setCell]; exact h4, ?_, h6, h7, h8, h9, h10, h11⟩
  · rw [World.cell?_setCell_other _ _ _ _ (fun h => hp (congrArg Addr.block h))]; exact h2
  · rw [World.cell?_setCell_other _ _ _ _ (fun h => hp (congrArg Addr.block h))]; exact h3
  · intro i u hu
    have hne : l ≠ [] := fun e => by subst e; simp at hu
    obtain ⟨b, off, hb, hcell⟩ := h5 i u hu
    refine ⟨b, off, hb, ?_⟩
    have hx : x.block ≠ b := fun e => hF (e ▸ h11 hne b ⟨_, hb, rfl⟩)
    rw [World.cell?_setCell_other _ _ _ _ (fun h => hx (congrArg Addr.block h))]
    exact hcell

/-- A method of the reader answers v, and what is left is l. -/
def RdInGives (F : Nat → Prop) (p : Nat) (v : Value) (l : List Int) (w : World) (en : Ending) (w' : World) : Prop := en = .returned v ∧ RdIn F p l w' ∧ Kept p none w w'
theorem RdInGives.early {F : Nat → Prop} {p : Nat} {v : Value} {l : List Int} {w w1 w2 : World} {en : Ending} (h : RdInGives F p v l w1 en w2) (hb : Below w.heap.size w w1) : RdInGives F p v l w en w2 :=
  ⟨h.1, h.2.1, (Kept.of hb).trans (Near.refl _ _) h.2.2⟩
theorem RdInGives.rd {F : Nat → Prop} {p : Nat} {v : Value} {l : List Int} {w w2 : World} {en : Ending} (h : RdInGives F p v l w en w2) : RdGives p v l w en w2 := ⟨h.1, h.2.1.rd, h.2.2⟩

end Go.Proofs.YtkakcdojbgnocaaDoor

/- A writer that goes on, beside objects that the call made itself; what a method changes, told at the call's beginning. -/
namespace Go.Proofs.YtkakcdojbgnocaaDoor
open Go.RowKit
set_option linter.unusedVariables false

theorem wr_fresh (w : World) (e t : TypeId) : Wr e w.heap.size w.heap.size none [] (w.alloc (.cells #[.slice none 0 0] t)) := by
  refine ⟨0, 0, Nat.le_refl _, by simp, ?_, World.frozen?_alloc_at _ _ _ _ rfl, rfl, ⟨World.ownsRow_nil _ _ _ _, Reads.nil _ _, fun _ => rfl, Nat.le_refl _, Nat.zero_le _, rfl⟩, Apart.none _⟩
  rw [World.cell?_alloc_at _ _ _ _ rfl]; rfl

/-- The writer at p had the row at a in the world w; now it has that at q, of the bytes l; of the objects Os each lies in a block that the call made, beside the row. -/
structure PutSt (base p : Nat) (a : Option Addr) (w : World) (Os : List (Nat × List Value)) (q : Option Addr) (l : List Int) (v : World) : Prop where
  wr : Wr 5 base p q l v
  K : Kept p a w v
  N : Near a q w
  obs : ∀ x ∈ Os, ObjAt v x.1 x.2 ∧ ¬ At q x.1 ∧ w.heap.size ≤ x.1
  hp : p < w.heap.size
  hb : base ≤ v.heap.size
theorem PutSt.new {base p : Nat} {a : Option Addr} {l : List Int} {w : World} (h : Wr 5 base p a l w) (hb : base ≤ w.heap.size) : PutSt base p a w [] a l w :=
  ⟨h, Kept.refl _ _ _, Near.refl _ _, fun x hx => absurd hx List.not_mem_nil, h.lt.2, hb⟩
theorem PutSt.step {base p : Nat} {a : Option Addr} {w : World} {Os : List (Nat × List Value)} {q q' : Option Addr} {l l' : List Int} {v v' : World} (h : PutSt base p a w Os q l v) (hw : Wr 5 base p q' l' v') (k : Kept p q v v') (n : Near q q' v) : PutSt base p a w Os q' l' v' :=
  ⟨hw, h.K.trans h.N k, h.N.trans n h.K.size, fun x hx => by
    obtain ⟨o, ap, hB⟩ := h.obs x hx
    exact ⟨o.keeps (Keeps.ofKept k) (fun c => c.elim (fun c => by have := h.hp; omega) ap), apart_iff.1 (n _ o.lt (apart_iff.2 ap)), hB⟩, h.hp, Nat.le_trans h.hb k.size⟩
theorem PutSt.below {base p : Nat} {a : Option Addr} {w : World} {Os : List (Nat × List Value)} {q : Option Addr} {l : List Int} {v v' : World} (h : PutSt base p a w Os q l v) (hx : Below v.heap.size v v') : PutSt base p a w Os q l v' :=
  ⟨h.wr.below hx, h.K.trans (Near.refl _ _) (Kept.of hx), h.N, fun x hm => ⟨(h.obs x hm).1.below hx (h.obs x hm).1.lt, (h.obs x hm).2⟩, h.hp, Nat.le_trans h.hb hx.size⟩
/-- One object more: the call makes it now. -/
theorem PutSt.more {base p : Nat} {a : Option Addr} {w : World} {Os : List (Nat × List Value)} {q : Option Addr} {l : List Int} {v : World} (h : PutSt base p a w Os q l v) (A : Array Value) (t : TypeId) : PutSt base p a w ((v.heap.size, A.toList) :: Os) q l (v.alloc (.cells A t)) := by
  have h2 := h.below (below_alloc v (.cells A t))
  refine ⟨h2.wr, h2.K, h2.N, fun x hm => ?_, h2.hp, h2.hb⟩
  rcases List.mem_cons.1 hm with rfl | hm
  · exact ⟨ObjAt.new v A t, fun hk => Nat.lt_irrefl _ ((h.wr.at' _ hk).2.1), h.K.size⟩
  · exact h2.obs x hm
theorem PutSt.less {base p : Nat} {a : Option Addr} {w : World} {Os Os' : List (Nat × List Value)} {q : Option Addr} {l : List Int} {v : World} (h : PutSt base p a w Os q l v) (hs : ∀ x ∈ Os', x ∈ Os) : PutSt base p a w Os' q l v :=
  ⟨h.wr, h.K, h.N, fun x hm => h.obs x (hs x hm), h.hp, h.hb⟩
theorem PutSt.gives {base p : Nat} {a : Option Addr} {w : World} {Os : List (Nat × List Value)} {q : Option Addr} {l : List Int} {v : World} (h : PutSt base p a w Os q l v) : PutGives base p a l w (.returned (.tuple #[])) v := ⟨rfl, q, h.wr, h.K, h.N⟩
theorem PutSt.from {base p : Nat} {a : Option Addr} {w : World} {Os : List (Nat × List Value)} {q : Option Addr} {l : List Int} {l0 : List Int} {v : World} (h : PutSt base p a w Os q l v) (hw : Wr 5 base p a l0 w) (hb : base ≤ w.heap.size) : Below base w v :=
  h.K.below hw.lt.1 (fun x hx => (hw.row x hx).1) hb
end Go.Proofs.YtkakcdojbgnocaaDoor

/- Contracts of layer 5's reader over any bytes: right or wrong. -/
namespace Go.Proofs.YtkakcdojbgnocaaDoor
open Go.RowKit
set_option linter.unusedVariables false

/-- A reader at block p: what is left, and the first error. -/
def RdX (p : Nat) (r : RdN) (w : World) : Prop :=
  ∃ a n c, p < w.heap.size ∧ w.cell? ⟨p, 0, none⟩ = some (.slice a n c) ∧ w.cell? ⟨p, 1, none⟩ = some (.int .i64 r.2) ∧ w.frozen? ⟨p, 0, none⟩ = false ∧ w.frozen? ⟨p, 1, none⟩ = false ∧ Reads w a (r.1.map (Value.int .u8)) ∧ r.1.length = n ∧ n ≤ c ∧ c ≤ maxLen ∧ (a = none → c = 0) ∧ Apart a p
theorem RdX.lt {p : Nat} {r : RdN} {w : World} (h : RdX p r w) : p < w.heap.size := h.choose_spec.choose_spec.choose_spec.1
theorem RdX.rd {p : Nat} {l : List Int} {w : World} (h : RdX p (l, 0) w) : Rd p l w := by
  obtain ⟨a, n, c, h1, h2, h3, h4, -, h5⟩ := h
  exact ⟨a, n, c, h1, h2, h3, h4, h5⟩
theorem RdX.below {p : Nat} {r : RdN} {w w' : World} (h : RdX p r w) (hb : Below w.heap.size w w') : RdX p r w' := by
  obtain ⟨a, n, c, h1, h2, h3, h4, h4', h5, h6⟩ := h
  exact ⟨a, n, c, Nat.lt_of_lt_of_le h1 hb.size, (hb.cell (p := ⟨p, 0, none⟩) h1).trans h2, (hb.cell (p := ⟨p, 1, none⟩) h1).trans h3, (hb.frozen (p := ⟨p, 0, none⟩) h1).trans h4, (hb.frozen (p := ⟨p, 1, none⟩) h1).trans h4', h5.below' hb, h6⟩
theorem RdX.drewN {p : Nat} {r : RdN} {w : World} (h : RdX p r w) (d : Nat) : RdX p r (w.drewN d) := by
  obtain ⟨a, n, c, h1, h2, h3, h4, h4', h5, h6⟩ := h
  exact ⟨a, n, c, by simpa using h1, by simpa using h2, by simpa using h3, by simpa using h4, by simpa using h4', h5.drewN d, h6⟩
theorem RdX.heap {p : Nat} {r : RdN} {w w' : World} (h : RdX p r w) (e : w'.heap = w.heap) : RdX p r w' := by
  obtain ⟨a, n, c, h1, h2, h3, h4, h4', h5, h6⟩ := h
  have hc : ∀ y, w'.cell? y = w.cell? y := fun y => World.cell?_of_block (by rw [e])
  have hf : ∀ y, w'.frozen? y = w.frozen? y := fun y => World.frozen?_of_block (by rw [e])
  exact ⟨a, n, c, by rw [e]; exact h1, (hc _).trans h2, (hc _).trans h3, (hf _).trans h4, (hf _).trans h4', h5.same hc, h6⟩
/-- It went on: what is left is another slice. -/
theorem RdX.step {p : Nat} {l r : List Int} {e : Int} {w : World} {a : Option Addr} {n c : Nat} (h : RdX p (l, e) w) (hr : Reads w a (r.map (Value.int .u8))) (hn : r.length = n) (hc : n ≤ c) (hm : c ≤ maxLen) (h0 : a = none → c = 0) (ha : Apart a p) :
    RdX p (r, e) (w.setCell ⟨p, 0, none⟩ (.slice a n c)) := by
  obtain ⟨a', n', c', h1, h2, h3, h4, h4', -⟩ := h
  refine ⟨a, n, c, by simpa using h1, World.cell?_setCell_same w ⟨p, 0, none⟩ _ h2, ?_, by rw [World.frozen?_setCell]; exact h4, by rw [World.frozen?_setCell]; exact h4', ?_, hn, hc, hm, h0, ha⟩
  · rw [World.cell?_setCell_other _ _ _ _ (by intro h; cases h)]; exact h3
  · intro i v hv
    obtain ⟨b, off, hb, hcell⟩ := hr i v hv
    refine ⟨b, off, hb, ?_⟩
    have hne : b ≠ p := ha _ hb
    rw [World.cell?_setCell_other _ _ _ _ (fun h => hne (congrArg Addr.block h).symm)]
    exact hcell
/-- It has an error now. -/
theorem RdX.fail {p : Nat} {l : List Int} {e e' : Int} {w : World} (h : RdX p (l, e) w) : RdX p (l, e') (w.setCell ⟨p, 1, none⟩ (.int .i64 e')) := by
  obtain ⟨a, n, c, h1, h2, h3, h4, h4', h5, h6, h7, h8, h9, h10⟩ := h
  refine ⟨a, n, c, by simpa using h1, ?_, World.cell?_setCell_same w ⟨p, 1, none⟩ _ h3, by rw [World.frozen?_setCell]; exact h4, by rw [World.frozen?_setCell]; exact h4', ?_, h6, h7, h8, h9, h10⟩
  · rw [World.cell?_setCell_other _ _ _ _ (by intro h; cases h)]; exact h2
  · intro i v hv
    obtain ⟨b, off, hb, hcell⟩ := h5 i v hv
    refine ⟨b, off, hb, ?_⟩
    have hne : b ≠ p := h10 _ hb
    rw [World.cell?_setCell_other _ _ _ _ (fun h => hne (congrArg Addr.block h).symm)]
    exact hcell

/-- A method of the reader answers v, and r is what is left. -/
def RdxGives (p : Nat) (v : Value) (r : RdN) (w : World) (en : Ending) (w' : World) : Prop := en = .returned v ∧ RdX p r w' ∧ Kept p none w w'
theorem RdxGives.early {p : Nat} {v : Value} {r : RdN} {w w1 w2 : World} {en : Ending} (h : RdxGives p v r w1 en w2) (hb : Below w.heap.size w w1) : RdxGives p v r w en w2 :=
  ⟨h.1, h.2.1, (Kept.of hb).trans (Near.refl _ _) h.2.2⟩

end Go.Proofs.YtkakcdojbgnocaaDoor

/- A reader that goes on, beside objects that the call made itself: a block without bytes in it is never one that it reads of. -/
namespace Go.Proofs.YtkakcdojbgnocaaDoor
open Go.RowKit
set_option linter.unusedVariables false

theorem ObjAt.has {w : World} {b : Nat} {vs : List Value} (h : ObjAt w b vs) {i : Nat} {v : Value} (hc : w.cell? ⟨b, i, none⟩ = some v) : v ∈ vs := by
  obtain ⟨e, h⟩ := h.heap
  have : vs[i]? = some v := by simpa [World.cell?, h] using hc
  exact List.mem_of_getElem? this
/-- Cells none of which is a byte. -/
def NoByte (vs : List Value) : Prop := ∀ v ∈ vs, ∀ n, v ≠ .int .u8 n
theorem NoByte.set {vs : List Value} (h : NoByte vs) (i : Nat) {v : Value} (hv : ∀ n, v ≠ .int .u8 n) : NoByte (vs.set i v) := fun u hu n => by
  rcases List.mem_or_eq_of_mem_set hu with hu | rfl
  · exact h u hu n
  · exact hv n
theorem RdIn.free {F : Nat → Prop} {p : Nat} {l : List Int} {w : World} (h : RdIn F p l w) {b : Nat} {vs : List Value} (o : ObjAt w b vs) (hv : NoByte vs) (hp : b ≠ p) (i : Nat) (v : Value) : RdIn F p l (w.setCell ⟨b, i, none⟩ v) := by
  obtain ⟨a, n, c, h1, h2, h3, h4, h5, h6, h7, h8, h9, h10, h11⟩ := h
  refine ⟨a, n, c, by simpa using h1, ?_, ?_, by rw [World.frozen?_setCell]; exact h4, ?_, h6, h7, h8, h9, h10, h11⟩
  · rw [World.cell?_setCell_other _ _ _ _ (fun h => hp (congrArg Addr.block h))]; exact h2
  · rw [World.cell?_setCell_other _ _ _ _ (fun h => hp (congrArg Addr.block h))]; exact h3
  · intro j u hu
    obtain ⟨b', off, hb, hcell⟩ := h5 j u hu
    refine ⟨b', off, hb, ?_⟩
    have hne : b ≠ b' := by
      rintro rfl
      have hm := o.has hcell
      rw [List.getElem?_map] at hu
      obtain ⟨x, -, rfl⟩ := Option.map_eq_some_iff.1 hu
      exact hv _ hm x rfl
    rw [World.cell?_setCell_other _ _ _ _ (fun h => hne (congrArg Addr.block h))]
    exact hcell

/-- The reader at p stands in front of l; an object at B, without bytes in it, that may be written, and objects Os that stay lie in blocks that were made behind the world w. -/
structure GetSt (F : Nat → Prop) (p : Nat) (w : World) (B : Nat) (E : List Value) (Os : List (Nat × List Value)) (l : List Int) (v : World) : Prop where
  rd : RdIn F p l v
  o : ObjAt v B E
  nb : NoByte E
  obs : ∀ x ∈ Os, ObjAt v x.1 x.2 ∧ x.1 ≠ B ∧ w.heap.size ≤ x.1
  hB : w.heap.size ≤ B
  hp : p < w.heap.size
  K : Kept p none w v
theorem GetSt.ne {F : Nat → Prop} {p : Nat} {w : World} {B : Nat} {E : List Value} {Os : List (Nat × List Value)} {l : List Int} {v : World} (h : GetSt F p w B E Os l v) : B ≠ p := by
  have := h.hB
  have := h.hp
  omega
theorem GetSt.step {F G : Nat → Prop} {p : Nat} {w : World} {B : Nat} {E : List Value} {Os : List (Nat × List Value)} {l r : List Int} {v v' : World} (h : GetSt F p w B E Os l v) (hr : RdIn G p r v') (k : Kept p none v v') : GetSt G p w B E Os r v' :=
  ⟨hr, h.o.keeps (Keeps.ofKept k) (fun c => c.elim h.ne (fun c => at_none _ c)), h.nb, fun x hx => by
    obtain ⟨o, n, s⟩ := h.obs x hx
    exact ⟨o.keeps (Keeps.ofKept k) (fun c => c.elim (fun c => by have := h.hp; omega) (fun c => at_none _ c)), n, s⟩, h.hB, h.hp, h.K.trans (Near.refl _ _) k⟩
theorem GetSt.stepR {F : Nat → Prop} {p : Nat} {w : World} {B : Nat} {E : List Value} {Os : List (Nat × List Value)} {l r : List Int} {v v' : World} (h : GetSt F p w B E Os l v) (hr : Rd p r v') (k : Kept p none v v') : GetSt (fun k => k < v'.heap.size) p w B E Os r v' :=
  h.step hr.inside k
theorem GetSt.below {F : Nat → Prop} {p : Nat} {w : World} {B : Nat} {E : List Value} {Os : List (Nat × List Value)} {l : List Int} {v v' : World} (h : GetSt F p w B E Os l v) (hx : Below v.heap.size v v') : GetSt F p w B E Os l v' :=
  h.step (h.rd.below hx) (Kept.of hx)
theorem GetSt.set {F : Nat → Prop} {p : Nat} {w : World} {B : Nat} {E : List Value} {Os : List (Nat × List Value)} {l : List Int} {v : World} (h : GetSt F p w B E Os l v) (i : Nat) {u : Value} (hu : ∀ n, u ≠ .int .u8 n) : GetSt F p w B (E.set i u) Os l (v.setCell ⟨B, i, none⟩ u) :=
  ⟨h.rd.free h.o h.nb h.ne i u, h.o.set i u, h.nb.set i hu, fun x hx => by
    obtain ⟨o, n, s⟩ := h.obs x hx
    exact ⟨o.other (p := ⟨B, i, none⟩) (fun e => n e.symm) u, n, s⟩, h.hB, h.hp, ⟨h.K.os, h.K.tape, h.K.output, by simpa using h.K.size, fun k hk h1 h2 => by
      have e : k ≠ B := by have := h.hB; omega
      rw [Below.heap_setCell _ _ _ _ e]
      exact h.K.block k hk h1 h2⟩⟩
theorem GetSt.more {F : Nat → Prop} {p : Nat} {w : World} {B : Nat} {E : List Value} {Os : List (Nat × List Value)} {l : List Int} {v : World} (h : GetSt F p w B E Os l v) (A : Array Value) (t : TypeId) : GetSt F p w B E ((v.heap.size, A.toList) :: Os) l (v.alloc (.cells A t)) := by
  have h2 := h.below (below_alloc v (.cells A t))
  refine ⟨h2.rd, h2.o, h2.nb, fun x hm => ?_, h2.hB, h2.hp, h2.K⟩
  rcases List.mem_cons.1 hm with rfl | hm
  · exact ⟨ObjAt.new v A t, fun e => by have := h.o.lt; simp only at e; omega, h.K.size⟩
  · exact h2.obs x hm
theorem GetSt.less {F : Nat → Prop} {p : Nat} {w : World} {B : Nat} {E : List Value} {Os Os' : List (Nat × List Value)} {l : List Int} {v : World} (h : GetSt F p w B E Os l v) (hs : ∀ x ∈ Os', x ∈ Os) : GetSt F p w B E Os' l v :=
  ⟨h.rd, h.o, h.nb, fun x hm => h.obs x (hs x hm), h.hB, h.hp, h.K⟩
theorem RdIn.keepsFree {F G : Nat → Prop} {p : Nat} {l : List Int} {w w' : World} (h : RdIn F p l w) (hk : Keeps G w w') (hp : ¬ G p) (hG : ∀ b, G b → w.heap.size ≤ b ∨ ∃ vs, ObjAt w b vs ∧ NoByte vs) : RdIn F p l w' := by
  obtain ⟨a, n, c, h1, h2, h3, h4, h5, h6, h7, h8, h9, h10, h11⟩ := h
  refine ⟨a, n, c, Nat.lt_of_lt_of_le h1 hk.size, hk.cell (x := ⟨p, 0, none⟩) h2 hp, hk.cell (x := ⟨p, 1, none⟩) h3 hp, (hk.frozen (x := ⟨p, 0, none⟩) h1 hp).trans h4, ?_, h6, h7, h8, h9, h10, h11⟩
  intro j u hu
  obtain ⟨b', off, hb, hcell⟩ := h5 j u hu
  refine ⟨b', off, hb, hk.cell hcell fun hg => ?_⟩
  rcases hG b' hg with hge | ⟨vs, o, nb⟩
  · have hlt := cell_lt hcell
    simp only at hlt
    omega
  · have hm := o.has hcell
    rw [List.getElem?_map] at hu
    obtain ⟨x, -, rfl⟩ := Option.map_eq_some_iff.1 hu
    exact nb _ hm x rfl
/-- Other cells in the object, and in one more that was made (at P). -/
theorem GetSt.flags {F : Nat → Prop} {p : Nat} {w : World} {B P : Nat} {E E' P' : List Value} {Os Os' : List (Nat × List Value)} {l r : List Int} {v v' : World} (h : GetSt F p w B E Os l v) (hr : Rd p r v') (oB : ObjAt v' B E') (nb : NoByte E') (oP : ObjAt v' P P') (hPB : P ≠ B) (hP : w.heap.size ≤ P)
    (hk : Keeps (fun k => k = p ∨ k = P ∨ k = B) v v') (hs : ∀ x ∈ Os', x ∈ Os ∧ x.1 ≠ P) : GetSt (fun k => k < v'.heap.size) p w B E' ((P, P') :: Os') r v' := by
  have hp := h.hp
  have hB := h.hB
  refine ⟨hr.inside, oB, nb, fun x hx => ?_, h.hB, h.hp, ⟨hk.os.trans h.K.os, hk.tape.trans h.K.tape, hk.output.trans h.K.output, Nat.le_trans h.K.size hk.size, fun k hlt h1 h2 => (hk.block k (Nat.lt_of_lt_of_le hlt h.K.size) (fun c => by rcases c with c | c | c <;> omega)).trans (h.K.block k hlt h1 h2)⟩⟩
  rcases List.mem_cons.1 hx with rfl | hx
  · exact ⟨oP, hPB, hP⟩
  · obtain ⟨hx, hne⟩ := hs x hx
    obtain ⟨o, n, s⟩ := h.obs x hx
    exact ⟨o.keeps hk (fun c => c.elim (fun c => by omega) (fun c => c.elim hne n)), n, s⟩
/-- A row that was made behind all of this grows. -/
theorem GetSt.at' {F : Nat → Prop} {p : Nat} {w : World} {B base : Nat} {E : List Value} {Os : List (Nat × List Value)} {l : List Int} {v v' : World} (h : GetSt F p w B E Os l v) (hx : Below base v v') (hF : ∀ k, F k → k < base) (hB : B < base) (hO : ∀ x ∈ Os, x.1 < base) : GetSt F p w B E Os l v' := by
  have hpb : p < base := by have := h.hp; have := h.hB; omega
  refine ⟨?_, h.o.below hx hB, h.nb, fun x hm => ⟨(h.obs x hm).1.below hx (hO x hm), (h.obs x hm).2⟩, h.hB, h.hp, ⟨hx.os.trans h.K.os, hx.tape.trans h.K.tape, hx.output.trans h.K.output, Nat.le_trans h.K.size hx.size, fun k hk h1 h2 => (hx.block k (by have := h.hB; omega)).trans (h.K.block k hk h1 h2)⟩⟩
  obtain ⟨a, n, c, h1, h2, h3, h4, h5, h6, h7, h8, h9, h10, h11⟩ := h.rd
  refine ⟨a, n, c, Nat.lt_of_lt_of_le h1 hx.size, (hx.cell (p := ⟨p, 0, none⟩) hpb).trans h2, (hx.cell (p := ⟨p, 1, none⟩) hpb).trans h3, (hx.frozen (p := ⟨p, 0, none⟩) hpb).trans h4, ?_, h6, h7, h8, h9, h10, h11⟩
  intro i u hu
  obtain ⟨b, off, e, hc⟩ := h5 i u hu
  have hbB : b < base := hF b (h11 (fun e => by subst e; simp at hu) b ⟨_, e, rfl⟩)
  exact ⟨b, off, e, (hx.cell (p := ⟨b, off + i, none⟩) hbB).trans hc⟩
theorem i64_nb (i : Int) : ∀ n, Value.int .i64 i ≠ .int .u8 n := fun n h => by cases h
theorem str_nb (s : ByteArray) : ∀ n, Value.string s ≠ .int .u8 n := fun n h => by cases h
theorem bool_nb (s : Bool) : ∀ n, Value.bool s ≠ .int .u8 n := fun n h => by cases h
theorem slice_nb (a : Option Addr) (m c : Nat) : ∀ n, Value.slice a m c ≠ .int .u8 n := fun n h => by cases h
end Go.Proofs.YtkakcdojbgnocaaDoor

/- biscottiref01.SameBytes of any two rows of bytes. -/
namespace Go.Proofs.YtkakcdojbgnocaaDoor
open Go.RowKit
set_option linter.unusedVariables false

theorem sameBC (l m : List Int) (n k : Nat) (hn : l.length = n) (hk : m.length = k) (a b : Option Addr) (c d : Nat) (w : World) (ha : Reads w a (l.map (Value.int .u8))) (hb : Reads w b (m.map (Value.int .u8))) (hm : n ≤ maxLen) :
    Calls Tryd.prog 10 #[.slice a n c, .slice b k d] w fun e w' => e = .returned (.bool (decide (l = m))) ∧ ∃ n, w' = w.drewN n := by
  unfold maxLen at hm
  by_cases h : n = k
  · subst h
    have hN := Lib.hid hn
    have hK := Lib.hid hk
    have hE := fun i => Lib.hid (show l.take i = m.take i → l.getD i 0 = m.getD i 0 → i < n → l.take (i + 1) = m.take (i + 1) from fun h1 h2 h3 => by
      rw [List.take_succ_eq_append_getElem (by omega), List.take_succ_eq_append_getElem (by omega), h1]
      have g1 : i < l.length := by omega
      have g2 : i < m.length := by omega
      have h4 : l[i] = m[i] := by simpa [List.getD, g1, g2] using h2
      rw [h4])
    clear hn hk
    go_enter Tryd.func10, Tryd.ntmps10
    go_wp2
    go_loopw [5] (fun i wr => ∃ j : Nat, j ≤ n ∧ i = .int .i64 j ∧ Hid (l.take j = m.take j) ∧ ∃ q, wr = w.drewN q) (fun i _ => n - (intOf i).toNat)
    case atStart => exact ⟨0, Nat.zero_le _, rfl, rfl, 0, rfl⟩
    case round =>
      obtain ⟨j, hj, rfl, ht, q, rfl⟩ := hrel
      by_cases hlt : j < n
      · obtain ⟨B, off, rfl, c0⟩ := ha.at j (by rw [hN.out]; exact hlt)
        obtain ⟨B', off', rfl, c1⟩ := hb.at j (by rw [hK.out]; exact hlt)
        have hE := hE j
        have hlt' : (j : Int) < (n : Int) := by omega
        have hne : Hid (l.getD j 0 ≠ m.getD j 0 → ¬ l = m) := fun h1 h2 => h1 (by rw [h2])
        generalize l.getD j 0 = x at c0 hE hne
        generalize m.getD j 0 = y at c1 hE hne
        clear ha hb
        by_cases hxy : x = y
        · have e1 : (x != y) = false := by simp [hxy]
          have e2 : (x == y) = true := by simp [hxy]
          have HT := Lib.hid (hE.out ht.out hxy hlt)
          clear hE ht hne hxy
          go_wp2_with fail
          go_quiet (fail)
          go_wp2
          go_roundw
          case rel => exact ⟨j + 1, by omega, by go_num, HT, _, rfl⟩
          case measure => simp [intOf]; omega
        · have e1 : (x != y) = true := by simp [hxy]
          have e2 : (x == y) = false := by simp [hxy]
          have HT := Lib.hid (hne.out hxy)
          clear hE ht hne
          go_wp2_with fail
          go_quiet (fail)
          go_wp2
          go_ret
          exact ⟨by rw [decide_eq_false HT.out]; rfl, _, by rw [World.drewN_drewN]⟩
      · obtain rfl : j = n := by omega
        have e : l = m := by
          have := ht.out
          rwa [List.take_of_length_le (by rw [hN.out]; exact Nat.le_refl _), List.take_of_length_le (by rw [hK.out]; exact Nat.le_refl _)] at this
        have HT := Lib.hid e
        go_wp2
        go_ret
        exact ⟨by rw [decide_eq_true HT.out]; rfl, q, rfl⟩
  · have e : decide (l = m) = false := decide_eq_false fun c => h (by rw [← hn, ← hk, c])
    have e1 : ((n : Int) != (k : Int)) = true := by simp; omega
    have e2 : ((n : Int) == (k : Int)) = false := by simp; omega
    rw [e]
    go_enter Tryd.func10, Tryd.ntmps10
    go_wp2
    go_ret
    exact ⟨rfl, 0, rfl⟩
end Go.Proofs.YtkakcdojbgnocaaDoor
