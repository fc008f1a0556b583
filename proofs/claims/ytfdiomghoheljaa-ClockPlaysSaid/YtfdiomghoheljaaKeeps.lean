/- What a call changes: some blocks of what was there, and what it makes anew; which rows and objects stay as they are. No program in it. -/
import Derived.Test.YtfdiomghoheljaaKept
import Derived.Test.YtfdiomghoheljaaRow
import Derived.Test.YtfdiomghoheljaaObj
namespace Go.Proofs.Ytfdiomghoheljaa
open Go.RowKit
set_option linter.unusedVariables false

/-- The block that a slice, or a pointer, leads to. -/
def At (a : Option Addr) (k : Nat) : Prop := ∃ x, a = some x ∧ x.block = k
theorem at_none (k : Nat) : ¬ At none k := by rintro ⟨x, h, _⟩; cases h
theorem at_some {x : Addr} {k : Nat} : At (some x) k ↔ x.block = k := ⟨by rintro ⟨y, h, e⟩; cases h; exact e, fun e => ⟨x, rfl, e⟩⟩
theorem apart_iff {a : Option Addr} {k : Nat} : Apart a k ↔ ¬ At a k := ⟨fun h ⟨x, e, q⟩ => h x e q, fun h x e q => h ⟨x, e, q⟩⟩

/-- Two of them lead to different blocks. -/
def Off (a b : Option Addr) : Prop := ∀ k, At a k → ¬ At b k
theorem Off.symm {a b : Option Addr} (h : Off a b) : Off b a := fun k h1 h2 => h k h2 h1
theorem off_none (b : Option Addr) : Off none b := fun k h => absurd h (at_none k)
theorem off_none' (b : Option Addr) : Off b none := fun k _ h => absurd h (at_none k)
theorem Off.new {a : Option Addr} {n : Nat} (h : ∀ k, At a k → k < n) {g o : Nat} {t : Option Nat} (hg : n ≤ g) : Off a (some ⟨g, o, none⟩) := fun k h1 h2 => by
  have e : g = k := at_some.1 h2
  have := h k h1
  omega
theorem Off.moved {a a' b : Option Addr} {n : Nat} (h : Off a b) (hn : a' = a ∨ ∃ g, a' = some ⟨g, 0, none⟩ ∧ n ≤ g) (hb : ∀ k, At b k → k < n) : Off a' b := by
  rcases hn with rfl | ⟨g, rfl, hg⟩
  · exact h
  · intro k h1 h2
    have e : g = k := at_some.1 h1
    have := hb k h2
    omega
theorem Off.near {a a' b : Option Addr} {w : World} (h : Off a b) (hn : Near a a' w) (hb : ∀ k, At b k → k < w.heap.size) : Off a' b := fun k h1 h2 =>
  apart_iff.1 (hn k (hb k h2) (apart_iff.2 fun h3 => h k h3 h2)) h1
theorem Off.away {q a : Option Addr} {p : Nat} {o : Nat} (h1 : Off q (some ⟨p, o, none⟩)) (h2 : Off q a) : Away q p a := fun x hx =>
  ⟨fun e => h1 x.block ⟨x, hx, rfl⟩ (at_some.2 e.symm), apart_iff.2 fun h => h2 x.block ⟨x, hx, rfl⟩ h⟩
theorem Off.apart {q : Option Addr} {p o : Nat} (h : Off q (some ⟨p, o, none⟩)) : Apart q p := apart_iff.2 fun h1 => h p h1 (at_some.2 rfl)
theorem Off.of_apart {q : Option Addr} {p : Nat} (h : Apart q p) (o : Nat) : Off q (some ⟨p, o, none⟩) := fun k h1 h2 => by
  have e : p = k := at_some.1 h2
  subst e
  exact apart_iff.1 h h1

/-- All that was there stays, but for the blocks of F. -/
structure Keeps (F : Nat → Prop) (w w' : World) : Prop where
  os : w'.os = w.os
  tape : w'.tape = w.tape
  output : w'.output = w.output
  size : w.heap.size ≤ w'.heap.size
  block : ∀ k, k < w.heap.size → ¬ F k → w'.heap[k]? = w.heap[k]?

theorem Keeps.refl (F : Nat → Prop) (w : World) : Keeps F w w := ⟨rfl, rfl, rfl, Nat.le_refl _, fun _ _ _ => rfl⟩
theorem Keeps.trans {F G : Nat → Prop} {w w1 w2 : World} (h : Keeps F w w1) (h1 : Keeps G w1 w2) (hs : ∀ k, k < w.heap.size → G k → F k) : Keeps F w w2 :=
  ⟨h1.os.trans h.os, h1.tape.trans h.tape, h1.output.trans h.output, Nat.le_trans h.size h1.size, fun k hk hF => (h1.block k (Nat.lt_of_lt_of_le hk h.size) fun hG => hF (hs k hk hG)).trans (h.block k hk hF)⟩
theorem Keeps.mono {F G : Nat → Prop} {w w' : World} (h : Keeps F w w') (hs : ∀ k, k < w.heap.size → F k → G k) : Keeps G w w' :=
  ⟨h.os, h.tape, h.output, h.size, fun k hk hG => h.block k hk fun hF => hG (hs k hk hF)⟩
theorem Keeps.of {B : Nat} {w w' : World} (h : Below B w w') : Keeps (fun k => B ≤ k) w w' :=
  ⟨h.os, h.tape, h.output, h.size, fun k hk hF => h.block k (by omega)⟩
theorem Keeps.new {F : Nat → Prop} {w w' : World} (h : Below w.heap.size w w') : Keeps F w w' :=
  ⟨h.os, h.tape, h.output, h.size, fun k hk _ => h.block k hk⟩
theorem Keeps.below {F : Nat → Prop} {B : Nat} {w w' : World} (h : Keeps F w w') (hB : B ≤ w.heap.size) (hF : ∀ k, k < w.heap.size → F k → B ≤ k) : Below B w w' :=
  ⟨h.os, h.tape, h.output, h.size, fun k hk => h.block k (Nat.lt_of_lt_of_le hk hB) fun c => by have := hF k (Nat.lt_of_lt_of_le hk hB) c; omega⟩
theorem Keeps.ofKept {p : Nat} {a : Option Addr} {w w' : World} (h : Kept p a w w') : Keeps (fun k => k = p ∨ At a k) w w' :=
  ⟨h.os, h.tape, h.output, h.size, fun k hk hF => h.block k hk (fun e => hF (.inl e)) (apart_iff.2 fun e => hF (.inr e))⟩
theorem Keeps.ofGrown {B : Nat} {a : Option Addr} {w w' : World} (hb : Below B w w') (h : GrownBut w w' a) : Keeps (At a) w w' :=
  ⟨hb.os, hb.tape, hb.output, h.1, fun k hk hF => h.2 k hk (apart_iff.2 hF)⟩
theorem Keeps.cell {F : Nat → Prop} {w w' : World} (h : Keeps F w w') {x : Addr} {v : Value} (hc : w.cell? x = some v) (hF : ¬ F x.block) : w'.cell? x = some v :=
  (World.cell?_of_block (h.block x.block (cell_lt hc) hF)).trans hc
theorem Keeps.frozen {F : Nat → Prop} {w w' : World} (h : Keeps F w w') {x : Addr} (hx : x.block < w.heap.size) (hF : ¬ F x.block) : w'.frozen? x = w.frozen? x :=
  World.frozen?_of_block (h.block x.block hx hF)
theorem Keeps.setCell {F : Nat → Prop} {w w' : World} (h : Keeps F w w') {x : Addr} (hF : F x.block) (u : Value) : Keeps F w (w'.setCell x u) :=
  ⟨h.os, h.tape, h.output, by simpa using h.size, fun k hk hn => (Below.heap_setCell w' x u k (fun e => hn (e ▸ hF))).trans (h.block k hk hn)⟩

theorem Reads.keeps {F : Nat → Prop} {q : Option Addr} {w w' : World} {xs : List Value} (h : Reads w q xs) (hk : Keeps F w w') (hq : ∀ k, At q k → ¬ F k) : Reads w' q xs := by
  intro k v hv
  obtain ⟨b, off, e, hc⟩ := h k v hv
  exact ⟨b, off, e, hk.cell hc (hq _ (e ▸ at_some.2 rfl))⟩
theorem ownsRow_keeps {F : Nat → Prop} {w w' : World} {base : Nat} {e : TypeId} {z : Nat} {q : Option Addr} {n c : Nat} {m : Nat} {xs : List Value} (h : w.ownsRow base e z (.slice q n c) m xs) (hk : Keeps F w w') (hq : ∀ k, At q k → ¬ F k) : w'.ownsRow base e z (.slice q n c) m xs := by
  refine ⟨h.1, ?_⟩
  rcases h.2 with h2 | ⟨g, cap, cur, hv, hb, hg, d⟩
  · exact .inl h2
  · refine .inr ⟨g, cap, cur, hv, hb, ?_, d⟩
    have hlt : g < w.heap.size := by
      rcases Nat.lt_or_ge g w.heap.size with h | h
      · exact h
      · rw [Array.getElem?_eq_none h] at hg; cases hg
    cases hv
    rw [hk.block g hlt (hq _ (at_some.2 rfl))]
    exact hg
theorem Owned.keeps {F : Nat → Prop} {base : Nat} {e : TypeId} {q : Option Addr} {n c : Nat} {xs : List Value} {w w' : World} (h : Owned base e q n c xs w) (hk : Keeps F w w') (hq : ∀ k, At q k → ¬ F k) : Owned base e q n c xs w' :=
  ⟨ownsRow_keeps h.1 hk hq, h.2.1.keeps hk hq, h.2.2⟩
theorem OwnZ.keeps {F : Nat → Prop} {α : Type} {enc : α → List Value} {z base : Nat} {e : TypeId} {q : Option Addr} {n c : Nat} {P : List α} {w w' : World} (h : OwnZ enc z base e q n c P w) (hk : Keeps F w w') (hq : ∀ k, At q k → ¬ F k) : OwnZ enc z base e q n c P w' :=
  ⟨ownsRow_keeps h.1 hk hq, h.2⟩
theorem OwnZ.lt' {α : Type} {enc : α → List Value} {z base : Nat} {e : TypeId} {a : Option Addr} {n c : Nat} {P : List α} {w : World} (h : OwnZ enc z base e a n c P w) : ∀ k, At a k → base ≤ k ∧ k < w.heap.size := by
  rintro k ⟨x, rfl, rfl⟩
  rcases h.head with ⟨c, _⟩ | ⟨g, e, h1, h2⟩
  · cases c
  · cases e
    exact ⟨h1, h2⟩
theorem Owned.at' {base : Nat} {e : TypeId} {a : Option Addr} {n c : Nat} {xs : List Value} {w : World} (h : Owned base e a n c xs w) : ∀ k, At a k → base ≤ k ∧ k < w.heap.size := by
  rintro k ⟨x, rfl, rfl⟩
  exact h.lt' x rfl
theorem Wr.at' {e : TypeId} {base p : Nat} {a : Option Addr} {l : List Int} {w : World} (h : Wr e base p a l w) : ∀ k, At a k → base ≤ k ∧ k < w.heap.size ∧ k ≠ p := by
  rintro k ⟨x, rfl, rfl⟩
  exact h.row x rfl
theorem Wr.keeps {F : Nat → Prop} {e : TypeId} {base p : Nat} {a : Option Addr} {l : List Int} {w w' : World} (h : Wr e base p a l w) (hk : Keeps F w w') (hp : ¬ F p) (ha : ∀ k, At a k → ¬ F k) : Wr e base p a l w' := by
  obtain ⟨n, c, h1, h2, h3, h4, h5, h6, h7⟩ := h
  exact ⟨n, c, h1, Nat.lt_of_lt_of_le h2 hk.size, hk.cell h3 hp, (hk.frozen h2 hp).trans h4, h5, h6.keeps hk ha, h7⟩
theorem RowOf.keeps {F : Nat → Prop} {α : Type} {enc : α → List Value} {z : Nat} {w w' : World} {a : Option Addr} {len cap : Nat} {P : List α} (h : RowOf enc z w a len cap P) (hk : Keeps F w w') (ha : ∀ k, At a k → ¬ F k) : RowOf enc z w' a len cap P := by
  refine ⟨h.leq, h.cle, h.capm, h.nil0, fun i x hx => ?_⟩
  obtain ⟨g, off, e, hc⟩ := h.at_ i x hx
  exact ⟨g, off, e, fun j v hv => hk.cell (hc j v hv) (ha _ (e ▸ at_some.2 rfl))⟩
theorem ObjAt.keeps {F : Nat → Prop} {w w' : World} {b : Nat} {vs : List Value} (h : ObjAt w b vs) (hk : Keeps F w w') (hb : ¬ F b) : ObjAt w' b vs := by
  have hlt := h.lt
  obtain ⟨e, he⟩ := h.heap
  exact ⟨e, (hk.block b hlt hb).trans he⟩
end Go.Proofs.Ytfdiomghoheljaa
