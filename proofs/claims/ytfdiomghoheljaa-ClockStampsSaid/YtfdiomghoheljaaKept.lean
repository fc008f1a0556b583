/- What a method changes: its object's block, the row that it grows, what it makes anew, and nothing else; strings as bytes. No program in it. -/
import Derived.Test.YtfdiomghoheljaaOwnAt
import Derived.Lib.ConvBytes
namespace Go.Proofs.Ytfdiomghoheljaa
open Go.RowKit
set_option linter.unusedVariables false

/-- But for block p and the row that a lies in, all that was there is as it was. -/
structure Kept (p : Nat) (a : Option Addr) (w w' : World) : Prop where
  os : w'.os = w.os
  tape : w'.tape = w.tape
  output : w'.output = w.output
  size : w.heap.size ≤ w'.heap.size
  block : ∀ k, k < w.heap.size → k ≠ p → Apart a k → w'.heap[k]? = w.heap[k]?

/-- A row that stayed, or that lies in new memory. -/
def Near (a a' : Option Addr) (w : World) : Prop := ∀ k, k < w.heap.size → Apart a k → Apart a' k

theorem Near.refl (a : Option Addr) (w : World) : Near a a w := fun k hk h => h
theorem Near.of {a a' : Option Addr} {w : World} (h : a' = a ∨ ∃ g, a' = some ⟨g, 0, none⟩ ∧ w.heap.size ≤ g) : Near a a' w := fun k hk ha => by
  rcases h with rfl | ⟨g, rfl, hg⟩
  · exact ha
  · intro x hx
    cases hx
    show g ≠ k
    omega
theorem Near.trans {a a1 a2 : Option Addr} {w w1 : World} (h : Near a a1 w) (h1 : Near a1 a2 w1) (hs : w.heap.size ≤ w1.heap.size) : Near a a2 w := fun k hk ha => h1 k (Nat.lt_of_lt_of_le hk hs) (h k hk ha)
theorem Near.early {a a1 : Option Addr} {w w1 : World} (h : Near a a1 w1) (hs : w.heap.size ≤ w1.heap.size) : Near a a1 w := fun k hk ha => h k (Nat.lt_of_lt_of_le hk hs) ha

theorem Kept.refl (p : Nat) (a : Option Addr) (w : World) : Kept p a w w := ⟨rfl, rfl, rfl, Nat.le_refl _, fun _ _ _ _ => rfl⟩
theorem Kept.of {p : Nat} {a : Option Addr} {w w' : World} (h : Below w.heap.size w w') : Kept p a w w' := ⟨h.os, h.tape, h.output, h.size, fun k hk _ _ => h.block k hk⟩
theorem Kept.trans {p : Nat} {a a1 : Option Addr} {w w1 w2 : World} (h : Kept p a w w1) (hn : Near a a1 w) (h1 : Kept p a1 w1 w2) : Kept p a w w2 :=
  ⟨h1.os.trans h.os, h1.tape.trans h.tape, h1.output.trans h.output, Nat.le_trans h.size h1.size, fun k hk hp ha => (h1.block k (Nat.lt_of_lt_of_le hk h.size) hp (hn k hk ha)).trans (h.block k hk hp ha)⟩
theorem Kept.cell {p : Nat} {a : Option Addr} {w w' : World} (h : Kept p a w w') {x : Addr} {v : Value} (hc : w.cell? x = some v) (hp : x.block ≠ p) (ha : Apart a x.block) : w'.cell? x = some v :=
  (World.cell?_of_block (h.block x.block (cell_lt hc) hp ha)).trans hc
theorem Kept.frozen {p : Nat} {a : Option Addr} {w w' : World} (h : Kept p a w w') {x : Addr} (hx : x.block < w.heap.size) (hp : x.block ≠ p) (ha : Apart a x.block) : w'.frozen? x = w.frozen? x :=
  World.frozen?_of_block (h.block x.block hx hp ha)
theorem Kept.below {base p : Nat} {a : Option Addr} {w w' : World} (h : Kept p a w w') (hp : base ≤ p) (ha : ∀ x, a = some x → base ≤ x.block) (hs : base ≤ w.heap.size) : Below base w w' :=
  ⟨h.os, h.tape, h.output, h.size, fun k hk => h.block k (by omega) (by omega) (fun x hx => by have := ha x hx; omega)⟩
theorem Kept.setCell {p : Nat} {a : Option Addr} {w w' : World} (h : Kept p a w w') (i : Nat) (u : Value) : Kept p a w (w'.setCell ⟨p, i, none⟩ u) :=
  ⟨h.os, h.tape, h.output, by simpa using h.size, fun k hk hp ha => (Below.heap_setCell w' ⟨p, i, none⟩ u k hp).trans (h.block k hk hp ha)⟩
theorem Kept.grown {p base : Nat} {a : Option Addr} {w w' : World} (hb : Below base w w') (hg : GrownBut w w' a) : Kept p a w w' := ⟨hb.os, hb.tape, hb.output, hg.1, fun k hk _ ha => hg.2 k hk ha⟩

/-- The slice q lies neither in block p nor in a's row. -/
def Away (q : Option Addr) (p : Nat) (a : Option Addr) : Prop := ∀ x, q = some x → x.block ≠ p ∧ Apart a x.block

theorem Reads.kept {p : Nat} {a q : Option Addr} {w w' : World} {xs : List Value} (h : Reads w q xs) (hk : Kept p a w w') (ha : Away q p a) : Reads w' q xs := fun i v hv => by
  obtain ⟨b, off, hb, hc⟩ := h i v hv
  exact ⟨b, off, hb, hk.cell hc (ha _ hb).1 (ha _ hb).2⟩
theorem Owned.kept {base p : Nat} {e : TypeId} {a q : Option Addr} {n c : Nat} {xs : List Value} {w w' : World} (h : Owned base e q n c xs w) (hk : Kept p a w w') (ha : Away q p a) : Owned base e q n c xs w' := by
  refine ⟨⟨h.1.1, ?_⟩, h.2.1.kept hk ha, h.2.2⟩
  rcases h.1.2 with h2 | ⟨g, cap, cur, hv, hb, hg, d⟩
  · exact .inl h2
  · refine .inr ⟨g, cap, cur, hv, hb, ?_, d⟩
    have hlt : g < w.heap.size := by
      rcases Nat.lt_or_ge g w.heap.size with h | h
      · exact h
      · rw [Array.getElem?_eq_none h] at hg; cases hg
    cases hv
    rw [hk.block g hlt (ha _ rfl).1 (ha _ rfl).2]
    exact hg
theorem Owned.le {base : Nat} {e : TypeId} {a : Option Addr} {n c : Nat} {xs : List Value} {w : World} (h : Owned base e a n c xs w) : n ≤ c := h.2.2.2.1
theorem Owned.capm {base : Nat} {e : TypeId} {a : Option Addr} {n c : Nat} {xs : List Value} {w : World} (h : Owned base e a n c xs w) : c ≤ maxLen := h.2.2.2.2.1
theorem Owned.lt' {base : Nat} {e : TypeId} {a : Option Addr} {n c : Nat} {xs : List Value} {w : World} (h : Owned base e a n c xs w) (x : Addr) (hx : a = some x) : base ≤ x.block ∧ x.block < w.heap.size := by
  subst hx
  exact h.1.lt _ rfl

/-- An object at block p whose field is a slice of the call's own, of the bytes l. -/
def Wr (e : TypeId) (base p : Nat) (a : Option Addr) (l : List Int) (w : World) : Prop :=
  ∃ n c, base ≤ p ∧ p < w.heap.size ∧ w.cell? ⟨p, 0, none⟩ = some (.slice a n c) ∧ w.frozen? ⟨p, 0, none⟩ = false ∧ l.length = n ∧ Owned base e a n c (l.map (Value.int .u8)) w ∧ Apart a p
theorem Wr.below {e : TypeId} {base p : Nat} {a : Option Addr} {l : List Int} {w w' : World} (h : Wr e base p a l w) (hb : Below w.heap.size w w') : Wr e base p a l w' := by
  obtain ⟨n, c, h1, h2, h3, h4, h5, h6, h7⟩ := h
  exact ⟨n, c, h1, Nat.lt_of_lt_of_le h2 hb.size, (hb.cell (p := ⟨p, 0, none⟩) h2).trans h3, (hb.frozen (p := ⟨p, 0, none⟩) h2).trans h4, h5, h6.below hb (Nat.le_refl _), h7⟩
theorem Wr.lt {e : TypeId} {base p : Nat} {a : Option Addr} {l : List Int} {w : World} (h : Wr e base p a l w) : base ≤ p ∧ p < w.heap.size := ⟨h.choose_spec.choose_spec.1, h.choose_spec.choose_spec.2.1⟩
theorem Wr.row {e : TypeId} {base p : Nat} {a : Option Addr} {l : List Int} {w : World} (h : Wr e base p a l w) (x : Addr) (hx : a = some x) : base ≤ x.block ∧ x.block < w.heap.size ∧ x.block ≠ p := by
  obtain ⟨n, c, h1, h2, h3, h4, h5, h6, h7⟩ := h
  exact ⟨(h6.lt' x hx).1, (h6.lt' x hx).2, h7 x hx⟩
/-- Another row grew. -/
theorem Wr.kept {e : TypeId} {base p p' : Nat} {a q : Option Addr} {l : List Int} {w w' : World} (h : Wr e base p a l w) (hk : Kept p' q w w') (hp : p ≠ p') (hq : Apart q p) (ha : Away a p' q) : Wr e base p a l w' := by
  obtain ⟨n, c, h1, h2, h3, h4, h5, h6, h7⟩ := h
  exact ⟨n, c, h1, Nat.lt_of_lt_of_le h2 hk.size, hk.cell h3 hp hq, (hk.frozen (x := ⟨p, 0, none⟩) h2 hp hq).trans h4, h5, h6.kept hk ha, h7⟩

/-- A method of the object answers the object itself, behind which l lies. -/
def WrGives (e : TypeId) (base p : Nat) (a : Option Addr) (l : List Int) (w : World) (en : Ending) (w' : World) : Prop :=
  en = .returned (.pointer (some ⟨p, 0, none⟩)) ∧ ∃ a', Wr e base p a' l w' ∧ Kept p a w w' ∧ Near a a' w
theorem WrGives.early {e : TypeId} {base p : Nat} {a : Option Addr} {l : List Int} {w w1 w2 : World} {en : Ending} (h : WrGives e base p a l w1 en w2) (hb : Below w.heap.size w w1) : WrGives e base p a l w en w2 := by
  obtain ⟨rfl, a', h1, h2, h3⟩ := h
  exact ⟨rfl, a', h1, (Kept.of hb).trans (Near.refl _ _) h2, h3.early hb.size⟩
theorem WrGives.later {e : TypeId} {base p : Nat} {a a1 : Option Addr} {l : List Int} {w w1 w2 : World} {en : Ending} (h : WrGives e base p a1 l w1 en w2) (hk : Kept p a w w1) (hn : Near a a1 w) : WrGives e base p a l w en w2 := by
  obtain ⟨rfl, a', h1, h2, h3⟩ := h
  exact ⟨rfl, a', h1, hk.trans hn h2, hn.trans h3 hk.size⟩

/-- A string's bytes. -/
def strBytes (s : ByteArray) : List Int := s.data.toList.map fun b => (b.toNat : Int)
theorem strBytes_len (s : ByteArray) : (strBytes s).length = s.size := by simp [strBytes]
theorem strBytes_bytes (s : ByteArray) : IsBytes (strBytes s) := fun x hx => by
  simp only [strBytes, List.mem_map] at hx
  obtain ⟨b, -, rfl⟩ := hx
  have := b.toNat_lt
  omega
theorem bytesWorld_below (w : World) (e : TypeId) (s : ByteArray) : Below w.heap.size w (Lib.bytesWorld w e s) :=
  ⟨rfl, rfl, rfl, by rw [Lib.bytesWorld_size]; omega, fun k hk => Lib.bytesWorld_at_old w e s k hk⟩
theorem bytesWorld_reads (w : World) (e : TypeId) (s : ByteArray) : Reads (Lib.bytesWorld w e s) (some ⟨w.heap.size, 0, none⟩) ((strBytes s).map (Value.int .u8)) := fun i v hv => by
  have hi : i < s.size := by
    have := (List.getElem?_eq_some_iff.1 hv).1
    simpa [strBytes] using this
  refine ⟨w.heap.size, 0, rfl, ?_⟩
  rw [Nat.zero_add, Lib.bytesWorld_cell w e s i hi, ← hv]
  have hi' : i < s.data.toList.length := by simpa using hi
  simp [strBytes, List.getD, List.getElem?_eq_getElem hi']

/-- 'string(b)' where b's bytes are a string's. -/
theorem run_string_of {P : Program} (w : World) (src dst e : TypeId) (a : Option Addr) (n c : Nat) (s : ByteArray) (hs : P.underlying src = some (.slice e)) (he : P.underlying e = some (.int .u8)) (hd : P.underlying dst = some .string)
    (ha : Reads w a ((strBytes s).map (Value.int .u8))) (hn : s.size = n) (hh : ∃ x, a = some x) : (convert src dst (.slice a n c)).run P w = .ok (.string s) w := by
  obtain ⟨x, rfl⟩ := hh
  have h := run_convert_bytes_back (P := P) w src dst e x c s.data.toList hs he hd (fun j hj => by
    have hv : ((strBytes s).map (Value.int .u8))[j]? = some (.int .u8 (s.data.toList[j].toNat : Int)) := by simp [strBytes, List.getElem?_eq_getElem hj]
    obtain ⟨b, off, hb, hc⟩ := ha j _ hv
    cases hb
    have hA : (⟨b, off, none⟩ : Addr).add j = ⟨b, off + j, none⟩ := by
      by_cases h0 : j = 0
      · subst h0; simp [Addr.add]
      · simp [Addr.add, h0]
    rw [hA]
    exact hc)
  have hl : s.data.toList.length = n := by simpa using hn
  rw [hl] at h
  simpa using h
end Go.Proofs.Ytfdiomghoheljaa
