/- Contracts and plain words that the laws' proofs stand on, put together. -/
import Derived.Test.YtelgaglnmcggkaaGreatDoorLibAD
import Derived.Test.YtelgaglnmcggkaaGreatDoorLibAA
import Derived.Lib.LazyBuf
import Derived.Test.YtelgaglnmcggkaaGreatDoorLibAB
import Derived.BigRegion
/- What is packed of flags: plain, with no program in it. -/
namespace Go.Proofs.YtelgaglnmcggkaaGreatDoor
open Go.RowKit
set_option linter.unusedVariables false

/-- Flags as a number, the first one the lowest bit. -/
def flagSum : List Bool → Nat
  | [] => 0
  | b :: r => (if b then 1 else 0) + 2 * flagSum r
theorem flagSum_snoc : ∀ (l : List Bool) (b : Bool), flagSum (l ++ [b]) = flagSum l + (if b then 2 ^ l.length else 0)
  | [], b => by simp [flagSum]
  | c :: r, b => by
    simp only [List.cons_append, flagSum, flagSum_snoc r b, List.length_cons, Nat.pow_succ]
    cases b <;> simp <;> omega
theorem flagSum_lt : ∀ l : List Bool, flagSum l < 2 ^ l.length
  | [] => by simp [flagSum]
  | c :: r => by
    have := flagSum_lt r
    simp only [flagSum, List.length_cons, Nat.pow_succ]
    cases c <;> simp <;> omega
theorem flagSum_bit : ∀ (l : List Bool) (k : Nat), flagSum l / 2 ^ k % 2 = if l.getD k false then 1 else 0
  | [], k => by simp [flagSum]
  | c :: r, 0 => by
    simp only [flagSum, Nat.pow_zero, Nat.div_one, List.getD_cons_zero]
    cases c <;> simp <;> omega
  | c :: r, k + 1 => by
    have h := flagSum_bit r k
    have e : flagSum (c :: r) / 2 ^ (k + 1) = flagSum r / 2 ^ k := by
      rw [Nat.pow_succ, Nat.mul_comm (2 ^ k) 2, ← Nat.div_div_eq_div_mul]
      congr 1
      simp only [flagSum]
      cases c <;> simp <;> omega
    rw [e, h]
    rfl
theorem flagSum_take (f : List Bool) (k : Nat) (h : k < f.length) : flagSum (f.take (k + 1)) = flagSum (f.take k) + (if f.getD k false then 2 ^ k else 0) := by
  have e : f.take (k + 1) = f.take k ++ [f.getD k false] := by
    rw [List.take_add_one, List.getElem?_eq_getElem h, List.getD_eq_getElem?_getD, List.getElem?_eq_getElem h]
    rfl
  have hl : (f.take k).length = k := by rw [List.length_take]; omega
  rw [e, flagSum_snoc, hl]
theorem flagSum_take_lt (f : List Bool) (k : Nat) : flagSum (f.take k) < 2 ^ k :=
  Nat.lt_of_lt_of_le (flagSum_lt _) (Nat.pow_le_pow_right (by decide) (by rw [List.length_take]; omega))
theorem pow8_le (k : Nat) (h : k ≤ 8) : 2 ^ k ≤ 256 := by
  have := Nat.pow_le_pow_right (n := 2) (by decide) h
  omega
/-- 'x |= 1 << k'. -/
theorem orFlag (x k : Nat) (hk : k < 8) (hx : x < 2 ^ k) : bits BinOp.or IntKind.u8 (x : Int) (((2 ^ k : Nat) : Int)) = ((x + 2 ^ k : Nat) : Int) := by
  have h2 : 2 ^ k < 256 := by
    have := Nat.pow_le_pow_right (n := 2) (by decide) (show k ≤ 7 by omega)
    omega
  rw [u8_or_nat x (2 ^ k) (by omega) h2, Nat.or_comm]
  have := Nat.two_pow_add_eq_or_of_lt hx 1
  simp only [Nat.mul_one] at this
  omega
end Go.Proofs.YtelgaglnmcggkaaGreatDoor

/- Contracts of layer 5's writer. -/
namespace Go.Proofs.YtelgaglnmcggkaaGreatDoor
open Go.RowKit
set_option linter.unusedVariables false

/-- What is packed of a text. -/
def textBytes (s : ByteArray) : List Int := short s.size ++ strBytes s

end Go.Proofs.YtelgaglnmcggkaaGreatDoor

/- Contracts of layer 5's reader. -/
namespace Go.Proofs.YtelgaglnmcggkaaGreatDoor
open Go.RowKit
set_option linter.unusedVariables false

/-- A reader at block p, without an error, in front of the bytes l. -/
def Rd (p : Nat) (l : List Int) (w : World) : Prop :=
  ∃ a n c, p < w.heap.size ∧ w.cell? ⟨p, 0, none⟩ = some (.slice a n c) ∧ w.cell? ⟨p, 1, none⟩ = some (.int .i64 0) ∧ w.frozen? ⟨p, 0, none⟩ = false ∧ Reads w a (l.map (Value.int .u8)) ∧ l.length = n ∧ n ≤ c ∧ c ≤ maxLen ∧ (a = none → c = 0) ∧ Apart a p
theorem Rd.lt {p : Nat} {l : List Int} {w : World} (h : Rd p l w) : p < w.heap.size := h.choose_spec.choose_spec.choose_spec.1
theorem Rd.below {p : Nat} {l : List Int} {w w' : World} (h : Rd p l w) (hb : Below w.heap.size w w') : Rd p l w' := by
  obtain ⟨a, n, c, h1, h2, h3, h4, h5, h6⟩ := h
  exact ⟨a, n, c, Nat.lt_of_lt_of_le h1 hb.size, (hb.cell (p := ⟨p, 0, none⟩) h1).trans h2, (hb.cell (p := ⟨p, 1, none⟩) h1).trans h3, (hb.frozen (p := ⟨p, 0, none⟩) h1).trans h4, h5.below' hb, h6⟩
theorem Rd.drewN {p : Nat} {l : List Int} {w : World} (h : Rd p l w) (d : Nat) : Rd p l (w.drewN d) := by
  obtain ⟨a, n, c, h1, h2, h3, h4, h5, h6⟩ := h
  exact ⟨a, n, c, by simpa using h1, by simpa using h2, by simpa using h3, by simpa using h4, h5.drewN d, h6⟩
/-- It went on: what is left is another slice. -/
theorem Rd.heap {p : Nat} {l : List Int} {w w' : World} (h : Rd p l w) (e : w'.heap = w.heap) : Rd p l w' := by
  obtain ⟨a, n, c, h1, h2, h3, h4, h5, h6⟩ := h
  have hc : ∀ y, w'.cell? y = w.cell? y := fun y => World.cell?_of_block (by rw [e])
  have hf : ∀ y, w'.frozen? y = w.frozen? y := fun y => World.frozen?_of_block (by rw [e])
  exact ⟨a, n, c, by rw [e]; exact h1, (hc _).trans h2, (hc _).trans h3, (hf _).trans h4, h5.same hc, h6⟩
theorem Rd.step {p : Nat} {l r : List Int} {w : World} {a : Option Addr} {n c : Nat} (h : Rd p l w) (hr : Reads w a (r.map (Value.int .u8))) (hn : r.length = n) (hc : n ≤ c) (hm : c ≤ maxLen) (h0 : a = none → c = 0) (ha : Apart a p) :
    Rd p r (w.setCell ⟨p, 0, none⟩ (.slice a n c)) := by
  obtain ⟨a', n', c', h1, h2, h3, h4, -⟩ := h
  refine ⟨a, n, c, by simpa using h1, World.cell?_setCell_same w ⟨p, 0, none⟩ _ h2, ?_, by rw [World.frozen?_setCell]; exact h4, ?_, hn, hc, hm, h0, ha⟩
  · rw [World.cell?_setCell_other _ _ _ _ (by intro h; cases h)]; exact h3
  · intro i v hv
    obtain ⟨b, off, hb, hcell⟩ := hr i v hv
    refine ⟨b, off, hb, ?_⟩
    have hne : b ≠ p := ha _ hb
    rw [World.cell?_setCell_other _ _ _ _ (fun h => hne (congrArg Addr.block h).symm)]
    exact hcell

/-- A method of the reader answers v, and what is left is l. -/
def RdGives (p : Nat) (v : Value) (l : List Int) (w : World) (en : Ending) (w' : World) : Prop := en = .returned v ∧ Rd p l w' ∧ Kept p none w w'
theorem RdGives.early {p : Nat} {v : Value} {l : List Int} {w w1 w2 : World} {en : Ending} (h : RdGives p v l w1 en w2) (hb : Below w.heap.size w w1) : RdGives p v l w en w2 :=
  ⟨h.1, h.2.1, (Kept.of hb).trans (Near.refl _ _) h.2.2⟩

end Go.Proofs.YtelgaglnmcggkaaGreatDoor

/- The parts of layer 5's laws: what a walk is told of them; the laws' helpers. -/
namespace Go.Proofs.YtelgaglnmcggkaaGreatDoor
open Go.RowKit
set_option linter.unusedVariables false

/-- A part: what kind, its number, its text, its flags, what is asked at most. -/
structure Part where
  K : Int
  N : Nat
  S : ByteArray
  A : Option Addr
  L : Nat
  C : Nat
  M : Int
  F : List Bool
def Part.cells (q : Part) : Array Value := #[.int .i64 q.K, .int .u64 (q.N : Int), .string q.S, .slice q.A q.L q.C, .int .i64 q.M]
structure Part.ok (q : Part) (w : World) : Prop where
  n1 : q.N ≤ 18446744073709551615
  k0 : -9223372036854775808 ≤ q.K
  k1 : q.K ≤ 9223372036854775807
  m0 : -9223372036854775808 ≤ q.M
  m1 : q.M ≤ 9223372036854775807
  s1 : q.S.size ≤ maxLen
  fl : q.F.length = q.L
  lc : q.L ≤ q.C
  cm : q.C ≤ maxLen
  nil : q.A = none → q.C = 0
  rd : Reads w q.A (q.F.map Value.bool)
theorem Part.ok.below {q : Part} {w w' : World} (h : q.ok w) (hb : Below w.heap.size w w') : q.ok w' := { h with rd := h.rd.below' hb }

/-- A slice of parts that came in. -/
def IsParts (w : World) (a : Option Addr) (len cap : Nat) (Q : Nat → Part) : Prop :=
  len ≤ cap ∧ cap ≤ maxLen ∧ (a = none → cap = 0) ∧ ∀ r, r < len → ∃ b off, a = some ⟨b, off, none⟩ ∧ w.cell? ⟨b, off + r * 5, none⟩ = some (.int .i64 (Q r).K) ∧ w.cell? ⟨b, off + r * 5 + 1, none⟩ = some (.int .u64 ((Q r).N : Int)) ∧
    w.cell? ⟨b, off + r * 5 + 2, none⟩ = some (.string (Q r).S) ∧ w.cell? ⟨b, off + r * 5 + 3, none⟩ = some (.slice (Q r).A (Q r).L (Q r).C) ∧ w.cell? ⟨b, off + r * 5 + 4, none⟩ = some (.int .i64 (Q r).M) ∧ (Q r).ok w

/-- A number as a whole number with a sign. -/
def toI64 (n : Nat) : Int := ((n : Int) + 9223372036854775808) % 18446744073709551616 - 9223372036854775808
theorem toI64_eq (n : Nat) : wrap64 (n : Int) = toI64 n := by
  unfold toI64 wrap64
  omega
theorem toI64_range (n : Nat) : -9223372036854775808 ≤ toI64 n ∧ toI64 n ≤ 9223372036854775807 := by
  unfold toI64
  omega
theorem toI64_fold (n : Nat) : ∃ X : Nat, foldI (toI64 n) = (X : Int) ∧ X ≤ 18446744073709551615 := by
  have h := toI64_range n
  generalize toI64 n = m at h ⊢
  have hf := foldI_le m h.1 h.2
  obtain ⟨X, hX⟩ := Int.eq_ofNat_of_zero_le hf.1
  exact ⟨X, hX, by omega⟩

/-- What is packed of a part. -/
def Part.bytes (q : Part) : List Int :=
  if q.K = 1 then short q.N else if q.K = 2 then short (foldI (toI64 q.N)).toNat else if q.K = 3 then textBytes q.S else if q.K = 4 then [(flagSum (q.F.take 8) : Int)] else []

theorem IsParts.below {w w' : World} {a : Option Addr} {n c : Nat} {Q : Nat → Part} (h : IsParts w a n c Q) (hb : Below w.heap.size w w') : IsParts w' a n c Q := by
  obtain ⟨h1, h2, h3, h4⟩ := h
  refine ⟨h1, h2, h3, fun r hr => ?_⟩
  obtain ⟨b, off, ha, d0, d1, d2, d3, d4, hok⟩ := h4 r hr
  exact ⟨b, off, ha, (hb.cell (cell_lt d0)).trans d0, (hb.cell (cell_lt d1)).trans d1, (hb.cell (cell_lt d2)).trans d2, (hb.cell (cell_lt d3)).trans d3, (hb.cell (cell_lt d4)).trans d4, hok.below hb⟩
theorem Wr.grown {e : TypeId} {base p : Nat} {a q : Option Addr} {l : List Int} {w w' : World} (h : Wr e base p a l w) (hb : Below base w w') (hg : GrownBut w w' q) (hq : Away q p a) : Wr e base p a l w' := by
  refine h.kept (p' := w.heap.size) (Kept.grown hb hg) (by have := h.lt.2; omega) (fun x hx => (hq x hx).1) (fun x hx => ⟨by have := (h.row x hx).2.1; omega, fun y hy => ?_⟩)
  exact fun e => (hq y hy).2 x hx e.symm
/-- What is packed of the first k parts. -/
def bytesTo (Q : Nat → Part) : Nat → List Int
  | 0 => []
  | k + 1 => bytesTo Q k ++ (Q k).bytes
theorem Part.bytes_len (q : Part) (h : q.S.size ≤ 300) (hN : q.N ≤ 18446744073709551615) : q.bytes.length ≤ 320 := by
  unfold Part.bytes
  split
  · have := short_ten q.N hN
    omega
  · split
    · obtain ⟨X, hX, hX1⟩ := toI64_fold q.N
      rw [hX, Int.toNat_natCast]
      have := short_ten X hX1
      omega
    · split
      · unfold textBytes
        have := short_ten q.S.size (by omega)
        rw [List.length_append, strBytes_len]
        omega
      · split
        · simp
        · simp
theorem Part.bytes_bytes (q : Part) (hN : q.N ≤ 18446744073709551615) : IsBytes q.bytes := by
  unfold Part.bytes
  split
  · exact short_bytes _
  · split
    · exact short_bytes _
    · split
      · unfold textBytes
        intro x hx
        rcases List.mem_append.mp hx with h | h
        · exact short_bytes _ x h
        · exact strBytes_bytes _ x h
      · split
        · intro x hx
          have := flagSum_take_lt q.F 8
          simp only [List.mem_singleton] at hx
          omega
        · intro x hx; cases hx
end Go.Proofs.YtelgaglnmcggkaaGreatDoor
