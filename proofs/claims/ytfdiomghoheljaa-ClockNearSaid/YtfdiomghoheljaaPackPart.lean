/- The parts of layer 5's laws: what a walk is told of them; the laws' helpers. -/
import Derived.Test.YtfdiomghoheljaaPackRead
import Derived.Test.YtfdiomghoheljaaVarLaw2
import Derived.Test.YtfdiomghoheljaaOpen
import Derived.Test.YtfdiomghoheljaaBitRow
import Derived.BigRegion
namespace Go.Proofs.Ytfdiomghoheljaa
open Go.RowKit
set_option linter.unusedVariables false

/-- A part: what kind, its number, its text, its flags, what is asked at most. -/
structure Part where
  K : Int
  N : Nat
  S : ByteArray
  A : Option Addr
  L : Nat
  C : Nat
  M : Int
  F : List Bool
def Part.cells (q : Part) : Array Value := #[.int .i64 q.K, .int .u64 (q.N : Int), .string q.S, .slice q.A q.L q.C, .int .i64 q.M]
structure Part.ok (q : Part) (w : World) : Prop where
  n1 : q.N ≤ 18446744073709551615
  k0 : -9223372036854775808 ≤ q.K
  k1 : q.K ≤ 9223372036854775807
  m0 : -9223372036854775808 ≤ q.M
  m1 : q.M ≤ 9223372036854775807
  s1 : q.S.size ≤ maxLen
  fl : q.F.length = q.L
  lc : q.L ≤ q.C
  cm : q.C ≤ maxLen
  nil : q.A = none → q.C = 0
  rd : Reads w q.A (q.F.map Value.bool)
theorem Part.ok.below {q : Part} {w w' : World} (h : q.ok w) (hb : Below w.heap.size w w') : q.ok w' := { h with rd := h.rd.below' hb }

/-- A slice of parts that came in. -/
def IsParts (w : World) (a : Option Addr) (len cap : Nat) (Q : Nat → Part) : Prop :=
  len ≤ cap ∧ cap ≤ maxLen ∧ (a = none → cap = 0) ∧ ∀ r, r < len → ∃ b off, a = some ⟨b, off, none⟩ ∧ w.cell? ⟨b, off + r * 5, none⟩ = some (.int .i64 (Q r).K) ∧ w.cell? ⟨b, off + r * 5 + 1, none⟩ = some (.int .u64 ((Q r).N : Int)) ∧
    w.cell? ⟨b, off + r * 5 + 2, none⟩ = some (.string (Q r).S) ∧ w.cell? ⟨b, off + r * 5 + 3, none⟩ = some (.slice (Q r).A (Q r).L (Q r).C) ∧ w.cell? ⟨b, off + r * 5 + 4, none⟩ = some (.int .i64 (Q r).M) ∧ (Q r).ok w

def Light (Q : Nat → Part) (n : Nat) : Prop := n ≤ 30 ∧ ∀ r, r < n → (Q r).S.size ≤ 300 ∧ (Q r).L ≤ 20

theorem refNumC (q : List Int) (N n : Nat) (w : World) (hq : short N = q) (hn : q.length = n) (h : N ≤ 18446744073709551615) :
    Calls Try.prog 43 #[.int .u64 (N : Int)] w (GivesOwned 5 (q.map (Value.int .u8)) n w) := by
  have H := fun w => refPutO q N n w hq hn h
  go_enter Try.func43, Try.ntmps43
  go_wp2_with (go_at_call 51; (with_reducible refine (H _).mono ?_); rintro e w' ⟨a, c, rfl, ho, hb⟩)
  go_ret
  exact ⟨a, c, rfl, ho, hb⟩

theorem owned_one (w : World) (e : TypeId) (x : Value) : Owned w.heap.size e (some ⟨w.heap.size, 0, none⟩) 1 1 [x] (w.alloc (.cells #[x] e)) := by
  have h : (w.alloc (.cells #[x] e)).ownsRow w.heap.size e 1 (.slice (some ⟨w.heap.size, 0, none⟩) 1 1) 1 [x] := World.ownsRow_lit _ #[x] 1 (Nat.le_refl _) (by unfold maxLen; omega) rfl
  obtain ⟨a, c, e1, h1⟩ := owns_open h
  cases e1
  exact ⟨h, h1⟩

/-- A number as a whole number with a sign. -/
def toI64 (n : Nat) : Int := ((n : Int) + 9223372036854775808) % 18446744073709551616 - 9223372036854775808
theorem toI64_eq (n : Nat) : wrap64 (n : Int) = toI64 n := by
  unfold toI64 wrap64
  omega
theorem toI64_range (n : Nat) : -9223372036854775808 ≤ toI64 n ∧ toI64 n ≤ 9223372036854775807 := by
  unfold toI64
  omega
theorem toI64_fold (n : Nat) : ∃ X : Nat, foldI (toI64 n) = (X : Int) ∧ X ≤ 18446744073709551615 := by
  have h := toI64_range n
  generalize toI64 n = m at h ⊢
  have hf := foldI_le m h.1 h.2
  obtain ⟨X, hX⟩ := Int.eq_ofNat_of_zero_le hf.1
  exact ⟨X, hX, by omega⟩

def PutGives (base p : Nat) (a : Option Addr) (l : List Int) (w : World) (en : Ending) (w' : World) : Prop :=
  en = .returned (.tuple #[]) ∧ ∃ a', Wr 5 base p a' l w' ∧ Kept p a w w' ∧ Near a a' w

/-- What is packed of a part. -/
def Part.bytes (q : Part) : List Int :=
  if q.K = 1 then short q.N else if q.K = 2 then short (foldI (toI64 q.N)).toNat else if q.K = 3 then textBytes q.S else if q.K = 4 then [(flagSum (q.F.take 8) : Int)] else []

theorem IsParts.below {w w' : World} {a : Option Addr} {n c : Nat} {Q : Nat → Part} (h : IsParts w a n c Q) (hb : Below w.heap.size w w') : IsParts w' a n c Q := by
  obtain ⟨h1, h2, h3, h4⟩ := h
  refine ⟨h1, h2, h3, fun r hr => ?_⟩
  obtain ⟨b, off, ha, d0, d1, d2, d3, d4, hok⟩ := h4 r hr
  exact ⟨b, off, ha, (hb.cell (cell_lt d0)).trans d0, (hb.cell (cell_lt d1)).trans d1, (hb.cell (cell_lt d2)).trans d2, (hb.cell (cell_lt d3)).trans d3, (hb.cell (cell_lt d4)).trans d4, hok.below hb⟩
theorem Wr.grown {e : TypeId} {base p : Nat} {a q : Option Addr} {l : List Int} {w w' : World} (h : Wr e base p a l w) (hb : Below base w w') (hg : GrownBut w w' q) (hq : Away q p a) : Wr e base p a l w' := by
  refine h.kept (p' := w.heap.size) (Kept.grown hb hg) (by have := h.lt.2; omega) (fun x hx => (hq x hx).1) (fun x hx => ⟨by have := (h.row x hx).2.1; omega, fun y hy => ?_⟩)
  exact fun e => (hq y hy).2 x hx e.symm
/-- What is packed of the first k parts. -/
def bytesTo (Q : Nat → Part) : Nat → List Int
  | 0 => []
  | k + 1 => bytesTo Q k ++ (Q k).bytes
theorem Part.bytes_len (q : Part) (h : q.S.size ≤ 300) (hN : q.N ≤ 18446744073709551615) : q.bytes.length ≤ 320 := by
  unfold Part.bytes
  split
  · have := short_ten q.N hN
    omega
  · split
    · obtain ⟨X, hX, hX1⟩ := toI64_fold q.N
      rw [hX, Int.toNat_natCast]
      have := short_ten X hX1
      omega
    · split
      · unfold textBytes
        have := short_ten q.S.size (by omega)
        rw [List.length_append, strBytes_len]
        omega
      · split
        · simp
        · simp
theorem Part.bytes_bytes (q : Part) (hN : q.N ≤ 18446744073709551615) : IsBytes q.bytes := by
  unfold Part.bytes
  split
  · exact short_bytes _
  · split
    · exact short_bytes _
    · split
      · unfold textBytes
        intro x hx
        rcases List.mem_append.mp hx with h | h
        · exact short_bytes _ x h
        · exact strBytes_bytes _ x h
      · split
        · intro x hx
          have := flagSum_take_lt q.F 8
          simp only [List.mem_singleton] at hx
          omega
        · intro x hx; cases hx
end Go.Proofs.Ytfdiomghoheljaa
