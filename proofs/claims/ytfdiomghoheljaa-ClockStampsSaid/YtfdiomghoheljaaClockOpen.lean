/- How steps and stamps as arguments are opened. -/
import Derived.Test.YtfdiomghoheljaaClockLaw2
import Derived.Test.YtfdiomghoheljaaOpen
namespace Go.Proofs.Ytfdiomghoheljaa
open Go.ChangeShapes Go.WideShapes Go.ChangeAt Go.RowKit
set_option linter.unusedVariables false

instance : Inhabited StepN := ⟨⟨0, 0, ⟨0, 0, 0⟩⟩⟩

theorem wf_i64 {n : Int} (h : (Lit.int .i64 n).wf = true) : -9223372036854775808 ≤ n ∧ n ≤ 9223372036854775807 := by
  have h2 : IntKind.i64.min ≤ n ∧ n ≤ IntKind.i64.max := by simpa [Lit.wf] using h
  exact h2

theorem leaves_step {l : List Value} (q0 : leavesOk [.num .i64, .num .i64, .num .i64, .num .i64, .num .i64] l) : ∃ x : StepN, l = encT x ∧ FitS x := by
  obtain ⟨v0, l0, e0, ⟨a, rfl, z0⟩, q1⟩ := leaves_cons q0
  obtain ⟨v1, l1, e1, ⟨b, rfl, z1⟩, q2⟩ := leaves_cons q1
  obtain ⟨v2, l2, e2, ⟨c, rfl, z2⟩, q3⟩ := leaves_cons q2
  obtain ⟨v3, l3, e3, ⟨d, rfl, z3⟩, q4⟩ := leaves_cons q3
  obtain ⟨v4, l4, e4, ⟨e, rfl, z4⟩, q5⟩ := leaves_cons q4
  have e5 := leaves_nil q5
  subst e5 e4 e3 e2 e1 e0
  exact ⟨⟨a, b, ⟨c, d, e⟩⟩, rfl, wf_i64 z1, wf_i64 z2, wf_i64 z3, wf_i64 z4⟩

set_option maxRecDepth 100000 in
theorem open_steps {H : Type} {enc : TypeId × Value → H} {w : World} {r : Reach} {b0 : Nat} {v : Value} {d : DataW H} {p : List MemPlace} (hv : Value.okWide Try.prog w r b0 22 v) (h : DataW.Trod enc Try.prog w 0 (fun _ => true) true 22 v d p) :
    ∃ a len cap, ∃ Q : List StepN, v = .slice a len cap ∧ RowOf encT 5 w a len cap Q ∧ ∀ x ∈ Q, FitS x :=
  open_rows_of encT FitS 5 6 [.num .i64, .num .i64, .num .i64, .num .i64, .num .i64] Try.underlying22 (by kernel_rfl) (by decide) (by kernel_rfl) (fun cs h => leaves_step h) hv h

theorem leaves_stamp {l : List Value} (q0 : leavesOk [.num .i64, .num .i64, .num .i64] l) : ∃ x : StampN, l = [.int .i64 x.wall, .int .i64 x.count, .int .i64 x.dev] ∧ FitT x := by
  obtain ⟨v0, l0, e0, ⟨a, rfl, z0⟩, q1⟩ := leaves_cons q0
  obtain ⟨v1, l1, e1, ⟨b, rfl, z1⟩, q2⟩ := leaves_cons q1
  obtain ⟨v2, l2, e2, ⟨c, rfl, z2⟩, q3⟩ := leaves_cons q2
  have e3 := leaves_nil q3
  subst e3 e2 e1 e0
  exact ⟨⟨a, b, c⟩, rfl, wf_i64 z0, wf_i64 z1, wf_i64 z2⟩

set_option maxRecDepth 100000 in
theorem open_stampX {H : Type} {enc : TypeId × Value → H} {w : World} {r : Reach} {b0 : Nat} {v : Value} {d : DataW H} {p : List MemPlace} (hv : Value.okWide Try.prog w r b0 29 v) (h : DataW.Trod enc Try.prog w 0 (fun _ => true) true 29 v d p) :
    ∃ x : StampN, v = valT x ∧ FitT x := by
  obtain ⟨cs, rfl, hl⟩ := open_flat 4 [.num .i64, .num .i64, .num .i64] Try.underlying29 (by kernel_rfl) hv h
  obtain ⟨x, h1, h2⟩ := leaves_stamp hl
  refine ⟨x, ?_, h2⟩
  have : cs = #[.int .i64 x.wall, .int .i64 x.count, .int .i64 x.dev] := Array.toList_inj.mp h1
  rw [this]
  rfl

/-- A slice of bytes, opened: what it holds, and that its row lies in a block that is there. -/
theorem open_bytesB {H : Type} {enc : TypeId × Value → H} {P : Program} {w : World} {r : Reach} {b0 : Nat} {t e : TypeId} {v : Value} {d : DataW H} {p : List MemPlace}
    (ht : P.underlying t = some (.slice e)) (he : P.underlying e = some (.int .u8)) (hc : P.cellsOf e = 1) (hv : Value.okWide P w r b0 t v) (h : DataW.Trod enc P w 0 (fun _ => true) true t v d p) :
    ∃ a n c z, v = .slice a n c ∧ IsRow .u8 w a n c z ∧ ∀ x, a = some x → x.block < w.heap.size := by
  obtain ⟨a, n, c, rfl⟩ := okWide_slice ht hv
  have hB : ∀ x, a = some x → x.block < w.heap.size := by
    rintro x rfl
    simp only [Value.okWide, ht, Cell.okWide, Cell.ok] at hv
    obtain ⟨-, -, -, -, row, cells, hs, -⟩ := hv
    rcases Nat.lt_or_ge x.block w.heap.size with h1 | h1
    · exact h1
    · simp [World.shape?, Array.getElem?_eq_none h1] at hs
  obtain ⟨fuel, hf⟩ := h
  rcases open_ints ht he hc hf with ⟨hcs, _⟩ | ⟨x, l, cc, zs, hcs, _, hl, hm, hz, _, hcell, hwz⟩
  · simp [Value.cells] at hcs
    obtain ⟨rfl, rfl, rfl⟩ := hcs
    exact ⟨_, _, _, [], rfl, .inl ⟨rfl, rfl, rfl, rfl⟩, hB⟩
  · simp [Value.cells] at hcs
    obtain ⟨rfl, rfl, rfl⟩ := hcs
    exact ⟨_, _, _, zs, rfl, .inr ⟨_, rfl, hl, hm, by simpa using hz, hcell, hwz⟩, hB⟩
end Go.Proofs.Ytfdiomghoheljaa
