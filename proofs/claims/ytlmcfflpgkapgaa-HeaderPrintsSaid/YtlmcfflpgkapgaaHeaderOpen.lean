/- How pairs of texts as arguments are opened. -/
import Derived.Test.YtlmcfflpgkapgaaHeaderRef
import Derived.Test.YtlmcfflpgkapgaaOpen
namespace Go.Proofs.Ytlmcfflpgkapgaa
open Go.ChangeShapes Go.WideShapes Go.ChangeAt Go.RowKit
set_option linter.unusedVariables false

theorem leaves_two {cs : List Value} (h : leavesOk [.text, .text] cs) : ∃ x : List UInt8 × List UInt8, cs = encP x ∧ x.1.length ≤ maxLen ∧ x.2.length ≤ maxLen := by
  match cs, h with
  | [v0, v1], h =>
    obtain ⟨⟨a, rfl, ha⟩, ⟨b, rfl, hb⟩, -⟩ := h
    exact ⟨(a, b), rfl, ha, hb⟩

theorem open_pairs {H : Type} {enc : TypeId × Value → H} {w : World} {r : Reach} {b0 : Nat} {v : Value} {d : DataW H} {p : List MemPlace} (hv : Value.okWide Try.prog w r b0 30 v) (h : DataW.Trod enc Try.prog w 0 (fun _ => true) true 30 v d p) :
    ∃ a len cap, ∃ Q : List (List UInt8 × List UInt8), v = .slice a len cap ∧ RowOf encP 2 w a len cap Q ∧ ∀ x ∈ Q, x.1.length ≤ maxLen ∧ x.2.length ≤ maxLen :=
  open_rows_of encP (fun x => x.1.length ≤ maxLen ∧ x.2.length ≤ maxLen) 2 3 [.text, .text] Try.underlying30 (by kernel_rfl) (by decide) (by kernel_rfl) (fun cs h => leaves_two h) hv h

theorem open_pair {H : Type} {enc : TypeId × Value → H} {w : World} {r : Reach} {b0 : Nat} {v : Value} {d : DataW H} {p : List MemPlace} (hv : Value.okWide Try.prog w r b0 29 v) (h : DataW.Trod enc Try.prog w 0 (fun _ => true) true 29 v d p) :
    ∃ a b : List UInt8, v = .agg #[.string (str a), .string (str b)] ∧ (str a).size ≤ maxLen ∧ (str b).size ≤ maxLen := by
  obtain ⟨cs, rfl, hl⟩ := open_flat 3 [.text, .text] Try.underlying29 (by kernel_rfl) hv h
  obtain ⟨⟨a, b⟩, h1, h2, h3⟩ := leaves_two hl
  refine ⟨a, b, ?_, by rw [str_size]; exact h2, by rw [str_size]; exact h3⟩
  have : cs = #[.string (str a), .string (str b)] := Array.toList_inj.mp h1
  rw [this]
end Go.Proofs.Ytlmcfflpgkapgaa
