/- How a request as an argument is opened. -/
import Derived.Test.YtjocnhkapiiblaaDoorLibAA
namespace Go.Proofs.YtjocnhkapiiblaaDoor
open Go.ChangeShapes Go.WideShapes Go.ChangeAt Go.RowKit
set_option linter.unusedVariables false

theorem open_req {H : Type} {enc : TypeId × Value → H} {w : World} {base : Nat} {held : Bool} {r : Reach} {b0 : Nat} {v : Value} {d : DataW H} {p : List MemPlace} (hv : Value.okWide Tryd.prog w r b0 36 v) (h : DataW.Trod enc Tryd.prog w base (fun _ => true) held 36 v d p) :
    ∃ (a b : List UInt8) (c e : Bool), v = .agg #[.string (str a), .string (str b), .bool c, .bool e] ∧ (str a).size ≤ maxLen ∧ (str b).size ≤ maxLen := by
  obtain ⟨cs, rfl, -⟩ := okWide_struct Tryd.underlying36 hv
  obtain ⟨fuel, hf⟩ := h
  obtain ⟨hlen, n, hg⟩ := fields_of Tryd.underlying36 (by kernel_rfl) (by kernel_rfl) hf
  obtain ⟨v0, v1, v2, v3, hcs⟩ : ∃ v0 v1 v2 v3, (Value.agg cs).cells.toList = [v0, v1, v2, v3] := by
    match (Value.agg cs).cells.toList, hlen with
    | [v0, v1, v2, v3], _ => exact ⟨v0, v1, v2, v3, rfl⟩
  rw [hcs] at hg
  obtain ⟨y0, g0⟩ := hg 0 _ v0 rfl rfl
  obtain ⟨y1, g1⟩ := hg 1 _ v1 rfl rfl
  obtain ⟨y2, g2⟩ := hg 2 _ v2 rfl rfl
  obtain ⟨y3, g3⟩ := hg 3 _ v3 rfl rfl
  obtain ⟨s0, e0, -, w0⟩ := DataW.trod_string Tryd.underlying9 g0
  obtain ⟨s1, e1, -, w1⟩ := DataW.trod_string Tryd.underlying9 g1
  obtain ⟨c2, e2, -⟩ := DataW.trod_bool Tryd.underlying4 g2
  obtain ⟨c3, e3, -⟩ := DataW.trod_bool Tryd.underlying4 g3
  cases e0
  cases e1
  cases e2
  cases e3
  refine ⟨s0.data.toList, s1.data.toList, c2, c3, ?_, by rw [← str_of]; exact w0, by rw [← str_of]; exact w1⟩
  rw [← str_of, ← str_of]
  have : cs = #[.string s0, .string s1, .bool c2, .bool c3] := by
    apply Array.toList_inj.mp
    simpa [Value.cells] using hcs
  rw [this]
end Go.Proofs.YtjocnhkapiiblaaDoor
