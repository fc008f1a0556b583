/- How the parts of layer 5's laws are opened. -/
import Derived.Test.YthfonmceggmjgaaPackPart
import Derived.Test.YthfonmceggmjgaaFields
namespace Go.Proofs.Ythfonmceggmjgaa
open Go.ChangeShapes Go.WideShapes Go.RowKit
set_option linter.unusedVariables false

theorem five {l : List Value} (h : l.length = 5) : ∃ v0 v1 v2 v3 v4, l = [v0, v1, v2, v3, v4] := by
  match l, h with
  | [v0, v1, v2, v3, v4], _ => exact ⟨v0, v1, v2, v3, v4, rfl⟩

section
variable {H : Type} {enc : TypeId × Value → H} {w : World} {base : Nat} {held : Bool}
theorem part_of {fuel : Nat} {cs : List Value} {x : DataW H × List MemPlace} (h : DataW.trod enc Try.prog w base (fun _ => true) held fuel 34 cs = some x) : ∃ q : Part, cs = q.cells.toList ∧ q.ok w := by
  obtain ⟨hlen, n, hf⟩ := fields_of Try.underlying34 (by kernel_rfl) (by kernel_rfl) h
  obtain ⟨v0, v1, v2, v3, v4, rfl⟩ := five hlen
  obtain ⟨y0, g0⟩ := hf 0 _ v0 rfl rfl
  obtain ⟨y1, g1⟩ := hf 1 _ v1 rfl rfl
  obtain ⟨y2, g2⟩ := hf 2 _ v2 rfl rfl
  obtain ⟨y3, g3⟩ := hf 3 _ v3 rfl rfl
  obtain ⟨y4, g4⟩ := hf 4 _ v4 rfl rfl
  obtain ⟨K, e0, -, wk⟩ := DataW.trod_int Try.underlying3 g0
  obtain ⟨N, e1, -, wn⟩ := DataW.trod_int Try.underlying31 g1
  obtain ⟨S, e2, -, ws⟩ := DataW.trod_string Try.underlying9 g2
  obtain ⟨A, L, C, F, e3, f1, f2, f3, f4, f5⟩ := flags_of Try.underlying32 Try.underlying4 (by kernel_rfl) g3
  obtain ⟨M, e4, -, wm⟩ := DataW.trod_int Try.underlying3 g4
  cases e0
  cases e1
  cases e2
  cases e4
  subst e3
  have hk := wfI64 wk
  have hn := wfU64 wn
  have hm := wfI64 wm
  obtain ⟨N', rfl⟩ := Int.eq_ofNat_of_zero_le hn.1
  exact ⟨⟨K, N', S, A, L, C, M, F⟩, rfl, ⟨by dsimp only; omega, hk.1, hk.2, hm.1, hm.2, ws, f1, f2, f3, f4, f5⟩⟩

theorem open_part {r : Reach} {b0 : Nat} {v : Value} {d : DataW H} {p : List MemPlace} (hv : Value.okWide Try.prog w r b0 34 v) (h : DataW.Trod enc Try.prog w base (fun _ => true) held 34 v d p) :
    ∃ q : Part, v = .agg q.cells ∧ q.ok w := by
  obtain ⟨cs, rfl, -⟩ := okWide_struct Try.underlying34 hv
  obtain ⟨fuel, hf⟩ := h
  obtain ⟨q, hq, hok⟩ := part_of hf
  refine ⟨q, ?_, hok⟩
  have : cs = q.cells := by
    apply Array.toList_inj.mp
    simpa [Value.cells] using hq
  rw [this]

theorem open_parts {r : Reach} {b0 : Nat} {v : Value} {d : DataW H} {p : List MemPlace} (hv : Value.okWide Try.prog w r b0 22 v) (h : DataW.Trod enc Try.prog w base (fun _ => true) held 22 v d p) :
    ∃ a len cap Q, v = .slice a len cap ∧ IsParts w a len cap Q := by
  obtain ⟨a, len, cap, rfl⟩ := okWide_slice Try.underlying22 hv
  obtain ⟨fuel, hf⟩ := h
  obtain ⟨a', len', cap', n, hcs, h1, h2, h3, hall⟩ := elems_of 5 Try.underlying22 (by kernel_rfl) (by decide) hf
  simp [Value.cells] at hcs
  obtain ⟨rfl, rfl, rfl⟩ := hcs
  have hq : ∀ i, ∃ q : Part, i < len → ∃ b off, a = some ⟨b, off, none⟩ ∧ w.cell? ⟨b, off + i * 5, none⟩ = some (.int .i64 q.K) ∧ w.cell? ⟨b, off + i * 5 + 1, none⟩ = some (.int .u64 (q.N : Int)) ∧
      w.cell? ⟨b, off + i * 5 + 2, none⟩ = some (.string q.S) ∧ w.cell? ⟨b, off + i * 5 + 3, none⟩ = some (.slice q.A q.L q.C) ∧ w.cell? ⟨b, off + i * 5 + 4, none⟩ = some (.int .i64 q.M) ∧ q.ok w := fun i => by
    by_cases hi : i < len
    · obtain ⟨b, off, cs', y, ha, hl, hc, hy⟩ := hall i hi
      obtain ⟨q, rfl, hok⟩ := part_of hy
      exact ⟨q, fun _ => ⟨b, off, ha, hc 0 _ rfl, hc 1 _ rfl, hc 2 _ rfl, hc 3 _ rfl, hc 4 _ rfl, hok⟩⟩
    · exact ⟨⟨0, 0, ByteArray.empty, none, 0, 0, 0, []⟩, fun h => absurd h hi⟩
  exact ⟨a, len, cap, fun i => Classical.choose (hq i), rfl, h1, h2, h3, fun i hi => Classical.choose_spec (hq i) hi⟩
end
end Go.Proofs.Ythfonmceggmjgaa
