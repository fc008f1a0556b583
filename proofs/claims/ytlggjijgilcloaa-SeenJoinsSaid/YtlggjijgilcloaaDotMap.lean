/- A round over a map whose keys are dots: its step, and what it has met. -/
import Derived.Test.YtlggjijgilcloaaLibAF
import Derived.Test.YtlggjijgilcloaaLibAG
namespace Go.Proofs.Ytlggjijgilcloaa
open Go.RowKit Go.WideMaps
set_option linter.unusedVariables false

set_option maxRecDepth 100000 in
theorem key_dot_inv {key : Value} {kl : Lit} (h : keyOf Try.prog 26 key = some kl) : ∃ d i c, is64 d ∧ is64 i ∧ is64 c ∧ key = .agg #[.int .i64 d, .int .i64 i, .int .i64 c] ∧ kl = keyD ⟨d, i, c⟩ := by
  obtain ⟨m, hm⟩ : ∃ m, Try.prog.types.size = m + 2 := ⟨Try.prog.types.size - 2, by kernel_rfl⟩
  have hc : Try.prog.cellsOf 26 = 3 := by kernel_rfl
  have hc2 : Try.prog.cellsOf 24 = 2 := by kernel_rfl
  have hc3 : Try.prog.cellsOf 3 = 1 := by kernel_rfl
  have h0 := h
  unfold keyOf at h
  rw [Try.underlying26] at h
  dsimp only at h
  split at h
  case isFalse => cases h
  case isTrue hh =>
    rw [Bool.and_eq_true] at hh
    have hf := hh.2
    cases key
    case agg cs =>
      obtain ⟨l⟩ := cs
      have hs : l.length = 3 := by simpa [Value.formed, Try.underlying26, hc] using hf
      match l, hs with
      | [x, y, z], _ =>
        cases hl : Try.prog.keyLits (Try.prog.types.size + 1) 26 (Value.agg #[x, y, z]).cells.toList with
        | none => rw [hl] at h; cases h
        | some ls =>
          rw [hm] at hl
          have hxy : ∃ d i c, is64 d ∧ is64 i ∧ is64 c ∧ x = .int .i64 d ∧ y = .int .i64 i ∧ z = .int .i64 c := by
            simp only [is64_wf]
            clear h h0 hh hf
            cases x with
            | int q1 n1 =>
              by_cases a1 : q1 = .i64 ∧ (Lit.int .i64 n1).wf = true
              · cases y with
                | int q2 n2 =>
                  by_cases a2 : q2 = .i64 ∧ (Lit.int .i64 n2).wf = true
                  · cases z with
                    | int q3 n3 =>
                      by_cases a3 : q3 = .i64 ∧ (Lit.int .i64 n3).wf = true
                      · exact ⟨n1, n2, n3, a1.2, a2.2, a3.2, by rw [a1.1], by rw [a2.1], by rw [a3.1]⟩
                      · exfalso; simp [Program.keyLits, Value.cells, Try.underlying26, Try.underlying24, Try.underlying3, hc, hc2, hc3, a1, a2, a3] at hl
                    | _ => exfalso; simp [Program.keyLits, Value.cells, Try.underlying26, Try.underlying24, Try.underlying3, hc, hc2, hc3, a1, a2] at hl
                  · exfalso; simp [Program.keyLits, Value.cells, Try.underlying26, Try.underlying24, Try.underlying3, hc, hc2, hc3, a1, a2] at hl
                | _ => exfalso; simp [Program.keyLits, Value.cells, Try.underlying26, Try.underlying24, Try.underlying3, hc, hc2, hc3, a1] at hl
              · exfalso; simp [Program.keyLits, Value.cells, Try.underlying26, Try.underlying24, Try.underlying3, hc, hc2, hc3, a1] at hl
            | _ => exfalso; simp [Program.keyLits, Value.cells, Try.underlying26, Try.underlying24, Try.underlying3, hc, hc2, hc3] at hl
          obtain ⟨d, i, c, hd, hi, hcc, rfl, rfl, rfl⟩ := hxy
          refine ⟨d, i, c, hd, hi, hcc, rfl, ?_⟩
          have h9 := key_dot (x := ⟨d, i, c⟩) ⟨hd, hi, hcc⟩
          dsimp only at h9
          rw [h9] at h0
          exact (Option.some.inj h0).symm
    all_goals simp [Value.formed, Try.underlying26] at hf

/-- The step of a round over a map of dots. -/
theorem wpList_next_dots {P : Program} (hP : P = Try.prog) {w : World} {ops : Array Oper} {rest : List Oper} {o : Oper} {a : Act} {Q : Exit → Act → World → Prop} (hg : o.guard = none) (it : Operand) (hop : o.op = Op.next it false) (b r n : Nat) (D : DataW Unit) (left : Lit → Bool) (cnt : Nat)
    (hit : a.eval it = .pointer (some ⟨r, 0, none⟩)) (h : w.ranges P 26 unitElem b r n D left cnt)
    (hDone : cnt = 0 → (∀ kl, left kl = false) → wpList P ops Q rest (a.put o.dst (.tuple #[.bool false])) w)
    (hMore : ∀ (d i c : Int) (w' : World) (cnt' : Nat), is64 d → is64 i → is64 c → left (keyD ⟨d, i, c⟩) = true → (∀ zd, D.atKey (keyD ⟨d, i, c⟩) zd = .agg []) → w'.ranges P 26 unitElem b r n D (fun z => left z && !z.sameKey (keyD ⟨d, i, c⟩)) cnt' → cnt' < cnt →
      w.grownBy w' (some r) → w'.heap.size = w.heap.size → (Instr.entry (.pointer (some ⟨r, 0, none⟩))).run P w' = .ok (.tuple #[.agg #[.int .i64 d, .int .i64 i, .int .i64 c], .agg #[]]) w' → wpList P ops Q rest (a.put o.dst (.tuple #[.bool true, .agg #[.int .i64 d, .int .i64 i, .int .i64 c], .agg #[]])) w') :
    wpList P ops Q (o :: rest) a w := by
  subst hP
  refine wpList_next_ranges (α := Int × Int × Int) (β := Unit) w hg it hop 26 keyedDot unitElem (fun x => .agg #[.int .i64 x.1, .int .i64 x.2.1, .int .i64 x.2.2]) (fun _ => .agg #[]) (fun key kl hkey => ?_) (fun v y hv => ?_) b r n D left cnt hit h hDone (fun x c kl y w' cnt' hkey hlk hv hat hrg hlt hgr hsz hen => ?_)
  · obtain ⟨d, i, c, _, _, _, e, _⟩ := key_dot_inv hkey
    exact ⟨(d, i, c), e⟩
  · obtain ⟨e, _⟩ := unitElem_inv hv
    exact ⟨(), e⟩
  · obtain ⟨d, i, c', hd, hi, hc, e, rfl⟩ := key_dot_inv hkey
    obtain ⟨_, rfl⟩ := unitElem_inv hv
    simp only [Value.agg.injEq, Array.mk.injEq, List.cons.injEq, Value.int.injEq, true_and, and_true] at e
    obtain ⟨x1, x2, x3⟩ := x
    obtain ⟨rfl, rfl, rfl⟩ := e
    exact hMore _ _ _ w' cnt' hd hi hc hlk hat hrg hlt hgr hsz hen
end Go.Proofs.Ytlggjijgilcloaa
