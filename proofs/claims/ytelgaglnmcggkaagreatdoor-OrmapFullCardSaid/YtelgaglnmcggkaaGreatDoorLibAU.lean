/- Contracts and plain words that the laws' proofs stand on, put together. -/
import Derived.Test.YtelgaglnmcggkaaGreatDoorLibAJ
import Derived.Test.YtelgaglnmcggkaaGreatDoorLibAQ
/- Every key of a map of dots is a dot. -/
namespace Go.Proofs.YtelgaglnmcggkaaGreatDoor
open Go.RowKit Go.WideMaps
set_option linter.unusedVariables false

set_option maxRecDepth 100000 in
theorem key_dot_inv {key : Value} {kl : Lit} (h : keyOf Tryz.prog 35 key = some kl) : ∃ d i c, is64 d ∧ is64 i ∧ is64 c ∧ key = .agg #[.int .i64 d, .int .i64 i, .int .i64 c] ∧ kl = keyD ⟨d, i, c⟩ := by
  obtain ⟨m, hm⟩ : ∃ m, Tryz.prog.types.size = m + 2 := ⟨Tryz.prog.types.size - 2, by kernel_rfl⟩
  have hc : Tryz.prog.cellsOf 35 = 3 := by kernel_rfl
  have hc2 : Tryz.prog.cellsOf 33 = 2 := by kernel_rfl
  have hc3 : Tryz.prog.cellsOf 3 = 1 := by kernel_rfl
  have h0 := h
  unfold keyOf at h
  rw [Tryz.underlying35] at h
  dsimp only at h
  split at h
  case isFalse => cases h
  case isTrue hh =>
    rw [Bool.and_eq_true] at hh
    have hf := hh.2
    cases key
    case agg cs =>
      obtain ⟨l⟩ := cs
      have hs : l.length = 3 := by simpa [Value.formed, Tryz.underlying35, hc] using hf
      match l, hs with
      | [x, y, z], _ =>
        cases hl : Tryz.prog.keyLits (Tryz.prog.types.size + 1) 35 (Value.agg #[x, y, z]).cells.toList with
        | none => rw [hl] at h; cases h
        | some ls =>
          rw [hm] at hl
          have hxy : ∃ d i c, is64 d ∧ is64 i ∧ is64 c ∧ x = .int .i64 d ∧ y = .int .i64 i ∧ z = .int .i64 c := by
            simp only [is64_wf]
            clear h h0 hh hf
            cases x with
            | int q1 n1 =>
              by_cases a1 : q1 = .i64 ∧ (Lit.int .i64 n1).wf = true
              · cases y with
                | int q2 n2 =>
                  by_cases a2 : q2 = .i64 ∧ (Lit.int .i64 n2).wf = true
                  · cases z with
                    | int q3 n3 =>
                      by_cases a3 : q3 = .i64 ∧ (Lit.int .i64 n3).wf = true
                      · exact ⟨n1, n2, n3, a1.2, a2.2, a3.2, by rw [a1.1], by rw [a2.1], by rw [a3.1]⟩
                      · exfalso; simp [Program.keyLits, Value.cells, Tryz.underlying35, Tryz.underlying33, Tryz.underlying3, hc, hc2, hc3, a1, a2, a3] at hl
                    | _ => exfalso; simp [Program.keyLits, Value.cells, Tryz.underlying35, Tryz.underlying33, Tryz.underlying3, hc, hc2, hc3, a1, a2] at hl
                  · exfalso; simp [Program.keyLits, Value.cells, Tryz.underlying35, Tryz.underlying33, Tryz.underlying3, hc, hc2, hc3, a1, a2] at hl
                | _ => exfalso; simp [Program.keyLits, Value.cells, Tryz.underlying35, Tryz.underlying33, Tryz.underlying3, hc, hc2, hc3, a1] at hl
              · exfalso; simp [Program.keyLits, Value.cells, Tryz.underlying35, Tryz.underlying33, Tryz.underlying3, hc, hc2, hc3, a1] at hl
            | _ => exfalso; simp [Program.keyLits, Value.cells, Tryz.underlying35, Tryz.underlying33, Tryz.underlying3, hc, hc2, hc3] at hl
          obtain ⟨d, i, c, hd, hi, hcc, rfl, rfl, rfl⟩ := hxy
          refine ⟨d, i, c, hd, hi, hcc, rfl, ?_⟩
          have h9 := key_dot (x := ⟨d, i, c⟩) ⟨hd, hi, hcc⟩
          dsimp only at h9
          rw [h9] at h0
          exact (Option.some.inj h0).symm
    all_goals simp [Value.formed, Tryz.underlying35] at hf
end Go.Proofs.YtelgaglnmcggkaaGreatDoor

/- A round over a map whose keys are dots: its step, and what it has met. -/
namespace Go.Proofs.YtelgaglnmcggkaaGreatDoor
open Go.RowKit Go.WideMaps
set_option linter.unusedVariables false

end Go.Proofs.YtelgaglnmcggkaaGreatDoor
