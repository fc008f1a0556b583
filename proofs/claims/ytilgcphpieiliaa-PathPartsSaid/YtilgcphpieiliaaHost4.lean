/- Contracts of layer 8: Canon, Address, Match, Labels, Up. -/
import Derived.Test.YtilgcphpieiliaaHost3
namespace Go.Proofs.Ytilgcphpieiliaa
open Go.RowKit
set_option linter.unusedVariables false

theorem kind_cases (l : List UInt8) : (kindN l = 0 ∧ canonB l = false ∧ nameB l = false ∧ addrB l = false) ∨ (kindN l = 1 ∧ canonB l = true ∧ nameB l = true ∧ addrB l = false) ∨ (kindN l = 2 ∧ canonB l = true ∧ nameB l = false ∧ addrB l = true) := by
  have h0 := kind_zero l
  have h1 := kind_one l
  have h2 := kind_two l
  rw [← h1, ← h2]
  have h3 := kind_le l
  generalize kindN l = k at *
  rcases (show k = 0 ∨ k = 1 ∨ k = 2 by omega) with rfl | rfl | rfl
  · refine .inl ⟨rfl, ?_, rfl, rfl⟩
    cases c : canonB l with
    | false => rfl
    | true => rw [c] at h0; cases h0
  · refine .inr (.inl ⟨rfl, ?_, rfl, rfl⟩)
    cases c : canonB l with
    | true => rfl
    | false => rw [c] at h0; cases h0
  · refine .inr (.inr ⟨rfl, ?_, rfl, rfl⟩)
    cases c : canonB l with
    | true => rfl
    | false => rw [c] at h0; cases h0

theorem canon_len {l : List UInt8} (h : canonB l = true) : l.length ≤ 256 := by
  unfold canonB at h
  rw [Bool.and_eq_true, decide_eq_true_iff] at h
  exact h.1

/-- What Canon answers. -/
def CanonIs (l : List UInt8) (w : World) (e : Ending) (w' : World) : Prop :=
  e = .returned (if 256 < l.length then .tuple #[.string (str []), .int .i64 3] else if canonB (l.map low) = true then .tuple #[.string (str (l.map low)), .int .i64 0] else .tuple #[.string (str []), .int .i64 1]) ∧ Below w.heap.size w w'

/-- What Labels answers. -/
def LabelsIs (l : List UInt8) (w : World) (e : Ending) (w' : World) : Prop :=
  if nameB l = true then GivesStrs (splitL l 46) w e w' else e = .returned (.slice none 0 0) ∧ Below w.heap.size w w'

/-- What Up answers. -/
def upL (l : List UInt8) : List UInt8 × Bool := if nameB l = true then ((cutL l 46).2.1, (cutL l 46).2.2) else ([], false)

theorem suffixDotC (a b : List UInt8) (w : World) (hm : a.length ≤ 9223372036854775807) :
    Calls Try.prog 17 #[.string (str a), .string (str ([46] ++ b))] w fun e w' => e = .returned (.bool (belowB a b)) ∧ w = w' := by
  refine (Try.strings_HasSuffix (str a) (str ([46] ++ b)) w (by rw [str_size]; exact hm)).mono ?_
  rintro e w' ⟨rfl, rfl⟩
  rw [str_data, str_data, below_suffix]
  exact ⟨rfl, rfl⟩

end Go.Proofs.Ytilgcphpieiliaa
