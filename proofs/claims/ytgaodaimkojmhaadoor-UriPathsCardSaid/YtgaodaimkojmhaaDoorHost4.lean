/- Contracts of layer 8: Canon, Address, Match, Labels, Up. -/
import Derived.Test.YtgaodaimkojmhaaDoorHost3
namespace Go.Proofs.YtgaodaimkojmhaaDoor
open Go.RowKit
set_option linter.unusedVariables false

theorem kind_cases (l : List UInt8) : (kindN l = 0 ∧ canonB l = false ∧ nameB l = false ∧ addrB l = false) ∨ (kindN l = 1 ∧ canonB l = true ∧ nameB l = true ∧ addrB l = false) ∨ (kindN l = 2 ∧ canonB l = true ∧ nameB l = false ∧ addrB l = true) := by
  have h0 := kind_zero l
  have h1 := kind_one l
  have h2 := kind_two l
  rw [← h1, ← h2]
  have h3 := kind_le l
  generalize kindN l = k at *
  rcases (show k = 0 ∨ k = 1 ∨ k = 2 by omega) with rfl | rfl | rfl
  · refine .inl ⟨rfl, ?_, rfl, rfl⟩
    cases c : canonB l with
    | false => rfl
    | true => rw [c] at h0; cases h0
  · refine .inr (.inl ⟨rfl, ?_, rfl, rfl⟩)
    cases c : canonB l with
    | true => rfl
    | false => rw [c] at h0; cases h0
  · refine .inr (.inr ⟨rfl, ?_, rfl, rfl⟩)
    cases c : canonB l with
    | true => rfl
    | false => rw [c] at h0; cases h0

theorem canon_len {l : List UInt8} (h : canonB l = true) : l.length ≤ 256 := by
  unfold canonB at h
  rw [Bool.and_eq_true, decide_eq_true_iff] at h
  exact h.1

/-- What Canon answers. -/
def CanonIs (l : List UInt8) (w : World) (e : Ending) (w' : World) : Prop :=
  e = .returned (if 256 < l.length then .tuple #[.string (str []), .int .i64 3] else if canonB (l.map low) = true then .tuple #[.string (str (l.map low)), .int .i64 0] else .tuple #[.string (str []), .int .i64 1]) ∧ Below w.heap.size w w'

set_option maxRecDepth 100000 in
theorem canonC (l : List UInt8) (n : Nat) (w : World) (hl : l.length = n) (hm : n ≤ maxLen) (hT : PTab Tryd.prog w) :
    Calls Tryd.prog 18 #[.string (str l)] w (CanonIs l w) := by
  have hb := Below.refl w.heap.size w
  have hsz : (str l).size = n := by rw [str_size, hl]
  unfold CanonIs
  rw [hl]
  have HL := fun w => lowerC l n w hl hm
  unfold GivesStr at HL
  have HK := fun w (h : PTab Tryd.prog w) => kindOfC (l.map low) n w (by rw [List.length_map]; exact hl) hm h
  clear hl
  by_cases h : 256 < n
  · rw [if_pos h]
    have h' : (256 : Int) < (n : Int) := by omega
    go_enter Tryd.func18, Tryd.ntmps18
    go_wp2
    go_ret2
    exact ⟨rfl, hb⟩
  · rw [if_neg h]
    have h' : ¬ (256 : Int) < (n : Int) := by omega
    have hc := kind_cases (l.map low)
    generalize l.map low = x at *
    rcases hc with ⟨k, c, -, -⟩ | ⟨k, c, -, -⟩ | ⟨k, c, -, -⟩
    all_goals (
      rw [k] at HK
      rw [c]
      clear k c
      go_enter Tryd.func18, Tryd.ntmps18
      go_wp2_with (first
        | (go_at_call 33; (with_reducible refine (HL _).mono ?_); rintro e w1 ⟨rfl, hx⟩; have hb := hb.trans (hx.mono hb.size); clear hx)
        | (go_at_call 35; (with_reducible refine (HK _ (hT.below hb)).mono ?_); rintro e w1 ⟨rfl, hx⟩; have hb := hb.trans (hx.mono hb.size); clear hx))
      go_ret2
      exact ⟨rfl, hb⟩)

/-- What Labels answers. -/
def LabelsIs (l : List UInt8) (w : World) (e : Ending) (w' : World) : Prop :=
  if nameB l = true then GivesStrs (splitL l 46) w e w' else e = .returned (.slice none 0 0) ∧ Below w.heap.size w w'

/-- What Up answers. -/
def upL (l : List UInt8) : List UInt8 × Bool := if nameB l = true then ((cutL l 46).2.1, (cutL l 46).2.2) else ([], false)

end Go.Proofs.YtgaodaimkojmhaaDoor
