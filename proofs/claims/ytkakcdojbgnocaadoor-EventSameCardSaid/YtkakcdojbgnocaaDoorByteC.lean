/- Contracts of the library's functions at one sign, in plain words: a byte's place, what a text begins with; a host that is canonical is so itself. -/
import Derived.Test.YtkakcdojbgnocaaDoorLibAL
import Derived.Test.YtkakcdojbgnocaaDoorLibAO
import Derived.Test.YtkakcdojbgnocaaDoorShelf
import Derived.Lib.IndexMore
import Derived.Lib.Strings
namespace Go.Proofs.YtkakcdojbgnocaaDoor
open Go.RowKit
set_option linter.unusedVariables false

theorem byteC (l : List UInt8) (c : UInt8) (w : World) :
    Calls Tryd.prog 53 #[.string (str l), .int .u8 (c.toNat : Int)] w fun e w' => e = .returned (.int .i64 (Lib.indexByte l c)) ∧ w = w' := by
  refine (Tryd.strings_IndexByte (str l) (c.toNat : Int) w).mono ?_
  rintro e w' ⟨rfl, rfl⟩
  rw [str_data]
  have : (c.toNat : Int).toNat.toUInt8 = c := by simp
  rw [this]
  exact ⟨rfl, rfl⟩

theorem canon_self (h : List UInt8) : ∃ (X : List UInt8) (E : Int),
    (if 256 < h.length then (Value.tuple #[.string (str []), .int .i64 3]) else if canonB (h.map low) = true then .tuple #[.string (str (h.map low)), .int .i64 0] else .tuple #[.string (str []), .int .i64 1]) = .tuple #[.string (str X), .int .i64 E] ∧
    ((E = 0 ∧ X = h ∧ canonB h = true) ∨ (E = 0 ∧ (X == h) = false ∧ canonB h = false) ∨ ((E == 0) = false ∧ canonB h = false)) := by
  by_cases c1 : 256 < h.length
  · rw [if_pos c1]
    refine ⟨_, _, rfl, .inr (.inr ⟨rfl, ?_⟩)⟩
    cases hc : canonB h with
    | false => rfl
    | true => exact absurd (canon_len hc) (by omega)
  · rw [if_neg c1]
    cases hc : canonB h with
    | true =>
      rw [map_low_host hc, if_pos hc]
      exact ⟨_, _, rfl, .inl ⟨rfl, rfl, rfl⟩⟩
    | false =>
      cases hc2 : canonB (h.map low) with
      | false => exact ⟨_, _, if_neg Bool.false_ne_true, .inr (.inr ⟨rfl, rfl⟩)⟩
      | true =>
        refine ⟨_, _, if_pos rfl, .inr (.inl ⟨rfl, ?_, rfl⟩)⟩
        rw [beq_eq_false_iff_ne]
        intro e
        rw [e, hc] at hc2
        cases hc2

theorem slash_head (l : List UInt8) : Lib.hasPrefix l [47] = decide (l.getD 0 0 = 47) := by
  cases l with
  | nil => rfl
  | cons x t =>
    show ((47 : UInt8) == x && true) = decide (x = 47)
    rw [Bool.and_true, Bool.eq_iff_iff, decide_eq_true_iff, beq_iff_eq]
    exact eq_comm

theorem headSlashC (l : List UInt8) (w : World) :
    Calls Tryd.prog 46 #[.string (str l), .string ⟨#[47]⟩] w fun e w' => e = .returned (.bool (decide (l.getD 0 0 = 47))) ∧ w = w' := by
  refine (Tryd.strings_HasPrefix (str l) ⟨#[47]⟩ w).mono ?_
  rintro e w' ⟨rfl, rfl⟩
  rw [str_data, ← slash_head]
  exact ⟨rfl, rfl⟩

end Go.Proofs.YtkakcdojbgnocaaDoor
