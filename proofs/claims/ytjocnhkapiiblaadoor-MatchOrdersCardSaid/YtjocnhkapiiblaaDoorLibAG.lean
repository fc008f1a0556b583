/- Contracts and plain words that the laws' proofs stand on, put together. -/
import Derived.Test.YtjocnhkapiiblaaDoorLibAE
import Derived.Test.YtjocnhkapiiblaaDoorLibAB
import Derived.Test.YtjocnhkapiiblaaDoorShelf
import Derived.BigQuiet
import Derived.Lib.LastIndexByte
/- Paths in plain words: directories, which path fits which. No program in it. -/
namespace Go.Proofs.YtjocnhkapiiblaaDoor
open Go.RowKit
set_option linter.unusedVariables false

/-- The place behind the last slash of the first so many bytes; 0: there is none. -/
def lastS (l : List UInt8) : Nat → Nat
  | 0 => 0
  | k + 1 => if (l.getD k 0 == 47) = true then k + 1 else lastS l k

/-- A path's directory. -/
def defaultL (l : List UInt8) : List UInt8 := if lastS l l.length ≤ 1 ∨ l.getD 0 0 ≠ 47 then [47] else l.take (lastS l l.length - 1)
/-- Does a path fit a cookie's? -/
def fitP (p c : List UInt8) : Bool := decide (c.length ≤ p.length) && (p.take c.length == c && (decide (p.length = c.length) || (decide (0 < c.length) && c.getD (c.length - 1) 0 == 47 || p.getD c.length 0 == 47)))
def slashN (l : List UInt8) : Nat := l.countP (· == 47)

end Go.Proofs.YtjocnhkapiiblaaDoor

/- Contracts of the reference of layer 11. -/
namespace Go.Proofs.YtjocnhkapiiblaaDoor
open Go.RowKit
set_option linter.unusedVariables false

end Go.Proofs.YtjocnhkapiiblaaDoor

/- Contracts of the reference of layer 11: which path fits which. -/
namespace Go.Proofs.YtjocnhkapiiblaaDoor
open Go.RowKit
set_option linter.unusedVariables false

end Go.Proofs.YtjocnhkapiiblaaDoor

/- Contracts of layer 11: the program's own functions. -/
namespace Go.Proofs.YtjocnhkapiiblaaDoor
open Go.RowKit
set_option linter.unusedVariables false

theorem slash_head (l : List UInt8) : Lib.hasPrefix l [47] = decide (l.getD 0 0 = 47) := by
  cases l with
  | nil => rfl
  | cons x t =>
    show ((47 : UInt8) == x && true) = decide (x = 47)
    rw [Bool.and_true, Bool.eq_iff_iff, decide_eq_true_iff, beq_iff_eq]
    exact eq_comm

theorem slash_tail (l : List UInt8) : Lib.hasSuffix l [47] = (decide (0 < l.length) && (l.getD (l.length - 1) 0 == 47)) := by
  rcases List.eq_nil_or_concat l with rfl | ⟨i, x, rfl⟩
  · rfl
  · have h1 : Lib.hasSuffix (i.concat x) [47] = (x == 47) := by
      unfold Lib.hasSuffix
      rw [Bool.eq_iff_iff, List.isSuffixOf_iff_suffix, beq_iff_eq, List.concat_eq_append]
      constructor
      · rintro ⟨t, ht⟩
        have h := (List.append_inj' ht rfl).2
        simpa using h.symm
      · rintro rfl
        exact ⟨i, rfl⟩
    rw [h1, List.concat_eq_append]
    simp

theorem ahead_is (p c : List UInt8) : Lib.hasPrefix p c = (decide (c.length ≤ p.length) && (p.take c.length == c)) := by
  unfold Lib.hasPrefix
  rw [Bool.eq_iff_iff, List.isPrefixOf_iff_prefix, Bool.and_eq_true, decide_eq_true_iff, beq_iff_eq]
  constructor
  · intro h
    exact ⟨h.length_le, (List.prefix_iff_eq_take.1 h).symm⟩
  · rintro ⟨_, h⟩
    exact List.prefix_iff_eq_take.2 h.symm

theorem fit_is (p c : List UInt8) : fitP p c = (Lib.hasPrefix p c && ((Lib.trimPrefix p c == []) || (Lib.hasSuffix c [47] || Lib.hasPrefix (Lib.trimPrefix p c) [47]))) := by
  unfold Lib.trimPrefix
  cases h : Lib.hasPrefix p c with
  | false =>
    rw [ahead_is] at h
    unfold fitP
    rw [Bool.false_and]
    cases h1 : decide (c.length ≤ p.length) with
    | false => rfl
    | true =>
      rw [h1, Bool.true_and] at h
      rw [h]
      rfl
  | true =>
    rw [ahead_is, Bool.and_eq_true, decide_eq_true_iff] at h
    obtain ⟨h1, h2⟩ := h
    unfold fitP
    rw [if_pos rfl, slash_tail, slash_head, h2, decide_eq_true h1, Bool.true_and, Bool.true_and, Bool.true_and]
    have e1 : (p.drop c.length == []) = decide (p.length = c.length) := by
      rw [Bool.eq_iff_iff, beq_iff_eq, decide_eq_true_iff, List.drop_eq_nil_iff]
      omega
    have e2 : decide ((p.drop c.length).getD 0 0 = 47) = (p.getD c.length 0 == 47) := by
      rw [Bool.eq_iff_iff, beq_iff_eq, decide_eq_true_iff]
      simp [List.getD]
    rw [e1, e2]

theorem headSlashC (l : List UInt8) (w : World) :
    Calls Tryd.prog 33 #[.string (str l), .string ⟨#[47]⟩] w fun e w' => e = .returned (.bool (decide (l.getD 0 0 = 47))) ∧ w = w' := by
  refine (Tryd.strings_HasPrefix (str l) ⟨#[47]⟩ w).mono ?_
  rintro e w' ⟨rfl, rfl⟩
  rw [str_data, ← slash_head]
  exact ⟨rfl, rfl⟩

theorem tailSlashC (l : List UInt8) (w : World) (hm : l.length ≤ 100000) :
    Calls Tryd.prog 32 #[.string (str l), .string ⟨#[47]⟩] w fun e w' => e = .returned (.bool (Lib.hasSuffix l [47])) ∧ w = w' := by
  refine (Tryd.strings_HasSuffix (str l) ⟨#[47]⟩ w (by rw [str_size]; omega)).mono ?_
  rintro e w' ⟨rfl, rfl⟩
  rw [str_data]
  exact ⟨rfl, rfl⟩

theorem cutPathC (l c : List UInt8) (w : World) :
    Calls Tryd.prog 31 #[.string (str l), .string (str c)] w fun e w' => e = .returned (.tuple #[.string (str (Lib.trimPrefix l c)), .bool (Lib.hasPrefix l c)]) ∧ w = w' := by
  refine (Tryd.strings_CutPrefix (str l) (str c) w).mono ?_
  rintro e w' ⟨rfl, rfl⟩
  rw [str_data, str_data]
  exact ⟨rfl, rfl⟩

set_option maxRecDepth 100000 in
theorem pathMatchC (p c : List UInt8) (n m : Nat) (w : World) (hl : p.length = n) (hm : n ≤ 100000) (hl2 : c.length = m) (hm2 : m ≤ 100000) :
    Calls Tryd.prog 26 #[.string (str p), .string (str c)] w fun e w' => e = .returned (.bool (fitP p c)) ∧ Below w.heap.size w w' := by
  have hb := Below.refl w.heap.size w
  have HC := fun w => cutPathC p c w
  have HS := fun w => tailSlashC c w (by omega)
  have HH := fun w => headSlashC (Lib.trimPrefix p c) w
  have hk := str_toList
  have e0 : ({ data := #[] } : ByteArray) = str [] := rfl
  rw [fit_is]
  rw [slash_head]
  generalize decide ((Lib.trimPrefix p c).getD 0 0 = 47) = h at *
  generalize Lib.trimPrefix p c = y at *
  generalize Lib.hasPrefix p c = b at *
  generalize Lib.hasSuffix c [47] = s at *
  obtain ⟨q, hq⟩ : ∃ q, (y == []) = q := ⟨_, rfl⟩
  rw [hq]
  clear hl hm hl2 hm2
  cases b
  · go_enter Tryd.func26, Tryd.ntmps26
    go_wp2_with (go_at_call 31; (with_reducible refine (HC _).mono ?_); rintro e w1 ⟨rfl, rfl⟩)
    go_ret
    exact ⟨rfl, hb⟩
  · cases q <;> cases s <;> cases h
    all_goals (
      go_enter Tryd.func26, Tryd.ntmps26
      go_wp2_with (first
        | (go_at_call 31; (with_reducible refine (HC _).mono ?_); rintro e w1 ⟨rfl, rfl⟩)
        | (go_at_call 32; (with_reducible refine (HS _).mono ?_); rintro e w1 ⟨rfl, rfl⟩)
        | (go_at_call 33; (with_reducible refine (HH _).mono ?_); rintro e w1 ⟨rfl, rfl⟩))
      go_ret
      exact ⟨rfl, hb⟩)

end Go.Proofs.YtjocnhkapiiblaaDoor
