/- The calendar in plain words: leap years, a day's number, the day of a number. No program in it. -/
import Derived.Test.YtcjkaciknfiekaaDoorItoaPlain
namespace Go.Proofs.YtcjkaciknfiekaaDoor
open Go.RowKit
set_option linter.unusedVariables false

def leapB (y : Int) : Bool := (y.tmod 4 == 0 && !(y.tmod 100 == 0)) || y.tmod 400 == 0

def mlen : List Int := [31, 28, 31, 30, 31, 30, 31, 31, 30, 31, 30, 31]

/-- How many days month M + 1 has. -/
def longI (y : Int) (M : Nat) : Int := if M = 1 ∧ leapB y = true then 29 else mlen.getD M 0

/-- How many days the first M months have. -/
def mdays (y : Int) : Nat → Int
  | 0 => 0
  | M + 1 => mdays y M + longI y M

/-- How many days the years from 1 on ahead of y have. -/
def aheadI (y : Int) : Int := (y - 1) * 365 + (y - 1) / 4 - (y - 1) / 100 + (y - 1) / 400

def startI (y : Int) : Int := aheadI y - 719162

def daysI (y : Int) (M : Nat) (d : Int) : Int := startI y + mdays y M + d - 1

theorem leap_iff (y : Int) (h : 0 ≤ y) : leapB y = decide ((y % 4 = 0 ∧ y % 100 ≠ 0) ∨ y % 400 = 0) := by
  unfold leapB
  rw [Int.tmod_eq_emod_of_nonneg h, Int.tmod_eq_emod_of_nonneg h, Int.tmod_eq_emod_of_nonneg h]
  rw [Bool.eq_iff_iff]
  simp

theorem longI_le (y : Int) (M : Nat) (h : M < 12) : 28 ≤ longI y M ∧ longI y M ≤ 31 := by
  unfold longI
  by_cases c : M = 1 ∧ leapB y = true
  · rw [if_pos c]; omega
  · rw [if_neg c]
    have : ∀ M, M < 12 → 28 ≤ mlen.getD M 0 ∧ mlen.getD M 0 ≤ 31 := by decide
    exact this M h

theorem mdays_le (y : Int) (k : Nat) : ∀ j, j ≤ 12 → k < j → mdays y k + longI y k ≤ mdays y j := by
  intro j
  induction j with
  | zero => intro _ h; omega
  | succ j ih =>
    intro h1 h2
    show _ ≤ mdays y j + longI y j
    have := (longI_le y j (by omega)).1
    by_cases c : k = j
    · subst c; omega
    · have := ih (by omega) (by omega); omega

theorem mdays_pos (y : Int) (M : Nat) (h : M ≤ 12) : 28 * (M : Int) ≤ mdays y M ∧ mdays y M ≤ 31 * (M : Int) := by
  induction M with
  | zero => simp [mdays]
  | succ k ih =>
    have h1 := ih (by omega)
    have h2 := longI_le y k (by omega)
    show _ ≤ mdays y k + longI y k ∧ mdays y k + longI y k ≤ _
    push_cast
    omega

theorem mdays12 (y : Int) : mdays y 12 = if leapB y = true then 366 else 365 := by
  simp only [mdays, longI]
  cases leapB y <;> decide

theorem start_succ (y : Int) (h : 1 ≤ y) : startI (y + 1) = startI y + mdays y 12 := by
  rw [mdays12, leap_iff y (by omega)]
  unfold startI aheadI
  by_cases c : (y % 4 = 0 ∧ y % 100 ≠ 0) ∨ y % 400 = 0
  · simp only [c, decide_true, if_true]
    omega
  · simp only [c, decide_false]
    simp
    omega

theorem start_le (y : Int) (k : Nat) (h : 1 ≤ y) : startI y + 365 * k ≤ startI (y + k) ∧ startI (y + k) ≤ startI y + 366 * k := by
  induction k with
  | zero => simp
  | succ k ih =>
    have e : y + ((k + 1 : Nat) : Int) = (y + (k : Int)) + 1 := by push_cast; omega
    rw [e, start_succ _ (by omega), mdays12]
    push_cast
    split <;> omega

theorem start_lt (y z : Int) (h : 1 ≤ y) (hz : y < z) : startI y + mdays y 12 ≤ startI z := by
  obtain ⟨k, rfl⟩ : ∃ k : Nat, z = (y + 1) + (k : Int) := ⟨(z - y - 1).toNat, by omega⟩
  have h1 := (start_le (y + 1) k (by omega)).1
  rw [start_succ y h] at h1
  omega

theorem year_of (n : Int) : ∀ K : Nat, startI 1601 ≤ n → n < startI (1601 + (K : Int)) → ∃ k : Nat, k < K ∧ startI (1601 + (k : Int)) ≤ n ∧ n < startI (1601 + (k : Int) + 1) := by
  intro K
  induction K with
  | zero => intro h1 h2; simp at h2; omega
  | succ K ih =>
    intro h1 h2
    by_cases c : n < startI (1601 + (K : Int))
    · obtain ⟨k, hk, h3, h4⟩ := ih h1 c
      exact ⟨k, by omega, h3, h4⟩
    · refine ⟨K, by omega, by omega, ?_⟩
      have e : (1601 + (K : Int) + 1) = 1601 + ((K + 1 : Nat) : Int) := by push_cast; omega
      rw [e]
      exact h2

theorem month_of (y r : Int) : ∀ K : Nat, 0 ≤ r → r < mdays y K → ∃ k : Nat, k < K ∧ mdays y k ≤ r ∧ r < mdays y (k + 1) := by
  intro K
  induction K with
  | zero => intro h1 h2; simp [mdays] at h2; omega
  | succ K ih =>
    intro h1 h2
    by_cases c : r < mdays y K
    · obtain ⟨k, hk, h3, h4⟩ := ih h1 c
      exact ⟨k, by omega, h3, h4⟩
    · exact ⟨K, by omega, by omega, h2⟩

/-- There is such a day. -/
structure RightI (y : Int) (M : Nat) (d : Int) : Prop where
  y0 : 1601 ≤ y
  y1 : y ≤ 9999
  m : M < 12
  d0 : 1 ≤ d
  d1 : d ≤ longI y M

theorem start1601 : startI 1601 = -134774 := by decide
theorem start10000 : startI 10000 = 2932897 := by decide

theorem civil_ex (n : Int) (h0 : -134774 ≤ n) (h1 : n < 2932897) : ∃ y M d, RightI y M d ∧ n = daysI y M d := by
  have e : (1601 + ((8399 : Nat) : Int)) = 10000 := by decide
  obtain ⟨k, hk, h2, h3⟩ := year_of n 8399 (by rw [start1601]; exact h0) (by rw [e, start10000]; exact h1)
  rw [start_succ _ (by omega)] at h3
  obtain ⟨M, hM, h4, h5⟩ := month_of (1601 + (k : Int)) (n - startI (1601 + (k : Int))) 12 (by omega) (by omega)
  have h6 : n - startI (1601 + (k : Int)) < mdays (1601 + (k : Int)) M + longI (1601 + (k : Int)) M := h5
  exact ⟨1601 + (k : Int), M, n - startI (1601 + (k : Int)) - mdays (1601 + (k : Int)) M + 1, ⟨by omega, by omega, hM, by omega, by omega⟩, by unfold daysI; omega⟩

theorem days_in {y : Int} {M : Nat} {d : Int} (h : RightI y M d) : startI y ≤ daysI y M d ∧ daysI y M d < startI (y + 1) ∧ -134774 ≤ daysI y M d ∧ daysI y M d < 2932897 := by
  obtain ⟨h1, h2, h3, h4, h5⟩ := h
  have a := mdays_le y M 12 (by omega) h3
  have b := (mdays_pos y M (by omega)).1
  have c := start_succ y (by omega)
  have lo : startI 1601 ≤ startI y := by
    rcases Int.lt_or_eq_of_le h1 with h | h
    · have := start_lt 1601 y (by omega) h
      have := (mdays_pos 1601 12 (by omega)).1
      omega
    · rw [h]; omega
  have hi : startI (y + 1) ≤ startI 10000 := by
    rcases Int.lt_or_eq_of_le (show y + 1 ≤ 10000 by omega) with h | h
    · have := start_lt (y + 1) 10000 (by omega) h
      have := (mdays_pos (y + 1) 12 (by omega)).1
      omega
    · rw [h]; omega
  rw [start1601] at lo
  rw [start10000] at hi
  unfold daysI
  omega

/-- The next day. -/
theorem next_day (y : Int) (M : Nat) (d : Int) : daysI y M d + 1 = daysI y M (d + 1) := by unfold daysI; omega
theorem next_month (y : Int) (M : Nat) : daysI y M (longI y M) + 1 = daysI y (M + 1) 1 := by
  unfold daysI
  show _ = startI y + (mdays y M + longI y M) + 1 - 1
  omega
theorem next_year (y : Int) (h : 1 ≤ y) : daysI y 11 (longI y 11) + 1 = daysI (y + 1) 0 1 := by
  rw [next_month]
  unfold daysI
  rw [start_succ y h]
  show startI y + mdays y 12 + 1 - 1 = startI y + mdays y 12 + 0 + 1 - 1
  omega
end Go.Proofs.YtcjkaciknfiekaaDoor
