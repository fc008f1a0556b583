/- Contracts and plain words that the laws' proofs stand on, put together. -/
import Derived.Test.YtjocnhkapiiblaaDoorLibAC
/- The calendar in plain words: leap years, a day's number, the day of a number. No program in it. -/
namespace Go.Proofs.YtjocnhkapiiblaaDoor
open Go.RowKit
set_option linter.unusedVariables false

def leapB (y : Int) : Bool := (y.tmod 4 == 0 && !(y.tmod 100 == 0)) || y.tmod 400 == 0

def mlen : List Int := [31, 28, 31, 30, 31, 30, 31, 31, 30, 31, 30, 31]

/-- How many days month M + 1 has. -/
def longI (y : Int) (M : Nat) : Int := if M = 1 ∧ leapB y = true then 29 else mlen.getD M 0

/-- How many days the first M months have. -/
def mdays (y : Int) : Nat → Int
  | 0 => 0
  | M + 1 => mdays y M + longI y M

/-- How many days the years from 1 on ahead of y have. -/
def aheadI (y : Int) : Int := (y - 1) * 365 + (y - 1) / 4 - (y - 1) / 100 + (y - 1) / 400

def startI (y : Int) : Int := aheadI y - 719162

def daysI (y : Int) (M : Nat) (d : Int) : Int := startI y + mdays y M + d - 1

end Go.Proofs.YtjocnhkapiiblaaDoor

/- A cookie's date in plain words: tokens, what each tells, what all tell. No program in it. -/
namespace Go.Proofs.YtjocnhkapiiblaaDoor
open Go.RowKit
set_option linter.unusedVariables false

structure St where
  time : Option (Nat × Nat × Nat)
  day : Option Nat
  month : Option Nat
  year : Option Nat

def St.none : St := ⟨Option.none, Option.none, Option.none, Option.none⟩

def yearUp (y : Nat) : Nat := if y < 70 then y + 2000 else if y < 100 then y + 1900 else y

def tells (h mi se d m y : Nat) : Int × Bool :=
  if h ≤ 23 ∧ mi ≤ 59 ∧ se ≤ 59 ∧ 1601 ≤ yearUp y ∧ yearUp y ≤ 9999 ∧ 1 ≤ d ∧ (d : Int) ≤ longI (yearUp y) (m - 1)
  then (daysI (yearUp y) (m - 1) d * 86400 + (h : Int) * 3600 + (mi : Int) * 60 + (se : Int), true) else (0, false)

def St.tells (s : St) : Int × Bool :=
  match s.time, s.day, s.month, s.year with
  | some (h, mi, se), some d, some m, some y => Go.Proofs.YtjocnhkapiiblaaDoor.tells h mi se d m y
  | _, _, _, _ => (0, false)

end Go.Proofs.YtjocnhkapiiblaaDoor
