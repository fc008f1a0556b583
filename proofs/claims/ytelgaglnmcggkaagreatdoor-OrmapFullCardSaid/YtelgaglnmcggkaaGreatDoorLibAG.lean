/- Contracts and plain words that the laws' proofs stand on, put together. -/
import Derived.Test.YtelgaglnmcggkaaGreatDoorLibAF
/- The calendar in plain words: leap years, a day's number, the day of a number. No program in it. -/
namespace Go.Proofs.YtelgaglnmcggkaaGreatDoor
open Go.RowKit
set_option linter.unusedVariables false

def leapB (y : Int) : Bool := (y.tmod 4 == 0 && !(y.tmod 100 == 0)) || y.tmod 400 == 0

def mlen : List Int := [31, 28, 31, 30, 31, 30, 31, 31, 30, 31, 30, 31]

/-- How many days month M + 1 has. -/
def longI (y : Int) (M : Nat) : Int := if M = 1 ∧ leapB y = true then 29 else mlen.getD M 0

/-- How many days the first M months have. -/
def mdays (y : Int) : Nat → Int
  | 0 => 0
  | M + 1 => mdays y M + longI y M

/-- How many days the years from 1 on ahead of y have. -/
def aheadI (y : Int) : Int := (y - 1) * 365 + (y - 1) / 4 - (y - 1) / 100 + (y - 1) / 400

def startI (y : Int) : Int := aheadI y - 719162

def daysI (y : Int) (M : Nat) (d : Int) : Int := startI y + mdays y M + d - 1

end Go.Proofs.YtelgaglnmcggkaaGreatDoor

/- A cookie's date in plain words: tokens, what each tells, what all tell. No program in it. -/
namespace Go.Proofs.YtelgaglnmcggkaaGreatDoor
open Go.RowKit
set_option linter.unusedVariables false

/-- A text begins with at least a and at most b digits. -/
def dig (a b : Nat) (l : List UInt8) : Bool := decide (a ≤ lead l) && decide (lead l ≤ b)
/-- The number of the digits that a text begins with. -/
def valL (l : List UInt8) : Nat := numV (l.take (lead l))
/-- What is behind the colon that a text begins with. -/
def colon (l : List UInt8) : List UInt8 := if Lib.hasPrefix l [58] then Lib.trimPrefix l [58] else []
def timeB (l : List UInt8) : List UInt8 := colon (l.drop (lead l))
def isTimeB (l : List UInt8) : Bool := dig 1 2 l && (dig 1 2 (timeB l) && dig 1 2 (timeB (timeB l)))
def monTab : List (List UInt8) := [[106, 97, 110], [102, 101, 98], [109, 97, 114], [97, 112, 114], [109, 97, 121], [106, 117, 110], [106, 117, 108], [97, 117, 103], [115, 101, 112], [111, 99, 116], [110, 111, 118], [100, 101, 99]]
def monTop : List (List UInt8) := [[74, 97, 110], [70, 101, 98], [77, 97, 114], [65, 112, 114], [77, 97, 121], [74, 117, 110], [74, 117, 108], [65, 117, 103], [83, 101, 112], [79, 99, 116], [78, 111, 118], [68, 101, 99]]
def wdTop : List (List UInt8) := [[83, 117, 110], [77, 111, 110], [84, 117, 101], [87, 101, 100], [84, 104, 117], [70, 114, 105], [83, 97, 116]]
def monK (l : List UInt8) : Nat := monTab.findIdx (· == (l.take 3).map low)
/-- A month's number; 0: it is none. -/
def monL (l : List UInt8) : Nat := if l.length < 3 then 0 else if monK l < 12 then monK l + 1 else 0

structure St where
  time : Option (Nat × Nat × Nat)
  day : Option Nat
  month : Option Nat
  year : Option Nat

def St.none : St := ⟨Option.none, Option.none, Option.none, Option.none⟩

def yearUp (y : Nat) : Nat := if y < 70 then y + 2000 else if y < 100 then y + 1900 else y

def tells (h mi se d m y : Nat) : Int × Bool :=
  if h ≤ 23 ∧ mi ≤ 59 ∧ se ≤ 59 ∧ 1601 ≤ yearUp y ∧ yearUp y ≤ 9999 ∧ 1 ≤ d ∧ (d : Int) ≤ longI (yearUp y) (m - 1)
  then (daysI (yearUp y) (m - 1) d * 86400 + (h : Int) * 3600 + (mi : Int) * 60 + (se : Int), true) else (0, false)

def St.tells (s : St) : Int × Bool :=
  match s.time, s.day, s.month, s.year with
  | some (h, mi, se), some d, some m, some y => Go.Proofs.YtelgaglnmcggkaaGreatDoor.tells h mi se d m y
  | _, _, _, _ => (0, false)

end Go.Proofs.YtelgaglnmcggkaaGreatDoor
