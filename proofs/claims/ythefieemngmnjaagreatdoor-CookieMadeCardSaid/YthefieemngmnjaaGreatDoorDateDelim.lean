/- Contracts of layer 7: delimiters. -/
import Derived.Test.YthefieemngmnjaaGreatDoorLibAF
import Derived.Test.YthefieemngmnjaaGreatDoorLibAC
namespace Go.Proofs.YthefieemngmnjaaGreatDoor
open Go.RowKit
set_option linter.unusedVariables false

set_option maxHeartbeats 1000000 in
theorem delimC (x : UInt8) (w : World) : Calls Tryz.prog 156 #[.int .u8 (x.toNat : Int)] w fun e w' => e = .returned (.bool (delim x)) ∧ w = w' := by
  have hx := u8_lt x
  have HD := Lib.hid (show delim x = (decide (x.toNat = 9) || (decide (32 ≤ x.toNat) && decide (x.toNat ≤ 47)) || (decide (59 ≤ x.toNat) && decide (x.toNat ≤ 64)) || (decide (91 ≤ x.toNat) && decide (x.toNat ≤ 96)) || (decide (123 ≤ x.toNat) && decide (x.toNat ≤ 126))) from rfl)
  generalize delim x = z at *
  generalize x.toNat = n at *
  by_cases h9 : n = 9
  · have hz : z = true := by rw [HD.out]; subst h9; rfl
    subst hz h9
    go_enter Tryz.func156, Tryz.ntmps156
    go_wp2
    go_ret
    exact ⟨rfl, rfl⟩
  have h9' : ((n : Int) == 9) = false := by simp; omega
  rcases (show (0 ≤ n ∧ n ≤ 31) ∨ (32 ≤ n ∧ n ≤ 47) ∨ (48 ≤ n ∧ n ≤ 58) ∨ (59 ≤ n ∧ n ≤ 64) ∨ (65 ≤ n ∧ n ≤ 90) ∨ (91 ≤ n ∧ n ≤ 96) ∨ (97 ≤ n ∧ n ≤ 122) ∨ (123 ≤ n ∧ n ≤ 126) ∨ (127 ≤ n ∧ n ≤ 255) by omega) with h | h | h | h | h | h | h | h | h
  all_goals
    first
    | (have hz : z = true := by rw [HD.out]; simp; omega
       subst hz)
    | (have hz : z = false := by rw [HD.out]; simp; omega
       subst hz)
    clear HD
    obtain ⟨h1, h2⟩ := h
    go_enter Tryz.func156, Tryz.ntmps156
    go_wp2
    go_ret
    first
    | exact ⟨rfl, rfl⟩
    | exact ⟨by simp; omega, rfl⟩

set_option maxHeartbeats 1000000 in
theorem refDelimC (x : UInt8) (w : World) : Calls Tryz.prog 127 #[.int .u8 (x.toNat : Int)] w fun e w' => e = .returned (.bool (delim x)) ∧ w = w' := by
  have hx := u8_lt x
  have HD := Lib.hid (show delim x = (decide (x.toNat = 9) || (decide (32 ≤ x.toNat) && decide (x.toNat ≤ 47)) || (decide (59 ≤ x.toNat) && decide (x.toNat ≤ 64)) || (decide (91 ≤ x.toNat) && decide (x.toNat ≤ 96)) || (decide (123 ≤ x.toNat) && decide (x.toNat ≤ 126))) from rfl)
  generalize delim x = z at *
  generalize x.toNat = n at *
  by_cases h9 : n = 9
  · have hz : z = true := by rw [HD.out]; subst h9; rfl
    subst hz h9
    go_enter Tryz.func127, Tryz.ntmps127
    go_wp2
    go_ret
    exact ⟨rfl, rfl⟩
  have h9' : ((n : Int) == 9) = false := by simp; omega
  rcases (show (0 ≤ n ∧ n ≤ 31) ∨ (32 ≤ n ∧ n ≤ 47) ∨ (48 ≤ n ∧ n ≤ 58) ∨ (59 ≤ n ∧ n ≤ 64) ∨ (65 ≤ n ∧ n ≤ 90) ∨ (91 ≤ n ∧ n ≤ 96) ∨ (97 ≤ n ∧ n ≤ 122) ∨ (123 ≤ n ∧ n ≤ 126) ∨ (127 ≤ n ∧ n ≤ 255) by omega) with h | h | h | h | h | h | h | h | h
  all_goals
    first
    | (have hz : z = true := by rw [HD.out]; simp; omega
       subst hz)
    | (have hz : z = false := by rw [HD.out]; simp; omega
       subst hz)
    clear HD
    obtain ⟨h1, h2⟩ := h
    go_enter Tryz.func127, Tryz.ntmps127
    go_wp2
    go_ret
    first
    | exact ⟨rfl, rfl⟩
    | exact ⟨by simp; omega, rfl⟩
end Go.Proofs.YthefieemngmnjaaGreatDoor
