/- Contracts of the plain functions of layer 1 and of its reference. -/
import Derived.Test.YthfonmceggmjgaaRows
import Derived.Test.YthfonmceggmjgaaPlain
import Derived.ProofKit
import Derived.OpenShut
import Derived.BigQuiet
import Derived.Deep.QuietTactic
namespace Go.Proofs.Ythfonmceggmjgaa
open Go.RowKit
set_option linter.unusedVariables false

theorem foldC (n : Int) (w : World) (h0 : -9223372036854775808 ≤ n) (h1 : n ≤ 9223372036854775807) :
    Calls Try.prog 41 #[.int .i64 n] w fun e w' => e = .returned (.int .u64 (foldI n)) ∧ w = w' := by
  go_enter Try.func41, Try.ntmps41
  go_wp2
  go_ret
  exact ⟨ret_int (fold_math n h0 h1), rfl⟩

theorem unfoldC (n : Int) (w : World) (h0 : 0 ≤ n) (h1 : n ≤ 18446744073709551615) :
    Calls Try.prog 39 #[.int .u64 n] w fun e w' => e = .returned (.int .i64 (unfoldI n)) ∧ w = w' := by
  go_enter Try.func39, Try.ntmps39
  go_wp2
  go_ret
  exact ⟨ret_int (unfold_math n h0 h1), rfl⟩

theorem widthC (n : Int) (w : World) (h0 : 0 ≤ n) (h1 : n ≤ 18446744073709551615) :
    Calls Try.prog 42 #[.int .u64 n] w fun e w' => e = .returned (.int .i64 (widthI n)) ∧ w = w' := by
  obtain ⟨N, rfl⟩ := Int.eq_ofNat_of_zero_le h0
  go_enter Try.func42, Try.ntmps42
  go_wp2
  go_loop [3, 5] (fun v i => ∃ k : Nat, k ≤ 64 ∧ i = .int .i64 k ∧ v = .int .i64 (widthTo N k)) (fun _ i => 64 - (intOf i).toNat)
  case atStart => exact ⟨0, Nat.zero_le _, rfl, rfl⟩
  case round =>
    obtain ⟨k, hk, rfl, rfl⟩ := hrel
    by_cases hlt : k < 64
    · by_cases hz : N / 2 ^ k = 0
      · have hzz : ((N : Int) / 2 ^ k == 0) = true := (shr_zero N k).trans (decide_eq_true hz)
        go_wp2
        go_round
        case rel => exact ⟨k + 1, by omega, by go_num, by rw [width_same N k hz]⟩
        case measure => simp [intOf]; omega
      · have hzz : ((N : Int) / 2 ^ k == 0) = false := (shr_zero N k).trans (decide_eq_false hz)
        go_wp2
        go_round
        case rel => exact ⟨k + 1, by omega, by go_num, by rw [width_next N k hz]; rfl⟩
        case measure => simp [intOf]; omega
    · go_wp2
      go_ret
      have : k = 64 := by omega
      exact ⟨ret_int (by rw [this]; rfl), rfl⟩

theorem foldI_le (n : Int) (h0 : -9223372036854775808 ≤ n) (h1 : n ≤ 9223372036854775807) : 0 ≤ foldI n ∧ foldI n ≤ 18446744073709551615 := by unfold foldI; split <;> omega
theorem unfoldI_le (n : Int) (h0 : 0 ≤ n) (h1 : n ≤ 18446744073709551615) : -9223372036854775808 ≤ unfoldI n ∧ unfoldI n ≤ 9223372036854775807 := by unfold unfoldI; split <;> omega
theorem unfold_fold (n : Int) : unfoldI (foldI n) = n := by unfold unfoldI foldI; split <;> split <;> omega
theorem fold_unfold (n : Int) (h : 0 ≤ n) : foldI (unfoldI n) = n := by unfold unfoldI foldI; split <;> split <;> omega

theorem refFoldC (n : Int) (w : World) (h0 : -9223372036854775808 ≤ n) (h1 : n ≤ 9223372036854775807) :
    Calls Try.prog 31 #[.int .i64 n] w fun e w' => e = .returned (.int .u64 (foldI n)) ∧ w = w' := by
  have hf : foldI n = if 0 ≤ n then 2 * n else -2 * n - 1 := rfl
  have H := Lib.hid hf
  clear hf
  go_enter Try.func31, Try.ntmps31
  go_wp2
  all_goals go_ret
  all_goals exact ⟨ret_int (by rw [H.out]; split <;> omega), rfl⟩
end Go.Proofs.Ythfonmceggmjgaa
