/- Contracts of the plain functions of layer 1 and of its reference. -/
import Derived.Test.YtfdiomghoheljaaRows
import Derived.Test.YtfdiomghoheljaaPlain
import Derived.ProofKit
import Derived.OpenShut
import Derived.BigQuiet
import Derived.Deep.QuietTactic
namespace Go.Proofs.Ytfdiomghoheljaa
open Go.RowKit
set_option linter.unusedVariables false

/-- The powers of two that have room. -/
theorem powerC (k : Int) (w : World) (h : k ≤ 63) (h2 : -9223372036854775808 ≤ k) :
    Calls Try.prog 56 #[.int .i64 k] w fun e w' => e = .returned (.int .u64 ((2 ^ k.toNat : Nat) : Int)) ∧ w = w' := by
  by_cases h0 : 0 ≤ k
  · obtain ⟨K, rfl⟩ := Int.eq_ofNat_of_zero_le h0
    go_enter Try.func56, Try.ntmps56
    go_wp2
    go_loop [3, 4] (fun n i => ∃ k : Nat, k ≤ K ∧ i = .int .i64 k ∧ n = .int .u64 ((2 ^ k : Nat) : Int)) (fun _ i => K - (intOf i).toNat)
    case atStart => exact ⟨0, Nat.zero_le _, rfl, by simp⟩
    case round =>
      obtain ⟨k, hk, rfl, rfl⟩ := hrel
      by_cases hlt : k < K
      · have hm : 2 ^ k ≤ 4611686018427387904 := by
          have : 2 ^ k ≤ 2 ^ 62 := Nat.pow_le_pow_right (by decide) (by omega)
          omega
        generalize hM : 2 ^ k = M at hm ⊢
        have HM := Lib.hid hM
        clear hM
        go_wp2
        go_round
        case rel => exact ⟨k + 1, by omega, by go_num, by rw [Nat.pow_succ, HM.out]; rfl⟩
        case measure => simp [intOf]; omega
      · generalize hM : 2 ^ k = M
        have HM := Lib.hid hM
        clear hM
        go_wp2
        go_ret
        have : k = K := by omega
        exact ⟨ret_int (by rw [← HM.out, this]; rfl), rfl⟩
  · have e : (2 ^ k.toNat : Nat) = 1 := by
      have : k.toNat = 0 := by omega
      rw [this]
    rw [e]
    go_enter Try.func56, Try.ntmps56
    go_wp2
    go_loop [3, 4] (fun n i => i = .int .i64 0 ∧ n = .int .u64 1) (fun _ i => 0)
    case atStart => exact ⟨rfl, rfl⟩
    case round =>
      obtain ⟨rfl, rfl⟩ := hrel
      go_wp2
      go_ret
      exact ⟨rfl, rfl⟩

theorem widthC (n : Int) (w : World) (h0 : 0 ≤ n) (h1 : n ≤ 18446744073709551615) :
    Calls Try.prog 57 #[.int .u64 n] w fun e w' => e = .returned (.int .i64 (widthI n)) ∧ w = w' := by
  obtain ⟨N, rfl⟩ := Int.eq_ofNat_of_zero_le h0
  go_enter Try.func57, Try.ntmps57
  go_wp2
  go_loop [3, 5] (fun v i => ∃ k : Nat, k ≤ 64 ∧ i = .int .i64 k ∧ v = .int .i64 (widthTo N k)) (fun _ i => 64 - (intOf i).toNat)
  case atStart => exact ⟨0, Nat.zero_le _, rfl, rfl⟩
  case round =>
    obtain ⟨k, hk, rfl, rfl⟩ := hrel
    by_cases hlt : k < 64
    · by_cases hz : N / 2 ^ k = 0
      · have hzz : ((N : Int) / 2 ^ k == 0) = true := (shr_zero N k).trans (decide_eq_true hz)
        go_wp2
        go_round
        case rel => exact ⟨k + 1, by omega, by go_num, by rw [width_same N k hz]⟩
        case measure => simp [intOf]; omega
      · have hzz : ((N : Int) / 2 ^ k == 0) = false := (shr_zero N k).trans (decide_eq_false hz)
        go_wp2
        go_round
        case rel => exact ⟨k + 1, by omega, by go_num, by rw [width_next N k hz]; rfl⟩
        case measure => simp [intOf]; omega
    · go_wp2
      go_ret
      have : k = 64 := by omega
      exact ⟨ret_int (by rw [this]; rfl), rfl⟩

theorem foldI_le (n : Int) (h0 : -9223372036854775808 ≤ n) (h1 : n ≤ 9223372036854775807) : 0 ≤ foldI n ∧ foldI n ≤ 18446744073709551615 := by unfold foldI; split <;> omega
theorem unfoldI_le (n : Int) (h0 : 0 ≤ n) (h1 : n ≤ 18446744073709551615) : -9223372036854775808 ≤ unfoldI n ∧ unfoldI n ≤ 9223372036854775807 := by unfold unfoldI; split <;> omega
theorem unfold_fold (n : Int) : unfoldI (foldI n) = n := by unfold unfoldI foldI; split <;> split <;> omega
theorem fold_unfold (n : Int) (h : 0 ≤ n) : foldI (unfoldI n) = n := by unfold unfoldI foldI; split <;> split <;> omega

end Go.Proofs.Ytfdiomghoheljaa
