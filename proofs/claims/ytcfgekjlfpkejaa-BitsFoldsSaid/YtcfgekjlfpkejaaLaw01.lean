/- The walks of layer 1's laws. -/
import Derived.Test.YtcfgekjlfpkejaaBitMem
import Derived.Test.YtcfgekjlfpkejaaOpen
namespace Go.Proofs.Ytcfgekjlfpkejaa
open Go.RowKit
set_option linter.unusedVariables false

theorem foldI_le (n : Int) (h0 : -9223372036854775808 ≤ n) (h1 : n ≤ 9223372036854775807) : 0 ≤ foldI n ∧ foldI n ≤ 18446744073709551615 := by unfold foldI; split <;> omega
theorem unfoldI_le (n : Int) (h0 : 0 ≤ n) (h1 : n ≤ 18446744073709551615) : -9223372036854775808 ≤ unfoldI n ∧ unfoldI n ≤ 9223372036854775807 := by unfold unfoldI; split <;> omega
theorem unfold_fold (n : Int) : unfoldI (foldI n) = n := by unfold unfoldI foldI; split <;> split <;> omega
theorem fold_unfold (n : Int) (h : 0 ≤ n) : foldI (unfoldI n) = n := by unfold unfoldI foldI; split <;> split <;> omega

theorem refFoldC (n : Int) (w : World) (h0 : -9223372036854775808 ≤ n) (h1 : n ≤ 9223372036854775807) :
    Calls Try.prog 17 #[.int .i64 n] w fun e w' => e = .returned (.int .u64 (foldI n)) ∧ w = w' := by
  have hf : foldI n = if 0 ≤ n then 2 * n else -2 * n - 1 := rfl
  have H := Lib.hid hf
  clear hf
  go_enter Try.func17, Try.ntmps17
  go_wp2
  all_goals go_ret
  all_goals exact ⟨ret_int (by rw [H.out]; split <;> omega), rfl⟩

theorem bitsFolds_walk (n m : Int) (w : World) (w0 : (Lit.int .i64 n).wf = true) (w1 : (Lit.int .u64 m).wf = true) :
    Calls Try.prog 5 #[.int .i64 n, .int .u64 m] w fun e w' => e = .returned (.bool true) ∧ Below w.heap.size w w' := by
  have b0 := wfI64 w0
  have b1 := wfU64 w1
  have hu := unfoldI_le m b1.1 b1.2
  have hf := foldI_le n b0.1 b0.2
  have E1 : (unfoldI (foldI n) == n) = true := by rw [unfold_fold]; simp
  have E2 : (foldI (unfoldI m) == m) = true := by rw [fold_unfold m b1.1]; simp
  clear w0 w1
  go_enter Try.func5, Try.ntmps5
  go_wp2_with (first
    | (go_at_call 16; (with_reducible refine (foldC _ _ (by omega) (by omega)).mono ?_); rintro e w' ⟨rfl, rfl⟩)
    | (go_at_call 17; (with_reducible refine (refFoldC _ _ (by omega) (by omega)).mono ?_); rintro e w' ⟨rfl, rfl⟩)
    | (go_at_call 18; (with_reducible refine (unfoldC _ _ (by omega) (by omega)).mono ?_); rintro e w' ⟨rfl, rfl⟩)
    | (go_at_call 11; (with_reducible refine (awakeC _).mono ?_); rintro e w' ⟨rfl, hb⟩))
  go_ret
  exact ⟨rfl, hb⟩
end Go.Proofs.Ytcfgekjlfpkejaa
