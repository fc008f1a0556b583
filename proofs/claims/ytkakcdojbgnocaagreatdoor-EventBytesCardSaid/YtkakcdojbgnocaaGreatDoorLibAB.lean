/- Contracts and plain words that the laws' proofs stand on, put together. -/
import Derived.Test.YtkakcdojbgnocaaGreatDoorRows
import Derived.Test.YtkakcdojbgnocaaGreatDoorLibAA
import Derived.ProofKit
import Derived.OpenShut
import Derived.BigQuiet
import Derived.Deep.QuietTactic
import Derived.BigRegion
/- Contracts of the plain functions of layer 1 and of its reference. -/
namespace Go.Proofs.YtkakcdojbgnocaaGreatDoor
open Go.RowKit
set_option linter.unusedVariables false

theorem foldC (n : Int) (w : World) (h0 : -9223372036854775808 ≤ n) (h1 : n ≤ 9223372036854775807) :
    Calls Tryz.prog 89 #[.int .i64 n] w fun e w' => e = .returned (.int .u64 (foldI n)) ∧ w = w' := by
  go_enter Tryz.func89, Tryz.ntmps89
  go_wp2
  go_ret
  exact ⟨ret_int (fold_math n h0 h1), rfl⟩

theorem unfoldC (n : Int) (w : World) (h0 : 0 ≤ n) (h1 : n ≤ 18446744073709551615) :
    Calls Tryz.prog 103 #[.int .u64 n] w fun e w' => e = .returned (.int .i64 (unfoldI n)) ∧ w = w' := by
  go_enter Tryz.func103, Tryz.ntmps103
  go_wp2
  go_ret
  exact ⟨ret_int (unfold_math n h0 h1), rfl⟩

theorem widthC (n : Int) (w : World) (h0 : 0 ≤ n) (h1 : n ≤ 18446744073709551615) :
    Calls Tryz.prog 88 #[.int .u64 n] w fun e w' => e = .returned (.int .i64 (widthI n)) ∧ w = w' := by
  obtain ⟨N, rfl⟩ := Int.eq_ofNat_of_zero_le h0
  go_enter Tryz.func88, Tryz.ntmps88
  go_wp2
  go_loop [3, 5] (fun v i => ∃ k : Nat, k ≤ 64 ∧ i = .int .i64 k ∧ v = .int .i64 (widthTo N k)) (fun _ i => 64 - (intOf i).toNat)
  case atStart => exact ⟨0, Nat.zero_le _, rfl, rfl⟩
  case round =>
    obtain ⟨k, hk, rfl, rfl⟩ := hrel
    by_cases hlt : k < 64
    · by_cases hz : N / 2 ^ k = 0
      · have hzz : ((N : Int) / 2 ^ k == 0) = true := (shr_zero N k).trans (decide_eq_true hz)
        go_wp2
        go_round
        case rel => exact ⟨k + 1, by omega, by go_num, by rw [width_same N k hz]⟩
        case measure => simp [intOf]; omega
      · have hzz : ((N : Int) / 2 ^ k == 0) = false := (shr_zero N k).trans (decide_eq_false hz)
        go_wp2
        go_round
        case rel => exact ⟨k + 1, by omega, by go_num, by rw [width_next N k hz]; rfl⟩
        case measure => simp [intOf]; omega
    · go_wp2
      go_ret
      have : k = 64 := by omega
      exact ⟨ret_int (by rw [this]; rfl), rfl⟩

theorem foldI_le (n : Int) (h0 : -9223372036854775808 ≤ n) (h1 : n ≤ 9223372036854775807) : 0 ≤ foldI n ∧ foldI n ≤ 18446744073709551615 := by unfold foldI; split <;> omega
theorem unfoldI_le (n : Int) (h0 : 0 ≤ n) (h1 : n ≤ 18446744073709551615) : -9223372036854775808 ≤ unfoldI n ∧ unfoldI n ≤ 9223372036854775807 := by unfold unfoldI; split <;> omega
theorem unfold_fold (n : Int) : unfoldI (foldI n) = n := by unfold unfoldI foldI; split <;> split <;> omega
theorem fold_unfold (n : Int) (h : 0 ≤ n) : foldI (unfoldI n) = n := by unfold unfoldI foldI; split <;> split <;> omega

theorem refFoldC (n : Int) (w : World) (h0 : -9223372036854775808 ≤ n) (h1 : n ≤ 9223372036854775807) :
    Calls Tryz.prog 63 #[.int .i64 n] w fun e w' => e = .returned (.int .u64 (foldI n)) ∧ w = w' := by
  have hf : foldI n = if 0 ≤ n then 2 * n else -2 * n - 1 := rfl
  have H := Lib.hid hf
  clear hf
  go_enter Tryz.func63, Tryz.ntmps63
  go_wp2
  all_goals go_ret
  all_goals exact ⟨ret_int (by rw [H.out]; split <;> omega), rfl⟩
end Go.Proofs.YtkakcdojbgnocaaGreatDoor

/- Contracts of layer 1's functions that make bytes. -/
namespace Go.Proofs.YtkakcdojbgnocaaGreatDoor
open Go.RowKit
set_option linter.unusedVariables false

theorem row_cell {w : World} {base : Nat} {e : TypeId} {size n cap g : Nat} {xs : List Value} (h : w.ownsRow base e size (.slice (some ⟨g, 0, none⟩) n cap) n xs) (j : Nat) (hj : j < n * size) (hl : j < xs.length) :
    ∃ v, w.cell? ⟨g, j, none⟩ = some v := by
  rw [h.cellAt j hj]
  exact ⟨_, List.getElem?_eq_getElem hl⟩

end Go.Proofs.YtkakcdojbgnocaaGreatDoor

/- Contracts of layer 1's functions over slices of bytes. -/
namespace Go.Proofs.YtkakcdojbgnocaaGreatDoor
open Go.RowKit
set_option linter.unusedVariables false

theorem sameC (l : List Int) (a b : Option Addr) (c d : Nat) (w : World) (ha : Reads w a (l.map (Value.int .u8))) (hb : Reads w b (l.map (Value.int .u8))) (hm : l.length ≤ maxLen) :
    Calls Tryz.prog 14 #[.slice a l.length c, .slice b l.length d] w fun e w' => e = .returned (.bool true) ∧ ∃ n, w' = w.drewN n := by
  unfold maxLen at hm
  generalize hn : l.length = n at hm ⊢
  have hN := Lib.hid hn
  clear hn
  go_enter Tryz.func14, Tryz.ntmps14
  go_wp2
  go_loopw [5] (fun i wr => ∃ k : Nat, k ≤ n ∧ i = .int .i64 k ∧ ∃ m, wr = w.drewN m) (fun i _ => n - (intOf i).toNat)
  case atStart => exact ⟨0, Nat.zero_le _, rfl, 0, rfl⟩
  case round =>
    obtain ⟨k, hk, rfl, m, rfl⟩ := hrel
    by_cases hlt : k < n
    · obtain ⟨B, off, rfl, c0⟩ := ha.at k (by rw [hN.out]; exact hlt)
      obtain ⟨B', off', rfl, c1⟩ := hb.at k (by rw [hN.out]; exact hlt)
      generalize l.getD k 0 = x at c0 c1
      have hlt' : (k : Int) < (n : Int) := by omega
      clear ha hb
      go_wp2_with fail
      go_quiet (fail)
      go_wp2
      go_roundw
      case rel => exact ⟨k + 1, by omega, by go_num, _, rfl⟩
      case measure => simp [intOf]; omega
    · go_wp2
      go_ret
      exact ⟨rfl, m, rfl⟩

end Go.Proofs.YtkakcdojbgnocaaGreatDoor

/- Contracts of the functions that make rows of bytes by append, or turn them round. -/
namespace Go.Proofs.YtkakcdojbgnocaaGreatDoor
open Go.RowKit
set_option linter.unusedVariables false

/-- A row of bytes in new memory. -/
def GivesRow (l : List Int) (w : World) (e : Ending) (w' : World) : Prop :=
  ∃ v, e = .returned v ∧ w'.ownsRow w.heap.size 5 1 v l.length (l.map (Value.int .u8)) ∧ Below w.heap.size w w'

end Go.Proofs.YtkakcdojbgnocaaGreatDoor
