/- Contracts of the plain functions of layer 1 and of its reference. -/
import Derived.Test.YtcfgekjlfpkejaaRows
import Derived.Test.YtcfgekjlfpkejaaPlain
import Derived.ProofKit
import Derived.OpenShut
import Derived.BigQuiet
import Derived.Deep.QuietTactic
namespace Go.Proofs.Ytcfgekjlfpkejaa
open Go.RowKit
set_option linter.unusedVariables false

theorem foldC (n : Int) (w : World) (h0 : -9223372036854775808 ≤ n) (h1 : n ≤ 9223372036854775807) :
    Calls Try.prog 16 #[.int .i64 n] w fun e w' => e = .returned (.int .u64 (foldI n)) ∧ w = w' := by
  go_enter Try.func16, Try.ntmps16
  go_wp2
  go_ret
  exact ⟨ret_int (fold_math n h0 h1), rfl⟩

theorem unfoldC (n : Int) (w : World) (h0 : 0 ≤ n) (h1 : n ≤ 18446744073709551615) :
    Calls Try.prog 18 #[.int .u64 n] w fun e w' => e = .returned (.int .i64 (unfoldI n)) ∧ w = w' := by
  go_enter Try.func18, Try.ntmps18
  go_wp2
  go_ret
  exact ⟨ret_int (unfold_math n h0 h1), rfl⟩

theorem turnC (n b : Int) (w : World) (h0 : 0 ≤ n) (h1 : n ≤ 4294967295) (h2 : -9223372036854775808 ≤ b) (h3 : b ≤ 9223372036854775807) :
    Calls Try.prog 19 #[.int .u32 n, .int .i64 b] w fun e w' => e = .returned (.int .u32 (turnI n b)) ∧ w = w' := by
  have ha := and31 b
  go_enter Try.func19, Try.ntmps19
  go_wp2
  all_goals go_ret
  exact ⟨ret_int (turn_math n b h0 h1), rfl⟩

theorem hasRoomC (n k : Int) (w : World) (h0 : 0 ≤ n) (h1 : n ≤ 18446744073709551615) (h2 : 0 ≤ k) (h3 : k ≤ 9223372036854775807) :
    Calls Try.prog 30 #[.int .u64 n, .int .i64 k] w fun e w' => e = .returned (.bool (n / 2 ^ min k.toNat 64 == 0)) ∧ w = w' := by
  go_enter Try.func30, Try.ntmps30
  go_wp2
  all_goals go_ret
  exact ⟨rfl, rfl⟩

theorem onesC (k : Int) (w : World) (h2 : 1 ≤ k) (h3 : k ≤ 64) :
    Calls Try.prog 29 #[.int .i64 k] w fun e w' => e = .returned (.int .u64 (18446744073709551615 / 2 ^ (64 - k).toNat)) ∧ w = w' := by
  go_enter Try.func29, Try.ntmps29
  go_wp2
  all_goals go_ret
  exact ⟨rfl, rfl⟩

theorem isFieldYes (a k : Int) (w : World) (h0 : 0 ≤ a) (h1 : a ≤ 63) (h2 : 1 ≤ k) (h3 : k ≤ 64 - a) :
    Calls Try.prog 28 #[.int .i64 a, .int .i64 k] w fun e w' => e = .returned (.bool true) ∧ w = w' := by
  go_enter Try.func28, Try.ntmps28
  go_wp2
  all_goals go_ret
  exact ⟨rfl, rfl⟩

theorem isFieldNo (a k : Int) (w : World) (h0 : -9223372036854775808 ≤ a) (h1 : a ≤ 9223372036854775807) (h2 : -9223372036854775808 ≤ k) (h3 : k ≤ 9223372036854775807)
    (h : a < 0 ∨ 63 < a ∨ k < 1 ∨ 64 - a < k) :
    Calls Try.prog 28 #[.int .i64 a, .int .i64 k] w fun e w' => e = .returned (.bool false) ∧ w = w' := by
  have H := Lib.hid h
  clear h
  go_enter Try.func28, Try.ntmps28
  go_wp2
  all_goals go_ret
  all_goals exact ⟨ret_bool (by first | rfl | (have h := H.out; simp; omega)), rfl⟩

/-- A bit, asked by halving. -/
theorem refBitC (n k : Int) (w : World) (h0 : 0 ≤ n) (h1 : n ≤ 18446744073709551615) (h2 : 0 ≤ k) (h3 : k ≤ 9223372036854775807) :
    Calls Try.prog 20 #[.int .u64 n, .int .i64 k] w fun e w' => e = .returned (.bool (bitI n k.toNat)) ∧ w = w' := by
  obtain ⟨N, rfl⟩ := Int.eq_ofNat_of_zero_le h0
  obtain ⟨K, rfl⟩ := Int.eq_ofNat_of_zero_le h2
  go_enter Try.func20, Try.ntmps20
  go_wp2
  go_loop [0, 5] (fun n i => ∃ k : Nat, k ≤ K ∧ i = .int .i64 k ∧ n = .int .u64 ((N / 2 ^ k : Nat) : Int)) (fun _ i => K - (intOf i).toNat)
  case atStart => exact ⟨0, Nat.zero_le _, rfl, by simp⟩
  case round =>
    obtain ⟨k, hk, rfl, rfl⟩ := hrel
    have hm : N / 2 ^ k ≤ N := Nat.div_le_self _ _
    generalize hM : N / 2 ^ k = M at hm ⊢
    have HM := Lib.hid hM
    clear hM
    by_cases hlt : k < K
    · go_wp2
      go_round
      case rel => exact ⟨k + 1, by omega, by go_num, by rw [← HM.out, Nat.pow_succ, ← Nat.div_div_eq_div_mul]; rfl⟩
      case measure => simp [intOf]; omega
    · go_wp2
      go_ret
      refine ⟨ret_bool ?_, rfl⟩
      have : k = K := by omega
      rw [← HM.out, this]
      exact bitI_nat N K

/-- The powers of two that have room. -/
theorem powerC (k : Int) (w : World) (h : k ≤ 63) (h2 : -9223372036854775808 ≤ k) :
    Calls Try.prog 27 #[.int .i64 k] w fun e w' => e = .returned (.int .u64 ((2 ^ k.toNat : Nat) : Int)) ∧ w = w' := by
  by_cases h0 : 0 ≤ k
  · obtain ⟨K, rfl⟩ := Int.eq_ofNat_of_zero_le h0
    go_enter Try.func27, Try.ntmps27
    go_wp2
    go_loop [3, 4] (fun n i => ∃ k : Nat, k ≤ K ∧ i = .int .i64 k ∧ n = .int .u64 ((2 ^ k : Nat) : Int)) (fun _ i => K - (intOf i).toNat)
    case atStart => exact ⟨0, Nat.zero_le _, rfl, by simp⟩
    case round =>
      obtain ⟨k, hk, rfl, rfl⟩ := hrel
      by_cases hlt : k < K
      · have hm : 2 ^ k ≤ 4611686018427387904 := by
          have : 2 ^ k ≤ 2 ^ 62 := Nat.pow_le_pow_right (by decide) (by omega)
          omega
        generalize hM : 2 ^ k = M at hm ⊢
        have HM := Lib.hid hM
        clear hM
        go_wp2
        go_round
        case rel => exact ⟨k + 1, by omega, by go_num, by rw [Nat.pow_succ, HM.out]; rfl⟩
        case measure => simp [intOf]; omega
      · generalize hM : 2 ^ k = M
        have HM := Lib.hid hM
        clear hM
        go_wp2
        go_ret
        have : k = K := by omega
        exact ⟨ret_int (by rw [← HM.out, this]; rfl), rfl⟩
  · have e : (2 ^ k.toNat : Nat) = 1 := by
      have : k.toNat = 0 := by omega
      rw [this]
    rw [e]
    go_enter Try.func27, Try.ntmps27
    go_wp2
    go_loop [3, 4] (fun n i => i = .int .i64 0 ∧ n = .int .u64 1) (fun _ i => 0)
    case atStart => exact ⟨rfl, rfl⟩
    case round =>
      obtain ⟨rfl, rfl⟩ := hrel
      go_wp2
      go_ret
      exact ⟨rfl, rfl⟩

theorem refRoomC (n k : Int) (w : World) (h0 : 0 ≤ n) (h1 : n ≤ 18446744073709551615) (h : k ≤ 9223372036854775807) (h2 : -9223372036854775808 ≤ k) :
    Calls Try.prog 10 #[.int .u64 n, .int .i64 k] w fun e w' => e = .returned (.bool (roomI n k)) ∧ w = w' := by
  by_cases h3 : 64 ≤ k
  · go_enter Try.func10, Try.ntmps10
    go_wp2
    go_ret
    exact ⟨ret_bool (room_big n k h3).symm, rfl⟩
  · go_enter Try.func10, Try.ntmps10
    go_wp2_with (go_at_call 27; refine (powerC _ _ (by omega) (by omega)).mono ?_; rintro e w' ⟨rfl, rfl⟩)
    go_ret
    exact ⟨ret_bool (room_small n k (by omega)), rfl⟩


theorem fieldNo (n a k : Int) (w : World) (h0 : -9223372036854775808 ≤ a) (h1 : a ≤ 9223372036854775807) (h2 : -9223372036854775808 ≤ k) (h3 : k ≤ 9223372036854775807)
    (h : a < 0 ∨ 63 < a ∨ k < 1 ∨ 64 - a < k) :
    Calls Try.prog 23 #[.int .u64 n, .int .i64 a, .int .i64 k] w fun e w' => e = .returned (.tuple #[.int .u64 0, .int .i64 4]) ∧ w = w' := by
  have H := Lib.hid h
  clear h
  go_enter Try.func23, Try.ntmps23
  go_wp2_with (go_at_call 28; refine (isFieldNo _ _ _ h0 h1 h2 h3 H.out).mono ?_; rintro e w' ⟨rfl, rfl⟩)
  go_ret2
  exact ⟨rfl, rfl⟩

theorem fieldYes (n a k : Int) (w : World) (h4 : 0 ≤ n) (h5 : n ≤ 18446744073709551615) (h0 : 0 ≤ a) (h1 : a ≤ 63) (h2 : 1 ≤ k) (h3 : k ≤ 64 - a) :
    Calls Try.prog 23 #[.int .u64 n, .int .i64 a, .int .i64 k] w fun e w' => e = .returned (.tuple #[.int .u64 (fieldI n a k), .int .i64 0]) ∧ ∃ m, w' = w.drewN m := by
  go_enter Try.func23, Try.ntmps23
  go_wp2_with (go_at_call 28; refine (isFieldYes _ _ _ h0 h1 h2 h3).mono ?_; rintro e w' ⟨rfl, rfl⟩)
  go_quiet ((go_at_call 29; exact Calls.quiet_of_same ((onesC _ _ (by omega) (by omega)).mono fun e w' h => ⟨h.1, h.2.symm⟩)))
  go_wp2
  go_ret2
  exact ⟨ret2 (field_math n a k h4 h5 (by omega) (by omega)) rfl, _, rfl⟩

theorem withNo (n a k v : Int) (w : World) (h0 : -9223372036854775808 ≤ a) (h1 : a ≤ 9223372036854775807) (h2 : -9223372036854775808 ≤ k) (h3 : k ≤ 9223372036854775807)
    (h : a < 0 ∨ 63 < a ∨ k < 1 ∨ 64 - a < k) :
    Calls Try.prog 24 #[.int .u64 n, .int .i64 a, .int .i64 k, .int .u64 v] w fun e w' => e = .returned (.tuple #[.int .u64 0, .int .i64 4]) ∧ w = w' := by
  have H := Lib.hid h
  clear h
  go_enter Try.func24, Try.ntmps24
  go_wp2_with (go_at_call 28; refine (isFieldNo _ _ _ h0 h1 h2 h3 H.out).mono ?_; rintro e w' ⟨rfl, rfl⟩)
  go_ret2
  exact ⟨rfl, rfl⟩

theorem withNone (n a k v : Int) (w : World) (h6 : 0 ≤ v) (h7 : v ≤ 18446744073709551615) (h0 : 0 ≤ a) (h1 : a ≤ 63) (h2 : 1 ≤ k) (h3 : k ≤ 64 - a) (hr : roomI v k = false) :
    Calls Try.prog 24 #[.int .u64 n, .int .i64 a, .int .i64 k, .int .u64 v] w fun e w' => e = .returned (.tuple #[.int .u64 0, .int .i64 4]) ∧ w = w' := by
  have e1 := (room_shift v k h6 h7 (by omega)).trans hr
  have H := Lib.hid e1
  clear hr e1
  go_enter Try.func24, Try.ntmps24
  go_wp2_with (first | (go_at_call 28; refine (isFieldYes _ _ _ h0 h1 h2 h3).mono ?_; rintro e w' ⟨rfl, rfl⟩) | (go_at_call 30; refine (hasRoomC _ _ _ h6 h7 (by omega) (by omega)).mono ?_; rw [H.out]; rintro e w' ⟨rfl, rfl⟩))
  go_ret2
  exact ⟨rfl, rfl⟩

theorem withYes (n a k v : Int) (w : World) (h4 : 0 ≤ n) (h5 : n ≤ 18446744073709551615) (h6 : 0 ≤ v) (h7 : v ≤ 18446744073709551615) (h0 : 0 ≤ a) (h1 : a ≤ 63) (h2 : 1 ≤ k) (h3 : k ≤ 64 - a) (hr : roomI v k = true) :
    Calls Try.prog 24 #[.int .u64 n, .int .i64 a, .int .i64 k, .int .u64 v] w fun e w' => e = .returned (.tuple #[.int .u64 (withI n a k v), .int .i64 0]) ∧ ∃ m, w' = w.drewN m := by
  have e1 := (room_shift v k h6 h7 (by omega)).trans hr
  have H := Lib.hid e1
  clear hr e1
  go_enter Try.func24, Try.ntmps24
  go_wp2_with (first | (go_at_call 28; refine (isFieldYes _ _ _ h0 h1 h2 h3).mono ?_; rintro e w' ⟨rfl, rfl⟩) | (go_at_call 30; refine (hasRoomC _ _ _ h6 h7 (by omega) (by omega)).mono ?_; rw [H.out]; rintro e w' ⟨rfl, rfl⟩))
  go_quiet ((go_at_call 29; exact Calls.quiet_of_same ((onesC _ _ (by omega) (by omega)).mono fun e w' h => ⟨h.1, h.2.symm⟩)))
  go_wp2
  go_ret2
  exact ⟨ret2 (with_math n a k v h4 h5 h6 h7 (by omega) (by omega)) rfl, _, rfl⟩

theorem widthC (n : Int) (w : World) (h0 : 0 ≤ n) (h1 : n ≤ 18446744073709551615) :
    Calls Try.prog 21 #[.int .u64 n] w fun e w' => e = .returned (.int .i64 (widthI n)) ∧ w = w' := by
  obtain ⟨N, rfl⟩ := Int.eq_ofNat_of_zero_le h0
  go_enter Try.func21, Try.ntmps21
  go_wp2
  go_loop [3, 5] (fun v i => ∃ k : Nat, k ≤ 64 ∧ i = .int .i64 k ∧ v = .int .i64 (widthTo N k)) (fun _ i => 64 - (intOf i).toNat)
  case atStart => exact ⟨0, Nat.zero_le _, rfl, rfl⟩
  case round =>
    obtain ⟨k, hk, rfl, rfl⟩ := hrel
    by_cases hlt : k < 64
    · by_cases hz : N / 2 ^ k = 0
      · have hzz : ((N : Int) / 2 ^ k == 0) = true := (shr_zero N k).trans (decide_eq_true hz)
        go_wp2
        go_round
        case rel => exact ⟨k + 1, by omega, by go_num, by rw [width_same N k hz]⟩
        case measure => simp [intOf]; omega
      · have hzz : ((N : Int) / 2 ^ k == 0) = false := (shr_zero N k).trans (decide_eq_false hz)
        go_wp2
        go_round
        case rel => exact ⟨k + 1, by omega, by go_num, by rw [width_next N k hz]; rfl⟩
        case measure => simp [intOf]; omega
    · go_wp2
      go_ret
      have : k = 64 := by omega
      exact ⟨ret_int (by rw [this]; rfl), rfl⟩

theorem refWidthC (n : Int) (w : World) (h0 : 0 ≤ n) (h1 : n ≤ 18446744073709551615) :
    Calls Try.prog 22 #[.int .u64 n] w fun e w' => e = .returned (.int .i64 (widthI n)) ∧ w = w' := by
  obtain ⟨N, rfl⟩ := Int.eq_ofNat_of_zero_le h0
  go_enter Try.func22, Try.ntmps22
  go_wp2
  go_loop [3, 4] (fun v i => ∃ k : Nat, k ≤ 64 ∧ i = .int .i64 k ∧ v = .int .i64 (widthRef N k)) (fun _ i => 64 - (intOf i).toNat)
  case atStart => exact ⟨0, Nat.zero_le _, rfl, rfl⟩
  case round =>
    obtain ⟨k, hk, rfl, rfl⟩ := hrel
    by_cases hlt : k < 64
    · by_cases hz : bitI N k = true
      · have H := Lib.hid hz
        clear hz
        go_wp2_with (go_at_call 20; refine (refBitC _ _ _ h0 h1 (by omega) (by omega)).mono ?_; rw [Int.toNat_natCast, H.out]; rintro e w' ⟨rfl, rfl⟩)
        go_round
        case rel => exact ⟨k + 1, by omega, by go_num, by rw [widthRef, if_pos H.out]; rfl⟩
        case measure => simp [intOf]; omega
      · have H := Lib.hid (Bool.eq_false_iff.mpr hz)
        clear hz
        go_wp2_with (go_at_call 20; refine (refBitC _ _ _ h0 h1 (by omega) (by omega)).mono ?_; rw [Int.toNat_natCast, H.out]; rintro e w' ⟨rfl, rfl⟩)
        go_round
        case rel => exact ⟨k + 1, by omega, by go_num, by rw [widthRef, H.out]; rfl⟩
        case measure => simp [intOf]; omega
    · go_wp2
      go_ret
      have : k = 64 := by omega
      exact ⟨ret_int (by rw [this]; exact widthRef_eq N (by omega)), rfl⟩
end Go.Proofs.Ytcfgekjlfpkejaa
