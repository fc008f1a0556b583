/- The walks of layer 1's laws. -/
import Derived.Test.YtcfgekjlfpkejaaBitRow
import Derived.Test.YtcfgekjlfpkejaaOpen
namespace Go.Proofs.Ytcfgekjlfpkejaa
open Go.RowKit
set_option linter.unusedVariables false

theorem foldI_le (n : Int) (h0 : -9223372036854775808 ≤ n) (h1 : n ≤ 9223372036854775807) : 0 ≤ foldI n ∧ foldI n ≤ 18446744073709551615 := by unfold foldI; split <;> omega
theorem unfoldI_le (n : Int) (h0 : 0 ≤ n) (h1 : n ≤ 18446744073709551615) : -9223372036854775808 ≤ unfoldI n ∧ unfoldI n ≤ 9223372036854775807 := by unfold unfoldI; split <;> omega
theorem unfold_fold (n : Int) : unfoldI (foldI n) = n := by unfold unfoldI foldI; split <;> split <;> omega
theorem fold_unfold (n : Int) (h : 0 ≤ n) : foldI (unfoldI n) = n := by unfold unfoldI foldI; split <;> split <;> omega

theorem refFoldC (n : Int) (w : World) (h0 : -9223372036854775808 ≤ n) (h1 : n ≤ 9223372036854775807) :
    Calls Try.prog 17 #[.int .i64 n] w fun e w' => e = .returned (.int .u64 (foldI n)) ∧ w = w' := by
  have hf : foldI n = if 0 ≤ n then 2 * n else -2 * n - 1 := rfl
  have H := Lib.hid hf
  clear hf
  go_enter Try.func17, Try.ntmps17
  go_wp2
  all_goals go_ret
  all_goals exact ⟨ret_int (by rw [H.out]; split <;> omega), rfl⟩

theorem bitsFolds_walk (n m : Int) (w : World) (w0 : (Lit.int .i64 n).wf = true) (w1 : (Lit.int .u64 m).wf = true) :
    Calls Try.prog 5 #[.int .i64 n, .int .u64 m] w fun e w' => e = .returned (.bool true) ∧ Below w.heap.size w w' := by
  have b0 := wfI64 w0
  have b1 := wfU64 w1
  have hu := unfoldI_le m b1.1 b1.2
  have hf := foldI_le n b0.1 b0.2
  have E1 : (unfoldI (foldI n) == n) = true := by rw [unfold_fold]; simp
  have E2 : (foldI (unfoldI m) == m) = true := by rw [fold_unfold m b1.1]; simp
  clear w0 w1
  go_enter Try.func5, Try.ntmps5
  go_wp2_with (first
    | (go_at_call 16; (with_reducible refine (foldC _ _ (by omega) (by omega)).mono ?_); rintro e w' ⟨rfl, rfl⟩)
    | (go_at_call 17; (with_reducible refine (refFoldC _ _ (by omega) (by omega)).mono ?_); rintro e w' ⟨rfl, rfl⟩)
    | (go_at_call 18; (with_reducible refine (unfoldC _ _ (by omega) (by omega)).mono ?_); rintro e w' ⟨rfl, rfl⟩)
    | (go_at_call 11; (with_reducible refine (awakeC _).mono ?_); rintro e w' ⟨rfl, hb⟩))
  go_ret
  exact ⟨rfl, hb⟩

theorem turnI_le (n b : Int) : 0 ≤ turnI n b ∧ turnI n b ≤ 4294967295 ∨ 4294967295 < n ∨ n < 0 := by
  by_cases h : 4294967295 < n
  · exact .inr (.inl h)
  by_cases h' : n < 0
  · exact .inr (.inr h')
  left
  unfold turnI
  obtain ⟨N, rfl⟩ := Int.eq_ofNat_of_zero_le (Int.not_lt.mp h')
  rw [Int.toNat_natCast]
  have h1 : N <<< (b % 32).toNat % 4294967296 < 2 ^ 32 := Nat.mod_lt _ (by decide)
  have h2 : N >>> (32 - (b % 32).toNat) < 2 ^ 32 := Nat.lt_of_le_of_lt (shr_le _ _) (by omega)
  have h3 := Nat.or_lt_two_pow h1 h2
  generalize (N <<< (b % 32).toNat % 4294967296 ||| N >>> (32 - (b % 32).toNat)) = X at h3 ⊢
  omega

theorem turnsK (b : Int) : ∃ K : Nat, K < 32 ∧ (K : Int) = b % 32 ∧ ((0 ≤ b ∧ b % 32 = K) ∨ (b < 0 ∧ b.tmod 32 = K) ∨ (b < 0 ∧ b.tmod 32 = (K : Int) - 32)) := by
  refine ⟨(b % 32).toNat, by omega, by omega, ?_⟩
  by_cases h : 0 ≤ b
  · exact .inl ⟨h, by omega⟩
  · by_cases h2 : b % 32 = 0
    · exact .inr (.inl ⟨by omega, by rw [Int.tmod_eq_emod, if_pos (.inr (Int.dvd_of_emod_eq_zero h2))]; omega⟩)
    · refine .inr (.inr ⟨by omega, ?_⟩)
      rw [Int.tmod_eq_emod]
      have : ¬ (32 : Int) ∣ b := fun hd => h2 (Int.emod_eq_zero_of_dvd hd)
      simp [h, this]
      omega

theorem bitsTurns_walk (n b m : Int) (w : World) (w0 : (Lit.int .u32 n).wf = true) (w1 : (Lit.int .i64 b).wf = true) (w2 : (Lit.int .u64 m).wf = true) :
    Calls Try.prog 6 #[.int .u32 n, .int .i64 b, .int .u64 m] w fun e w' => e = .returned (.bool true) ∧ Below w.heap.size w w' := by
  have b0 := wfU32 w0
  have b1 := wfI64 w1
  have b2 := wfU64 w2
  obtain ⟨K, hK, hKb, hways⟩ := turnsK b
  have ht : 0 ≤ turnI n b ∧ turnI n b ≤ 4294967295 := by have := turnI_le n b; omega
  have HB : Hid (∀ i : Nat, i < 32 → bitI (turnI n b) ((i + K) % 32) = bitI n i) := fun i hi => turn_bit n b b0.1 b0.2 i K hi hKb
  clear w0 w1 w2 hKb
  rcases hways with ⟨h1, h2⟩ | ⟨h1, h2⟩ | ⟨h1, h2⟩
  all_goals
    go_enter Try.func6, Try.ntmps6
    go_wp2_with (go_at_call 19; (with_reducible refine (turnC n b _ b0.1 b0.2 b1.1 b1.2).mono ?_); rintro e w' ⟨rfl, rfl⟩)
    clear h2
    go_loop [9] (fun i => ∃ k : Nat, k ≤ 32 ∧ i = .int .i64 k) (fun i => 32 - (intOf i).toNat)
    case atStart => exact ⟨0, Nat.zero_le _, rfl⟩
    case round =>
      obtain ⟨k, hk, rfl⟩ := hrel
      by_cases hlt : k < 32
      · have e1 : bitI (turnI n b) (((k : Int) + (K : Int)) % 32).toNat = bitI n k := by
          rw [← HB.out k hlt]; congr 1
        have H1 := Lib.hid e1
        clear e1
        go_wp2_with (first
          | (go_at_call 20; (with_reducible refine (refBitC (turnI n b) _ _ (by omega) (by omega) (by omega) (by omega)).mono ?_); rw [H1.out]; rintro e w' ⟨rfl, rfl⟩)
          | (go_at_call 20; (with_reducible refine (refBitC n _ _ (by omega) (by omega) (by omega) (by omega)).mono ?_); rw [Int.toNat_natCast]; rintro e w' ⟨rfl, rfl⟩))
        go_round
        case rel => exact ⟨k + 1, by omega, by go_num⟩
        case measure => simp [intOf]; omega
      · go_wp2_with (first
          | (go_at_call 21; (with_reducible refine (widthC m _ b2.1 b2.2).mono ?_); rintro e w' ⟨rfl, rfl⟩)
          | (go_at_call 22; (with_reducible refine (refWidthC m _ b2.1 b2.2).mono ?_); rintro e w' ⟨rfl, rfl⟩)
          | (go_at_call 11; (with_reducible refine (awakeC _).mono ?_); rintro e w' ⟨rfl, hb⟩))
        go_ret
        exact ⟨rfl, hb⟩

theorem fieldI_le (n a k : Int) (h : 0 ≤ n) (h1 : n ≤ 18446744073709551615) : 0 ≤ fieldI n a k ∧ fieldI n a k ≤ 18446744073709551615 := by
  unfold fieldI
  have h2 : n.toNat >>> a.toNat &&& 18446744073709551615 >>> (64 - k.toNat) ≤ n.toNat >>> a.toNat := Nat.and_le_left
  have h3 := shr_le n.toNat a.toNat
  omega
theorem withI_le (n a k v : Int) (h : 0 ≤ n) (h1 : n ≤ 18446744073709551615) : 0 ≤ withI n a k v ∧ withI n a k v ≤ 18446744073709551615 := by
  unfold withI
  have h2 : (n.toNat &&& (18446744073709551615 - ((18446744073709551615 >>> (64 - k.toNat)) <<< a.toNat) % 18446744073709551616)) < 2 ^ 64 := Nat.lt_of_le_of_lt Nat.and_le_left (by omega)
  have h3 : (v.toNat <<< a.toNat) % 18446744073709551616 < 2 ^ 64 := Nat.mod_lt _ (by decide)
  have h4 := Nat.or_lt_two_pow h2 h3
  generalize ((n.toNat &&& (18446744073709551615 - ((18446744073709551615 >>> (64 - k.toNat)) <<< a.toNat) % 18446744073709551616)) ||| (v.toNat <<< a.toNat) % 18446744073709551616) = X at h4 ⊢
  omega

set_option maxRecDepth 100000 in
theorem bitsFields_out (n a k v : Int) (w : World) (h4 : 0 ≤ n) (h5 : n ≤ 18446744073709551615) (h6 : 0 ≤ v) (h7 : v ≤ 18446744073709551615)
    (h0 : -9223372036854775808 ≤ a) (h1 : a ≤ 9223372036854775807) (h2 : -9223372036854775808 ≤ k) (h3 : k ≤ 9223372036854775807)
    (h : a < 0 ∨ 0 ≤ a ∧ 63 < a ∨ 0 ≤ a ∧ a ≤ 63 ∧ k < 1 ∨ 0 ≤ a ∧ a ≤ 63 ∧ 1 ≤ k ∧ 64 - a < k) :
    Calls Try.prog 7 #[.int .u64 n, .agg #[.int .i64 a, .int .i64 k], .int .u64 v] w fun e w' => e = .returned (.bool true) ∧ Below w.heap.size w w' := by
  have H : Hid (a < 0 ∨ 63 < a ∨ k < 1 ∨ 64 - a < k) := by unfold Hid; omega
  rcases h with h | ⟨g1, g2⟩ | ⟨g1, g2, g3⟩ | ⟨g1, g2, g3, g4⟩
  all_goals
    go_enter Try.func7, Try.ntmps7
    go_wp2_with (first
      | (go_at_call 23; (with_reducible refine (fieldNo _ _ _ _ h0 h1 h2 h3 H.out).mono ?_); rintro e w' ⟨rfl, rfl⟩)
      | (go_at_call 24; (with_reducible refine (withNo _ _ _ _ _ h0 h1 h2 h3 H.out).mono ?_); rintro e w' ⟨rfl, rfl⟩)
      | (go_at_call 11; (with_reducible refine (awakeC _).mono ?_); rintro e w' ⟨rfl, hb⟩))
    go_ret
    exact ⟨rfl, ((Below.refl _ _).alloc (Nat.le_refl _) _).trans (hb.mono (by simp))⟩

/-- The first loop's end and what stands behind it, by the loop's two halves. -/
theorem field_round (n : Int) (A K i : Nat) (hK : K ≤ 64) : bitI (fieldI n (A : Int) (K : Int)) i = (decide (i < K) && bitI n (A + i)) := by
  have := field_bit n (A : Int) (K : Int) (by omega) i
  simpa using this

theorem with_round (n v : Int) (A K i : Nat) (hK : K ≤ 64 - A) (hi : i < 64) (hr : roomI v (K : Int) = true) (hA : A ≤ 63) (h7 : v ≤ 18446744073709551615) :
    bitI (withI n (A : Int) (K : Int) v) i = if A ≤ i ∧ i < A + K then bitI v (i - A) else bitI n i := by
  have hv : v < ((2 ^ K : Nat) : Int) := by
    by_cases h64 : K = 64
    · subst h64; omega
    · have := room_small v (K : Int) (by omega)
      rw [hr] at this
      simpa using of_decide_eq_true this
  have := with_bit n (A : Int) (K : Int) v (by omega) (by omega) (by omega) (by simpa using hv) i hi
  simpa using this

/-- What is known at each round's head. -/
def Boxed (A K : Nat) (w wr : World) : Prop := wr.cell? ⟨w.heap.size, 0, none⟩ = some (.int .i64 (A : Int)) ∧ wr.cell? ⟨w.heap.size, 1, none⟩ = some (.int .i64 (K : Int)) ∧ Below w.heap.size w wr

set_option maxRecDepth 100000 in
set_option maxHeartbeats 1000000 in
theorem bitsFields_none (n v : Int) (A K : Nat) (w : World) (h4 : 0 ≤ n) (h5 : n ≤ 18446744073709551615) (h6 : 0 ≤ v) (h7 : v ≤ 18446744073709551615)
    (g1 : (A : Int) ≤ 63) (g2 : 1 ≤ (K : Int)) (g3 : (K : Int) ≤ 64 - A) (hr : roomI v K = false) :
    Calls Try.prog 7 #[.int .u64 n, .agg #[.int .i64 A, .int .i64 K], .int .u64 v] w fun e w' => e = .returned (.bool true) ∧ Below w.heap.size w w' := by
  have HR := Lib.hid hr
  clear hr
  have hf := fieldI_le n A K h4 h5
  go_enter Try.func7, Try.ntmps7
  go_wp2_with (first
    | (go_at_call 23; (with_reducible refine (fieldYes _ _ _ _ h4 h5 (by omega) g1 g2 g3).mono ?_); rintro e w' ⟨rfl, m1, rfl⟩)
    | (go_at_call 24; (with_reducible refine (withNone _ _ _ _ _ h6 h7 (by omega) g1 g2 g3 HR.out).mono ?_); rintro e w' ⟨rfl, rfl⟩))
  go_loopw [11] (fun i wr => ∃ k : Nat, k ≤ 64 ∧ i = .int .i64 k ∧ Boxed A K w wr) (fun i _ => 64 - (intOf i).toNat)
  case atStart => exact ⟨0, Nat.zero_le _, rfl, by simp, by simp, below_drewN ((Below.refl _ _).alloc (Nat.le_refl _) _) _⟩
  case round =>
    obtain ⟨i, hi, rfl, c0, c1, hb⟩ := hrel
    by_cases hlt : i < 64
    · have HF := Lib.hid (field_round n A K i (by omega))
      by_cases hk : i < K
      · have e1 : bitI (fieldI n A K) i = bitI n (A + i) := by rw [HF.out]; simp [hk]
        have d1 : decide (i < K) = true := by simpa using hk
        have d2 : (A : Int) + (i : Int) < 64 := by omega
        have d3 : decide ((63 : Int) < (A : Int) + (i : Int)) = false := by simp; omega
        have d4 : ((A : Int) + (i : Int)).toNat = A + i := by omega
        have d5 : ¬ ((63 : Int) < (A : Int) + (i : Int)) := by omega
        go_wp2_with fail
        go_quiet ((go_at_call 20; exact Calls.quiet_of_same ((refBitC _ _ _ (by omega) (by omega) (by omega) (by omega)).mono fun e w' h => ⟨h.1, h.2.symm⟩)))
        go_wp2
        go_roundw
        case rel => exact ⟨i + 1, by omega, by go_num, c0, c1, below_drewN hb _⟩
        case measure => simp [intOf]; omega
      · have e1 : bitI (fieldI n A K) i = false := by rw [HF.out]; simp [hk]
        have d1 : decide (i < K) = false := by simpa using hk
        go_wp2_with fail
        go_quiet ((go_at_call 20; exact Calls.quiet_of_same ((refBitC _ _ _ (by omega) (by omega) (by omega) (by omega)).mono fun e w' h => ⟨h.1, h.2.symm⟩)))
        go_wp2
        go_roundw
        case rel => exact ⟨i + 1, by omega, by go_num, c0, c1, below_drewN hb _⟩
        case measure => simp [intOf]; omega
    · go_wp2_with (first
        | (go_at_call 10; (with_reducible refine (refRoomC v K _ h6 h7 (by omega) (by omega)).mono ?_); rw [HR.out]; rintro e w' ⟨rfl, rfl⟩)
        | (go_at_call 11; (with_reducible refine (awakeC _).mono ?_); rintro e w' ⟨rfl, hbb⟩))
      go_ret
      exact ⟨rfl, hb.trans (hbb.mono (hb.size))⟩

set_option maxRecDepth 100000 in
set_option maxHeartbeats 1000000 in
theorem bitsFields_some (n v : Int) (A K : Nat) (w : World) (h4 : 0 ≤ n) (h5 : n ≤ 18446744073709551615) (h6 : 0 ≤ v) (h7 : v ≤ 18446744073709551615)
    (g1 : (A : Int) ≤ 63) (g2 : 1 ≤ (K : Int)) (g3 : (K : Int) ≤ 64 - A) (hr : roomI v K = true) :
    Calls Try.prog 7 #[.int .u64 n, .agg #[.int .i64 A, .int .i64 K], .int .u64 v] w fun e w' => e = .returned (.bool true) ∧ Below w.heap.size w w' := by
  have HR := Lib.hid hr
  clear hr
  have hf := fieldI_le n A K h4 h5
  have hg := withI_le n A K v h4 h5
  go_enter Try.func7, Try.ntmps7
  go_wp2_with (first
    | (go_at_call 23; (with_reducible refine (fieldYes _ _ _ _ h4 h5 (by omega) g1 g2 g3).mono ?_); rintro e w' ⟨rfl, m1, rfl⟩)
    | (go_at_call 24; (with_reducible refine (withYes _ _ _ _ _ h4 h5 h6 h7 (by omega) g1 g2 g3 HR.out).mono ?_); rintro e w' ⟨rfl, m2, rfl⟩))
  go_loopw [11] (fun i wr => ∃ k : Nat, k ≤ 64 ∧ i = .int .i64 k ∧ Boxed A K w wr) (fun i _ => 64 - (intOf i).toNat)
  case atStart => exact ⟨0, Nat.zero_le _, rfl, by simp, by simp, below_drewN ((Below.refl _ _).alloc (Nat.le_refl _) _) _⟩
  case round =>
    obtain ⟨i, hi, rfl, c0, c1, hb⟩ := hrel
    by_cases hlt : i < 64
    · have HF := Lib.hid (field_round n A K i (by omega))
      by_cases hk : i < K
      · have e1 : bitI (fieldI n A K) i = bitI n (A + i) := by rw [HF.out]; simp [hk]
        have d1 : decide (i < K) = true := by simpa using hk
        have d2 : (A : Int) + (i : Int) < 64 := by omega
        have d3 : decide ((63 : Int) < (A : Int) + (i : Int)) = false := by simp; omega
        have d4 : ((A : Int) + (i : Int)).toNat = A + i := by omega
        have d5 : ¬ ((63 : Int) < (A : Int) + (i : Int)) := by omega
        go_wp2_with fail
        go_quiet ((go_at_call 20; exact Calls.quiet_of_same ((refBitC _ _ _ (by omega) (by omega) (by omega) (by omega)).mono fun e w' h => ⟨h.1, h.2.symm⟩)))
        go_wp2
        go_roundw
        case rel => exact ⟨i + 1, by omega, by go_num, c0, c1, below_drewN hb _⟩
        case measure => simp [intOf]; omega
      · have e1 : bitI (fieldI n A K) i = false := by rw [HF.out]; simp [hk]
        have d1 : decide (i < K) = false := by simpa using hk
        go_wp2_with fail
        go_quiet ((go_at_call 20; exact Calls.quiet_of_same ((refBitC _ _ _ (by omega) (by omega) (by omega) (by omega)).mono fun e w' h => ⟨h.1, h.2.symm⟩)))
        go_wp2
        go_roundw
        case rel => exact ⟨i + 1, by omega, by go_num, c0, c1, below_drewN hb _⟩
        case measure => simp [intOf]; omega
    · go_wp2_with (first
        | (go_at_call 10; (with_reducible refine (refRoomC v K _ h6 h7 (by omega) (by omega)).mono ?_); rw [HR.out]; rintro e w' ⟨rfl, rfl⟩))
      obtain ⟨wo, rfl⟩ : ∃ wo : World, wo = wr := ⟨_, rfl⟩
      go_loopw [12] (fun i wr => ∃ k : Nat, k ≤ 64 ∧ i = .int .i64 k ∧ Boxed A K w wr) (fun i _ => 64 - (intOf i).toNat)
      case atStart => exact ⟨0, Nat.zero_le _, rfl, c0, c1, hb⟩
      case round =>
        clear c0 c1 hb
        obtain ⟨j, hj, rfl, c0, c1, hb⟩ := hrel
        by_cases hlt : j < 64
        · have HF := Lib.hid (with_round n v A K j (by omega) hlt HR.out (by omega) h7)
          by_cases hk : A ≤ j ∧ j < A + K
          · obtain ⟨k1, k2⟩ := hk
            have e1 : bitI (withI n A K v) j = bitI v (j - A) := by rw [HF.out, if_pos ⟨k1, k2⟩]
            have d2 : (j : Int) < (A : Int) + (K : Int) := by omega
            have d4 : ((j : Int) - (A : Int)).toNat = j - A := by omega
            go_wp2_with (go_at_call 20; (with_reducible refine (refBitC _ _ _ (by omega) (by omega) (by omega) (by omega)).mono ?_); rintro e w' ⟨rfl, rfl⟩)
            go_roundw
            case rel => exact ⟨j + 1, by omega, by go_num, c0, c1, hb⟩
            case measure => simp [intOf]; omega
          · have e1 : bitI (withI n A K v) j = bitI n j := by rw [HF.out, if_neg hk]
            by_cases k1 : A ≤ j
            · have k2 : ¬ (j : Int) < (A : Int) + (K : Int) := by omega
              clear hk
              go_wp2_with (go_at_call 20; (with_reducible refine (refBitC _ _ _ (by omega) (by omega) (by omega) (by omega)).mono ?_); rintro e w' ⟨rfl, rfl⟩)
              go_roundw
              case rel => exact ⟨j + 1, by omega, by go_num, c0, c1, hb⟩
              case measure => simp [intOf]; omega
            · clear hk
              go_wp2_with (go_at_call 20; (with_reducible refine (refBitC _ _ _ (by omega) (by omega) (by omega) (by omega)).mono ?_); rintro e w' ⟨rfl, rfl⟩)
              go_roundw
              case rel => exact ⟨j + 1, by omega, by go_num, c0, c1, hb⟩
              case measure => simp [intOf]; omega
        · go_wp2_with (first
            | (go_at_call 11; (with_reducible refine (awakeC _).mono ?_); rintro e w' ⟨rfl, hbb⟩))
          go_ret
          exact ⟨rfl, hb.trans (hbb.mono (hb.size))⟩

theorem bitsFields_walk (n a k v : Int) (w : World) (w0 : (Lit.int .u64 n).wf = true) (wa : (Lit.int .i64 a).wf = true) (wb : (Lit.int .i64 k).wf = true) (w2 : (Lit.int .u64 v).wf = true) :
    Calls Try.prog 7 #[.int .u64 n, .agg #[.int .i64 a, .int .i64 k], .int .u64 v] w fun e w' => e = .returned (.bool true) ∧ Below w.heap.size w w' := by
  have b0 := wfU64 w0
  have b1 := wfI64 wa
  have b2 := wfI64 wb
  have b3 := wfU64 w2
  by_cases h : a < 0 ∨ 0 ≤ a ∧ 63 < a ∨ 0 ≤ a ∧ a ≤ 63 ∧ k < 1 ∨ 0 ≤ a ∧ a ≤ 63 ∧ 1 ≤ k ∧ 64 - a < k
  · exact bitsFields_out n a k v w b0.1 b0.2 b3.1 b3.2 b1.1 b1.2 b2.1 b2.2 h
  · obtain ⟨A, rfl⟩ := Int.eq_ofNat_of_zero_le (show 0 ≤ a by omega)
    obtain ⟨K, rfl⟩ := Int.eq_ofNat_of_zero_le (show 0 ≤ k by omega)
    cases hr : roomI v K
    · exact bitsFields_none n v A K w b0.1 b0.2 b3.1 b3.2 (by omega) (by omega) (by omega) hr
    · exact bitsFields_some n v A K w b0.1 b0.2 b3.1 b3.2 (by omega) (by omega) (by omega) hr

theorem lowBytes_succ (n : Int) (k : Nat) : lowBytes n (k + 1) = n % 256 :: lowBytes (n / 256) k := by
  unfold lowBytes
  rw [List.range_succ_eq_map, List.map_cons, List.map_map]
  congr 1
  · simp
  · apply List.map_congr_left
    intro i _
    show n / 2 ^ (8 * (i + 1)) % 256 = n / 256 / 2 ^ (8 * i) % 256
    rw [Int.ediv_ediv_of_nonneg (by omega)]
    congr 2
    rw [Nat.mul_add, Int.pow_add, Int.mul_comm]
    rfl
theorem lowBytes_leNum : ∀ (l : List Int), IsBytes l → lowBytes (leNum l) l.length = l
  | [], _ => rfl
  | x :: l, h => by
    have hx := h x List.mem_cons_self
    have ih := lowBytes_leNum l (fun y hy => h y (List.mem_cons_of_mem _ hy))
    rw [List.length_cons, lowBytes_succ, leNum]
    have e1 : (x + 256 * leNum l) % 256 = x := by omega
    have e2 : (x + 256 * leNum l) / 256 = leNum l := by omega
    rw [e1, e2, ih]
theorem leNum_room (l : List Int) (h : IsBytes l) (hl : l.length ≤ 8) : roomI (leNum l) (8 * (l.length : Int)) = true := by
  by_cases h8 : l.length = 8
  · rw [h8]; exact room_big _ _ (by omega)
  · rw [← room_small _ _ (by omega)]
    have h1 := (leNum_bd l h).2
    rw [pow256] at h1
    have e : (8 * (l.length : Int)).toNat = 8 * l.length := by omega
    rw [e]
    exact decide_eq_true h1

theorem bitsNumbers_some (l : List Int) (a : Option Addr) (c : Nat) (w : World) (ha : Reads w a (l.map (Value.int .u8))) (hl : IsBytes l) (h1 : 1 ≤ l.length) (h8 : l.length ≤ 8) :
    Calls Try.prog 4 #[.slice a l.length c] w fun e w' => e = .returned (.bool true) ∧ Below w.heap.size w w' := by
  have hn := leNum_le l hl h8
  have HR := Lib.hid (leNum_room l hl h8)
  have HB := bytesYes (leNum l) l.length w hn.1 hn.2 h1 h8 HR.out
  rw [lowBytes_leNum l hl] at HB
  have HN := fun w (ha : Reads w a (l.map (Value.int .u8))) => refNumberC l a c w ha hl h8
  have HM := numberC l a c w ha hl h1 h8
  have HS := fun (w : World) (b : Option Addr) (d : Nat) (ha : Reads w a (l.map (Value.int .u8))) (hb : Reads w b (l.map (Value.int .u8))) => sameC l a b c d w ha hb (by unfold maxLen; omega)
  generalize hN : l.length = n at h1 h8 HB HN HS HM ⊢
  have h0 : ((n : Int) == 0) = false := by simp; omega
  generalize leNum l = N at hn HB HN HM
  go_enter Try.func4, Try.ntmps4
  go_wp2_with (first
    | (go_at_call 14; (with_reducible refine HM.mono ?_); rintro e w' ⟨rfl, rfl⟩)
    | (go_at_call 8; refine HB.mono ?_; rintro e w1 ⟨g, cap, rfl, hown, hb⟩; rw [hN] at hown ⊢; obtain ⟨a', cap', e1, hrd, -, -, -, -⟩ := owns_reads hown; cases e1))
  have ha1 := ha.below' hb
  go_wp2_with (first
    | (go_at_call 15; (with_reducible refine (HN _ ha1).mono ?_); rintro e w' ⟨rfl, rfl⟩)
    | (go_at_call 13; (with_reducible refine (HS _ _ _ ha1 hrd).mono ?_); rintro e w' ⟨rfl, m, rfl⟩)
    | (go_at_call 11; (with_reducible refine (awakeC _).mono ?_); rintro e w' ⟨rfl, hbb⟩))
  go_ret
  exact ⟨rfl, (below_drewN hb m).trans (hbb.mono hb.size)⟩

theorem bitsNumbers_walk (a : Option Addr) (len cap : Nat) (zs : List Int) (w : World) (w0 : IsRow .u8 w a len cap zs) :
    Calls Try.prog 4 #[.slice a len cap] w fun e w' => e = .returned (.bool true) ∧ Below w.heap.size w w' := by
  obtain ⟨hr, hl, hc, hm, hw⟩ := isRow_reads w0
  clear w0
  by_cases h0 : len = 0
  · subst h0
    go_enter Try.func4, Try.ntmps4
    go_wp2_with (first
      | (go_at_call 14; (with_reducible refine (numberShort _ _ _).mono ?_); rintro e w' ⟨rfl, rfl⟩)
      | (go_at_call 11; (with_reducible refine (awakeC _).mono ?_); rintro e w' ⟨rfl, hbb⟩))
    go_ret
    exact ⟨rfl, hbb⟩
  · by_cases h8 : 8 < len
    · have hn0 : ((len : Int) == 0) = false := by simp; omega
      clear hl
      go_enter Try.func4, Try.ntmps4
      go_wp2_with (first
        | (go_at_call 14; (with_reducible refine (numberLong _ _ _ _ h8 (by omega)).mono ?_); rintro e w' ⟨rfl, rfl⟩)
        | (go_at_call 11; (with_reducible refine (awakeC _).mono ?_); rintro e w' ⟨rfl, hbb⟩))
      go_ret
      exact ⟨rfl, hbb⟩
    · have := bitsNumbers_some (zs.take len) a cap w hr (fun x hx => wfU8 (hw x hx)) (by omega) (by omega)
      rw [hl] at this
      exact this
end Go.Proofs.Ytcfgekjlfpkejaa
