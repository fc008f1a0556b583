/- Contracts of layer 6: single bytes. -/
import Derived.Test.YthefieemngmnjaaGreatDoorRows
import Derived.Test.YthefieemngmnjaaGreatDoorAsciiPlain
import Derived.Test.YthefieemngmnjaaGreatDoorLibAA
import Derived.BigQuiet
import Derived.Deep.QuietTactic
import Derived.Deep.RegionHeld3
namespace Go.Proofs.YthefieemngmnjaaGreatDoor
open Go.RowKit
set_option linter.unusedVariables false

theorem smallC (x : UInt8) (w : World) : Calls Tryz.prog 114 #[.int .u8 (x.toNat : Int)] w fun e w' => e = .returned (.int .u8 ((low x).toNat : Int)) ∧ w = w' := by
  have h0 := u8_lt x
  by_cases h : 65 ≤ x.toNat ∧ x.toNat ≤ 90
  · obtain ⟨h1, h2⟩ := h
    rw [low_up ⟨h1, h2⟩]
    generalize x.toNat = n at *
    go_enter Tryz.func114, Tryz.ntmps114
    go_wp2
    go_ret
    simp
    omega
  · rw [low_not h]
    generalize x.toNat = n at *
    go_enter Tryz.func114, Tryz.ntmps114
    go_wp2
    all_goals (go_ret; simp)

theorem isBlankC (x : UInt8) (w : World) : Calls Tryz.prog 85 #[.int .u8 (x.toNat : Int)] w fun e w' => e = .returned (.bool (blank x)) ∧ w = w' := by
  have h0 := u8_lt x
  unfold blank
  generalize x.toNat = n at *
  go_enter Tryz.func85, Tryz.ntmps85
  go_wp2
  all_goals (go_ret; first | done | (simp; done) | (simp; omega) | (refine ⟨?_, rfl⟩; congr 2; rw [Bool.eq_iff_iff]; simp; omega) | (simp; rw [Bool.eq_iff_iff]; simp; omega))

theorem isControlC (x : UInt8) (w : World) : Calls Tryz.prog 83 #[.int .u8 (x.toNat : Int)] w fun e w' => e = .returned (.bool (ctl x)) ∧ w = w' := by
  have h0 := u8_lt x
  unfold ctl
  generalize x.toNat = n at *
  go_enter Tryz.func83, Tryz.ntmps83
  go_wp2
  all_goals (go_ret; first | done | (simp; done) | (simp; omega) | (refine ⟨?_, rfl⟩; congr 2; rw [Bool.eq_iff_iff]; simp; omega) | (simp; rw [Bool.eq_iff_iff]; simp; omega))

theorem trimFnC (x : UInt8) (w : World) : Calls Tryz.prog 86 #[.int .u8 (x.toNat : Int)] w fun e w' => e = .returned (.bool (!blank x)) ∧ w = w' := by
  have h0 := u8_lt x
  have H := isBlankC x
  generalize blank x = b at *
  go_enter Tryz.func86, Tryz.ntmps86
  go_wp2_with (go_at_call 85; (with_reducible refine (H _).mono ?_); rintro e w1 ⟨rfl, rfl⟩)
  go_ret
  exact ⟨rfl, rfl⟩

theorem digitFnC (x : UInt8) (w : World) : Calls Tryz.prog 142 #[.int .u8 (x.toNat : Int)] w fun e w' => e = .returned (.bool (!digit x)) ∧ w = w' := by
  have h0 := u8_lt x
  unfold digit
  generalize x.toNat = n at *
  go_enter Tryz.func142, Tryz.ntmps142
  go_wp2
  all_goals (go_ret; first | done | (simp; done) | (simp; omega) | (refine ⟨?_, rfl⟩; congr 2; rw [Bool.eq_iff_iff]; simp; omega) | (simp; rw [Bool.eq_iff_iff]; simp; omega))

theorem cutFnC (x : UInt8) (c : UInt8) (b : Nat) (w : World) (hc : w.cell? ⟨b, 0, none⟩ = some (.int .u8 (c.toNat : Int))) : Calls Tryz.prog 84 #[.int .u8 (x.toNat : Int), .pointer (some ⟨b, 0, none⟩)] w fun e w' => e = .returned (.bool (x == c)) ∧ w = w' := by
  have h0 := u8_lt x
  have h1 := u8_lt c
  have hx : (x == c) = ((x.toNat : Int) == (c.toNat : Int)) := by
    rw [Bool.eq_iff_iff]
    simp
    exact ⟨fun h => by rw [h], fun h => UInt8.toNat_inj.1 (by omega)⟩
  rw [hx]
  generalize x.toNat = n at *
  generalize c.toNat = m at *
  go_enter Tryz.func84, Tryz.ntmps84
  go_wp2
  all_goals (go_ret; first | done | (simp; done) | (simp; omega))

set_option maxRecDepth 100000 in
theorem firstTrimC (p : UInt8 → Bool) (l : List UInt8) (n : Nat) (w : World) (hp : ∀ x : UInt8, Calls Tryz.prog 86 #[.int .u8 (x.toNat : Int)] w fun e w' => e = .returned (.bool (p x)) ∧ w = w') (hl : l.length = n) (hm : n ≤ maxLen) :
    Calls Tryz.prog 82 #[.string (str l), .func (.func 86) #[] #[]] w fun e w' => e = .returned (.int .i64 (l.findIdx p : Int)) ∧ w = w' := by
  have hsz : (str l).size = n := by rw [str_size, hl]
  unfold maxLen at hm
  have HL := Lib.hid hl
  clear hl
  go_enter Tryz.func82, Tryz.ntmps82
  go_wp2
  go_step3
  go_wp2
  go_step3
  go_wp2
  go_loopw [5, 11] (fun v i wr => ∃ k : Nat, k ≤ n ∧ v = .int .i64 (n : Int) ∧ i = .int .i64 (k : Int) ∧ Hid (∀ j, j < k → p (l.getD j 0) = false) ∧ w = wr) (fun _ i _ => n - (intOf i).toNat)
  case atStart => exact ⟨0, Nat.zero_le _, rfl, rfl, fun j hj => absurd hj (by omega), rfl⟩
  case round =>
    obtain ⟨k, hk, rfl, rfl, H, rfl⟩ := hrel
    by_cases hlt : k < n
    · have hlt' : (k : Int) < (n : Int) := by omega
      have hi := run_index_str (P := Tryz.prog) w 9 l .i64 k Tryz.underlying9 (by rw [HL.out]; exact hlt)
      have HF := Lib.hid (fun hp => findIdx_at (p := p) H.out (by rw [HL.out]; exact hlt) hp)
      have HN := Lib.hid (fun (hp : p (l.getD k 0) = false) => (fun j hj => by
        rcases Nat.lt_succ_iff_lt_or_eq.1 hj with h | rfl
        · exact H.out j h
        · exact hp : ∀ j, j < k + 1 → p (l.getD j 0) = false))
      have HC := hp (l.getD k 0)
      generalize p (l.getD k 0) = t at HC HF HN
      generalize l.getD k 0 = x at HC hi
      cases t
      · have HN2 := Lib.hid (HN.out rfl)
        clear HN HF
        go_wp2_with (go_at_call 86; (with_reducible refine HC.mono ?_); rintro e w1 ⟨rfl, rfl⟩)
        go_roundw
        case rel => exact ⟨k + 1, by omega, rfl, by go_num, HN2.out, by first | rfl | trivial⟩
        case measure => simp [intOf]; omega
      · have HF2 := Lib.hid (HF.out rfl)
        clear HN HF
        go_wp2_with (go_at_call 86; (with_reducible refine HC.mono ?_); rintro e w1 ⟨rfl, rfl⟩)
        rw [Exit.noGoto_ret]
        go_ret
        exact ⟨by rw [HF2.out]; rfl, rfl⟩
    · obtain rfl : k = n := by omega
      have HE := Lib.hid (findIdx_end (p := p) (by rw [HL.out]; exact H.out))
      rw [HL.out] at HE
      go_wp2
      rw [Exit.noGoto_ret]
      go_ret
      exact ⟨by rw [HE.out]; rfl, rfl⟩

set_option maxRecDepth 100000 in
theorem firstDigitC (p : UInt8 → Bool) (l : List UInt8) (n : Nat) (w : World) (hp : ∀ x : UInt8, Calls Tryz.prog 142 #[.int .u8 (x.toNat : Int)] w fun e w' => e = .returned (.bool (p x)) ∧ w = w') (hl : l.length = n) (hm : n ≤ maxLen) :
    Calls Tryz.prog 82 #[.string (str l), .func (.func 142) #[] #[]] w fun e w' => e = .returned (.int .i64 (l.findIdx p : Int)) ∧ w = w' := by
  have hsz : (str l).size = n := by rw [str_size, hl]
  unfold maxLen at hm
  have HL := Lib.hid hl
  clear hl
  go_enter Tryz.func82, Tryz.ntmps82
  go_wp2
  go_step3
  go_wp2
  go_step3
  go_wp2
  go_loopw [5, 11] (fun v i wr => ∃ k : Nat, k ≤ n ∧ v = .int .i64 (n : Int) ∧ i = .int .i64 (k : Int) ∧ Hid (∀ j, j < k → p (l.getD j 0) = false) ∧ w = wr) (fun _ i _ => n - (intOf i).toNat)
  case atStart => exact ⟨0, Nat.zero_le _, rfl, rfl, fun j hj => absurd hj (by omega), rfl⟩
  case round =>
    obtain ⟨k, hk, rfl, rfl, H, rfl⟩ := hrel
    by_cases hlt : k < n
    · have hlt' : (k : Int) < (n : Int) := by omega
      have hi := run_index_str (P := Tryz.prog) w 9 l .i64 k Tryz.underlying9 (by rw [HL.out]; exact hlt)
      have HF := Lib.hid (fun hp => findIdx_at (p := p) H.out (by rw [HL.out]; exact hlt) hp)
      have HN := Lib.hid (fun (hp : p (l.getD k 0) = false) => (fun j hj => by
        rcases Nat.lt_succ_iff_lt_or_eq.1 hj with h | rfl
        · exact H.out j h
        · exact hp : ∀ j, j < k + 1 → p (l.getD j 0) = false))
      have HC := hp (l.getD k 0)
      generalize p (l.getD k 0) = t at HC HF HN
      generalize l.getD k 0 = x at HC hi
      cases t
      · have HN2 := Lib.hid (HN.out rfl)
        clear HN HF
        go_wp2_with (go_at_call 142; (with_reducible refine HC.mono ?_); rintro e w1 ⟨rfl, rfl⟩)
        go_roundw
        case rel => exact ⟨k + 1, by omega, rfl, by go_num, HN2.out, by first | rfl | trivial⟩
        case measure => simp [intOf]; omega
      · have HF2 := Lib.hid (HF.out rfl)
        clear HN HF
        go_wp2_with (go_at_call 142; (with_reducible refine HC.mono ?_); rintro e w1 ⟨rfl, rfl⟩)
        rw [Exit.noGoto_ret]
        go_ret
        exact ⟨by rw [HF2.out]; rfl, rfl⟩
    · obtain rfl : k = n := by omega
      have HE := Lib.hid (findIdx_end (p := p) (by rw [HL.out]; exact H.out))
      rw [HL.out] at HE
      go_wp2
      rw [Exit.noGoto_ret]
      go_ret
      exact ⟨by rw [HE.out]; rfl, rfl⟩

set_option maxRecDepth 100000 in
theorem firstCtlC (p : UInt8 → Bool) (l : List UInt8) (n : Nat) (w : World) (hp : ∀ x : UInt8, Calls Tryz.prog 83 #[.int .u8 (x.toNat : Int)] w fun e w' => e = .returned (.bool (p x)) ∧ w = w') (hl : l.length = n) (hm : n ≤ maxLen) :
    Calls Tryz.prog 82 #[.string (str l), .func (.func 83) #[] #[]] w fun e w' => e = .returned (.int .i64 (l.findIdx p : Int)) ∧ w = w' := by
  have hsz : (str l).size = n := by rw [str_size, hl]
  unfold maxLen at hm
  have HL := Lib.hid hl
  clear hl
  go_enter Tryz.func82, Tryz.ntmps82
  go_wp2
  go_step3
  go_wp2
  go_step3
  go_wp2
  go_loopw [5, 11] (fun v i wr => ∃ k : Nat, k ≤ n ∧ v = .int .i64 (n : Int) ∧ i = .int .i64 (k : Int) ∧ Hid (∀ j, j < k → p (l.getD j 0) = false) ∧ w = wr) (fun _ i _ => n - (intOf i).toNat)
  case atStart => exact ⟨0, Nat.zero_le _, rfl, rfl, fun j hj => absurd hj (by omega), rfl⟩
  case round =>
    obtain ⟨k, hk, rfl, rfl, H, rfl⟩ := hrel
    by_cases hlt : k < n
    · have hlt' : (k : Int) < (n : Int) := by omega
      have hi := run_index_str (P := Tryz.prog) w 9 l .i64 k Tryz.underlying9 (by rw [HL.out]; exact hlt)
      have HF := Lib.hid (fun hp => findIdx_at (p := p) H.out (by rw [HL.out]; exact hlt) hp)
      have HN := Lib.hid (fun (hp : p (l.getD k 0) = false) => (fun j hj => by
        rcases Nat.lt_succ_iff_lt_or_eq.1 hj with h | rfl
        · exact H.out j h
        · exact hp : ∀ j, j < k + 1 → p (l.getD j 0) = false))
      have HC := hp (l.getD k 0)
      generalize p (l.getD k 0) = t at HC HF HN
      generalize l.getD k 0 = x at HC hi
      cases t
      · have HN2 := Lib.hid (HN.out rfl)
        clear HN HF
        go_wp2_with (go_at_call 83; (with_reducible refine HC.mono ?_); rintro e w1 ⟨rfl, rfl⟩)
        go_roundw
        case rel => exact ⟨k + 1, by omega, rfl, by go_num, HN2.out, by first | rfl | trivial⟩
        case measure => simp [intOf]; omega
      · have HF2 := Lib.hid (HF.out rfl)
        clear HN HF
        go_wp2_with (go_at_call 83; (with_reducible refine HC.mono ?_); rintro e w1 ⟨rfl, rfl⟩)
        rw [Exit.noGoto_ret]
        go_ret
        exact ⟨by rw [HF2.out]; rfl, rfl⟩
    · obtain rfl : k = n := by omega
      have HE := Lib.hid (findIdx_end (p := p) (by rw [HL.out]; exact H.out))
      rw [HL.out] at HE
      go_wp2
      rw [Exit.noGoto_ret]
      go_ret
      exact ⟨by rw [HE.out]; rfl, rfl⟩

set_option maxRecDepth 100000 in
theorem firstCutC (p : UInt8 → Bool) (l : List UInt8) (n : Nat) (b : Nat) (w : World) (hp : ∀ x : UInt8, Calls Tryz.prog 84 #[.int .u8 (x.toNat : Int), .pointer (some ⟨b, 0, none⟩)] w fun e w' => e = .returned (.bool (p x)) ∧ w = w') (hl : l.length = n) (hm : n ≤ maxLen) :
    Calls Tryz.prog 82 #[.string (str l), .func (.func 84) #[] #[.pointer (some ⟨b, 0, none⟩)]] w fun e w' => e = .returned (.int .i64 (l.findIdx p : Int)) ∧ w = w' := by
  have hsz : (str l).size = n := by rw [str_size, hl]
  unfold maxLen at hm
  have HL := Lib.hid hl
  clear hl
  go_enter Tryz.func82, Tryz.ntmps82
  go_wp2
  go_step3
  go_wp2
  go_step3
  go_wp2
  go_loopw [5, 11] (fun v i wr => ∃ k : Nat, k ≤ n ∧ v = .int .i64 (n : Int) ∧ i = .int .i64 (k : Int) ∧ Hid (∀ j, j < k → p (l.getD j 0) = false) ∧ w = wr) (fun _ i _ => n - (intOf i).toNat)
  case atStart => exact ⟨0, Nat.zero_le _, rfl, rfl, fun j hj => absurd hj (by omega), rfl⟩
  case round =>
    obtain ⟨k, hk, rfl, rfl, H, rfl⟩ := hrel
    by_cases hlt : k < n
    · have hlt' : (k : Int) < (n : Int) := by omega
      have hi := run_index_str (P := Tryz.prog) w 9 l .i64 k Tryz.underlying9 (by rw [HL.out]; exact hlt)
      have HF := Lib.hid (fun hp => findIdx_at (p := p) H.out (by rw [HL.out]; exact hlt) hp)
      have HN := Lib.hid (fun (hp : p (l.getD k 0) = false) => (fun j hj => by
        rcases Nat.lt_succ_iff_lt_or_eq.1 hj with h | rfl
        · exact H.out j h
        · exact hp : ∀ j, j < k + 1 → p (l.getD j 0) = false))
      have HC := hp (l.getD k 0)
      generalize p (l.getD k 0) = t at HC HF HN
      generalize l.getD k 0 = x at HC hi
      cases t
      · have HN2 := Lib.hid (HN.out rfl)
        clear HN HF
        go_wp2_with (go_at_call 84; (with_reducible refine HC.mono ?_); rintro e w1 ⟨rfl, rfl⟩)
        go_roundw
        case rel => exact ⟨k + 1, by omega, rfl, by go_num, HN2.out, by first | rfl | trivial⟩
        case measure => simp [intOf]; omega
      · have HF2 := Lib.hid (HF.out rfl)
        clear HN HF
        go_wp2_with (go_at_call 84; (with_reducible refine HC.mono ?_); rintro e w1 ⟨rfl, rfl⟩)
        rw [Exit.noGoto_ret]
        go_ret
        exact ⟨by rw [HF2.out]; rfl, rfl⟩
    · obtain rfl : k = n := by omega
      have HE := Lib.hid (findIdx_end (p := p) (by rw [HL.out]; exact H.out))
      rw [HL.out] at HE
      go_wp2
      rw [Exit.noGoto_ret]
      go_ret
      exact ⟨by rw [HE.out]; rfl, rfl⟩

end Go.Proofs.YthefieemngmnjaaGreatDoor
