/- Contracts of the reference of layer 6: places, digits, controls, numbers. -/
import Derived.Test.YtlmcfflpgkapgaaAsciiRef
namespace Go.Proofs.Ytlmcfflpgkapgaa
open Go.RowKit
set_option linter.unusedVariables false

/-- Where the first byte c stands; -1: nowhere. -/
def findL (l : List UInt8) (c : UInt8) : Int := if l.findIdx (· == c) = l.length then -1 else (l.findIdx (· == c) : Int)

set_option maxRecDepth 100000 in
theorem refFindC (l : List UInt8) (c : UInt8) (n : Nat) (w : World) (hl : l.length = n) (hm : n ≤ maxLen) :
    Calls Try.prog 25 #[.string (str l), .int .u8 (c.toNat : Int)] w fun e w' => e = .returned (.int .i64 (findL l c)) ∧ w = w' := by
  have hsz : (str l).size = n := by rw [str_size, hl]
  unfold maxLen at hm
  have HL := Lib.hid hl
  clear hl
  go_enter Try.func25, Try.ntmps25
  go_wp2
  go_loopw [5] (fun i wr => ∃ k : Nat, k ≤ n ∧ i = .int .i64 (k : Int) ∧ Hid (∀ j, j < k → (l.getD j 0 == c) = false) ∧ w = wr) (fun i _ => n - (intOf i).toNat)
  case atStart => exact ⟨0, Nat.zero_le _, rfl, fun j hj => absurd hj (by omega), rfl⟩
  case round =>
    obtain ⟨k, hk, rfl, H, rfl⟩ := hrel
    by_cases hlt : k < n
    · have hlt' : (k : Int) < (n : Int) := by omega
      have hi := run_index_str (P := Try.prog) w 9 l .i64 k Try.underlying9 (by rw [HL.out]; omega)
      have hc := u8_lt c
      by_cases hx : l.getD k 0 = c
      · have HF := Lib.hid (findIdx_at (l := l) (p := (· == c)) H.out (by rw [HL.out]; exact hlt) (by simpa using hx))
        rw [hx] at hi
        generalize c.toNat = x at *
        go_wp2
        go_ret
        refine ⟨?_, rfl⟩
        unfold findL
        rw [HF.out, HL.out, if_neg (by omega)]
        rfl
      · have HN : Hid (∀ j, j < k + 1 → (l.getD j 0 == c) = false) := fun j hj => by
          rcases Nat.lt_succ_iff_lt_or_eq.1 hj with h | rfl
          · exact H.out j h
          · simpa using hx
        have hne : ((((l.getD k 0).toNat : Nat) : Int) == (c.toNat : Int)) = false := by
          simp only [beq_eq_false_iff_ne, ne_eq]
          intro h
          exact hx (UInt8.toNat_inj.1 (by omega))
        clear H hx
        generalize c.toNat = y at *
        generalize (l.getD k 0).toNat = x at *
        go_wp2
        go_roundw
        case rel => exact ⟨k + 1, by omega, by go_num, HN.out, by first | rfl | trivial⟩
        case measure => simp [intOf]; omega
    · obtain rfl : k = n := by omega
      have HE := Lib.hid (findIdx_end (l := l) (p := (· == c)) (by rw [HL.out]; exact H.out))
      go_wp2
      go_ret
      refine ⟨?_, rfl⟩
      unfold findL
      rw [HE.out, if_pos rfl]
      rfl

set_option maxRecDepth 100000 in
theorem refControlC (l : List UInt8) (n : Nat) (w : World) (hl : l.length = n) (hm : n ≤ maxLen) :
    Calls Try.prog 22 #[.string (str l)] w fun e w' => e = .returned (.bool (l.any ctl)) ∧ w = w' := by
  have hsz : (str l).size = n := by rw [str_size, hl]
  unfold maxLen at hm
  have HL := Lib.hid hl
  clear hl
  obtain ⟨A, hA⟩ : ∃ A : Nat → Bool, ∀ k, A k = (l.take k).any ctl := ⟨fun k => (l.take k).any ctl, fun _ => rfl⟩
  have HA := Lib.hid hA
  have HR : Hid (l.any ctl = A n) := by unfold Hid; rw [hA, ← HL.out, List.take_of_length_le (Nat.le_refl _)]
  have h0 : A 0 = false := by rw [hA]; rfl
  clear hA
  go_enter Try.func22, Try.ntmps22
  go_wp2
  go_loopw [3, 4] (fun v i wr => ∃ k : Nat, k ≤ n ∧ v = .bool (A k) ∧ i = .int .i64 (k : Int) ∧ w = wr) (fun _ i _ => n - (intOf i).toNat)
  case atStart => exact ⟨0, Nat.zero_le _, by rw [h0], rfl, rfl⟩
  case round =>
    obtain ⟨k, hk, rfl, rfl, rfl⟩ := hrel
    by_cases hlt : k < n
    · have hlt' : (k : Int) < (n : Int) := by omega
      have hi := run_index_str (P := Try.prog) w 9 l .i64 k Try.underlying9 (by rw [HL.out]; omega)
      have HS : Hid (A (k + 1) = (A k || ctl (l.getD k 0))) := by
        unfold Hid
        rw [HA.out, HA.out, take_snoc (by rw [HL.out]; exact hlt), List.any_append]
        simp
      unfold ctl at HS
      clear HA
      generalize A k = t at *
      generalize (l.getD k 0).toNat = x at *
      rcases (show t = true ∨ (t = false ∧ x < 32 ∧ x ≠ 9) ∨ (t = false ∧ x = 9) ∨ (t = false ∧ 32 ≤ x ∧ x ≠ 127) ∨ (t = false ∧ x = 127) by cases t <;> simp <;> omega) with rfl | ⟨rfl, x1, x2⟩ | ⟨rfl, rfl⟩ | ⟨rfl, x1, x2⟩ | ⟨rfl, rfl⟩
      · have HS2 : Hid (A (k + 1) = true) := Lib.hid (by have := HS.out; simpa using this)
        clear HS
        go_wp2
        go_roundw
        case rel => exact ⟨k + 1, by omega, by rw [HS2.out], by go_num, by first | rfl | trivial⟩
        case measure => simp [intOf]; omega
      · have HS2 : Hid (A (k + 1) = true) := Lib.hid (by have := HS.out; rw [show decide (x < 32) = true by simpa using x1, show decide (x = 9) = false by simpa using x2] at this; simpa using this)
        have y1 : (x : Int) < 32 := by omega
        have y2 : ((x : Int) == 9) = false := by simp; omega
        have y3 : ¬ (x : Int) = 9 := by omega
        clear HS
        go_wp2
        go_roundw
        case rel => exact ⟨k + 1, by omega, by rw [HS2.out], by go_num, by first | rfl | trivial⟩
        case measure => simp [intOf]; omega
      · have HS2 : Hid (A (k + 1) = false) := Lib.hid (by have := HS.out; simpa using this)
        clear HS
        go_wp2
        go_roundw
        case rel => exact ⟨k + 1, by omega, by rw [HS2.out], by go_num, by first | rfl | trivial⟩
        case measure => simp [intOf]; omega
      · have HS2 : Hid (A (k + 1) = false) := Lib.hid (by have := HS.out; rw [show decide (x < 32) = false by simp; omega, show decide (x = 127) = false by simpa using x2] at this; simpa using this)
        have y1 : ¬ (x : Int) < 32 := by omega
        have y2 : ((x : Int) == 127) = false := by simp; omega
        clear HS
        go_wp2
        go_roundw
        case rel => exact ⟨k + 1, by omega, by rw [HS2.out], by go_num, by first | rfl | trivial⟩
        case measure => simp [intOf]; omega
      · have HS2 : Hid (A (k + 1) = true) := Lib.hid (by have := HS.out; simpa using this)
        clear HS
        go_wp2
        go_roundw
        case rel => exact ⟨k + 1, by omega, by rw [HS2.out], by go_num, by first | rfl | trivial⟩
        case measure => simp [intOf]; omega
    · obtain rfl : k = n := by omega
      go_wp2
      go_ret
      exact ⟨by rw [HR.out]; rfl, rfl⟩
end Go.Proofs.Ytlmcfflpgkapgaa
