/- Contracts of the reference of layer 6: places, digits, controls, numbers. -/
import Derived.Test.YtgaodaimkojmhaaDoorAsciiRef
namespace Go.Proofs.YtgaodaimkojmhaaDoor
open Go.RowKit
set_option linter.unusedVariables false

/-- Where the first byte c stands; -1: nowhere. -/
def findL (l : List UInt8) (c : UInt8) : Int := if l.findIdx (· == c) = l.length then -1 else (l.findIdx (· == c) : Int)

set_option maxRecDepth 100000 in
theorem refFindC (l : List UInt8) (c : UInt8) (n : Nat) (w : World) (hl : l.length = n) (hm : n ≤ maxLen) :
    Calls Tryd.prog 39 #[.string (str l), .int .u8 (c.toNat : Int)] w fun e w' => e = .returned (.int .i64 (findL l c)) ∧ w = w' := by
  have hsz : (str l).size = n := by rw [str_size, hl]
  unfold maxLen at hm
  have HL := Lib.hid hl
  clear hl
  go_enter Tryd.func39, Tryd.ntmps39
  go_wp2
  go_loopw [5] (fun i wr => ∃ k : Nat, k ≤ n ∧ i = .int .i64 (k : Int) ∧ Hid (∀ j, j < k → (l.getD j 0 == c) = false) ∧ w = wr) (fun i _ => n - (intOf i).toNat)
  case atStart => exact ⟨0, Nat.zero_le _, rfl, fun j hj => absurd hj (by omega), rfl⟩
  case round =>
    obtain ⟨k, hk, rfl, H, rfl⟩ := hrel
    by_cases hlt : k < n
    · have hlt' : (k : Int) < (n : Int) := by omega
      have hi := run_index_str (P := Tryd.prog) w 9 l .i64 k Tryd.underlying9 (by rw [HL.out]; omega)
      have hc := u8_lt c
      by_cases hx : l.getD k 0 = c
      · have HF := Lib.hid (findIdx_at (l := l) (p := (· == c)) H.out (by rw [HL.out]; exact hlt) (by simpa using hx))
        rw [hx] at hi
        generalize c.toNat = x at *
        go_wp2
        go_ret
        refine ⟨?_, rfl⟩
        unfold findL
        rw [HF.out, HL.out, if_neg (by omega)]
        rfl
      · have HN : Hid (∀ j, j < k + 1 → (l.getD j 0 == c) = false) := fun j hj => by
          rcases Nat.lt_succ_iff_lt_or_eq.1 hj with h | rfl
          · exact H.out j h
          · simpa using hx
        have hne : ((((l.getD k 0).toNat : Nat) : Int) == (c.toNat : Int)) = false := by
          simp only [beq_eq_false_iff_ne, ne_eq]
          intro h
          exact hx (UInt8.toNat_inj.1 (by omega))
        clear H hx
        generalize c.toNat = y at *
        generalize (l.getD k 0).toNat = x at *
        go_wp2
        go_roundw
        case rel => exact ⟨k + 1, by omega, by go_num, HN.out, by first | rfl | trivial⟩
        case measure => simp [intOf]; omega
    · obtain rfl : k = n := by omega
      have HE := Lib.hid (findIdx_end (l := l) (p := (· == c)) (by rw [HL.out]; exact H.out))
      go_wp2
      go_ret
      refine ⟨?_, rfl⟩
      unfold findL
      rw [HE.out, if_pos rfl]
      rfl

set_option maxRecDepth 100000 in
theorem refDigitsC (l : List UInt8) (n : Nat) (w : World) (hl : l.length = n) (hm : n ≤ maxLen) :
    Calls Tryd.prog 42 #[.string (str l)] w fun e w' => e = .returned (.int .i64 (lead l : Int)) ∧ w = w' := by
  have hsz : (str l).size = n := by rw [str_size, hl]
  unfold maxLen at hm
  have HL := Lib.hid hl
  have hle := lead_le l
  have HB := Lib.hid (fun k => @lead_lt l k)
  have HA := Lib.hid (@lead_at l)
  rw [hl] at hle
  clear hl
  obtain ⟨D, hD⟩ : ∃ D, lead l = D := ⟨_, rfl⟩
  rw [hD] at hle HB HA ⊢
  clear hD
  go_enter Tryd.func42, Tryd.ntmps42
  go_wp2
  go_loopw [3, 4] (fun v i wr => ∃ k : Nat, k ≤ n ∧ v = .int .i64 ((min k D : Nat) : Int) ∧ i = .int .i64 (k : Int) ∧ w = wr) (fun _ i _ => n - (intOf i).toNat)
  case atStart => exact ⟨0, Nat.zero_le _, by simp, rfl, rfl⟩
  case round =>
    obtain ⟨k, hk, rfl, rfl, rfl⟩ := hrel
    rcases (show k < D ∨ (k = D ∧ D < n) ∨ (D < k ∧ k < n) ∨ k = n by omega) with hlt | ⟨rfl, hlt⟩ | ⟨hgt, hlt⟩ | rfl
    · have hlt' : (k : Int) < (n : Int) := by omega
      have hi := run_index_str (P := Tryd.prog) w 9 l .i64 k Tryd.underlying9 (by rw [HL.out]; omega)
      obtain ⟨d1, d2⟩ := HB.out k hlt
      have e1 : min k D = k := by omega
      rw [e1]
      clear HA HB
      generalize (l.getD k 0).toNat = x at *
      have d1' : (48 : Int) ≤ (x : Int) := by omega
      have d2' : (x : Int) ≤ 57 := by omega
      go_wp2
      go_roundw
      case rel => exact ⟨k + 1, by omega, by rw [show min (k + 1) D = k + 1 by omega]; go_num, by go_num, by first | rfl | trivial⟩
      case measure => simp [intOf]; omega
    · have hlt' : (k : Int) < (n : Int) := by omega
      have hi := run_index_str (P := Tryd.prog) w 9 l .i64 k Tryd.underlying9 (by rw [HL.out]; omega)
      have hd := HA.out (by rw [HL.out]; exact hlt)
      rw [Nat.min_self]
      clear HA HB
      generalize (l.getD k 0).toNat = x at *
      by_cases d1 : 48 ≤ x
      · have d2 : ¬ (x : Int) ≤ 57 := by omega
        have d1' : (48 : Int) ≤ (x : Int) := by omega
        clear hd
        go_wp2
        go_roundw
        case rel => exact ⟨k + 1, by omega, by rw [show min (k + 1) k = k by omega], by go_num, by first | rfl | trivial⟩
        case measure => simp [intOf]; omega
      · have d1' : ¬ (48 : Int) ≤ (x : Int) := by omega
        clear hd
        go_wp2
        go_roundw
        case rel => exact ⟨k + 1, by omega, by rw [show min (k + 1) k = k by omega], by go_num, by first | rfl | trivial⟩
        case measure => simp [intOf]; omega
    · have hlt' : (k : Int) < (n : Int) := by omega
      have e1 : min k D = D := by omega
      rw [e1]
      have hne : ¬ (D : Int) = (k : Int) := by omega
      have hne2 : ((D : Int) == (k : Int)) = false := by simp; omega
      clear HA HB
      go_wp2
      go_roundw
      case rel => exact ⟨k + 1, by omega, by rw [show min (k + 1) D = D by omega], by go_num, by first | rfl | trivial⟩
      case measure => simp [intOf]; omega
    · have e1 : min k D = D := by omega
      rw [e1]
      go_wp2
      go_ret
      exact ⟨rfl, rfl⟩

end Go.Proofs.YtgaodaimkojmhaaDoor
