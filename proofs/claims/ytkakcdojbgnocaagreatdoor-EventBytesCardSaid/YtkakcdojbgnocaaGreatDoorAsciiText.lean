/- Contracts of layer 6: a number's digits. -/
import Derived.Test.YtkakcdojbgnocaaGreatDoorLibAC
import Derived.Test.YtkakcdojbgnocaaGreatDoorLibAF
namespace Go.Proofs.YtkakcdojbgnocaaGreatDoor
open Go.RowKit
set_option linter.unusedVariables false

theorem textC (n : Int) (w : World) (h0 : -9223372036854775808 ≤ n) (h1 : n ≤ 9223372036854775807) (hT : PTab Tryz.prog w) :
    Calls Tryz.prog 123 #[.int .i64 n] w (GivesStr (Lib.itoa n) w) := by
  have HI := Tryz.strconv_Itoa n h0 h1 w hT.tab
  go_enter Tryz.func123, Tryz.ntmps123
  go_wp2_with (go_at_call 128; (with_reducible refine HI.mono ?_); rintro e w1 ⟨rfl, k, os, rfl⟩)
  go_ret
  exact ⟨rfl, Lib.below_grow _ w (Nat.le_refl _) k os⟩

set_option maxRecDepth 100000 in
theorem refTextNat (N : Nat) (w : World) (h1 : N ≤ 9223372036854775807) :
    Calls Tryz.prog 101 #[.int .i64 (N : Int)] w (GivesStr (Lib.decDigits N) w) := by
  have hlen := Lib.nDigits_le20 N (by omega)
  rw [← Lib.decDigits_length] at hlen
  have hn : ¬ (N : Int) < 0 := by omega
  go_enter Tryz.func101, Tryz.ntmps101
  go_wp2
  go_loopw [0, 3] (fun v s wr => ∃ (M : Nat) (l : List UInt8), M ≤ 9223372036854775807 ∧ v = .int .i64 (M : Int) ∧ s = .string (str l) ∧ Hid (Lib.decDigits N = Lib.decDigits M ++ l) ∧ Below w.heap.size w wr) (fun v _ _ => (intOf v).toNat)
  case atStart => exact ⟨N, [], h1, rfl, rfl, by unfold Hid; simp, Below.refl _ _⟩
  case round =>
    obtain ⟨M, l, hM, rfl, rfl, H, hb⟩ := hrel
    have HB := Lib.hid hb
    have hbs := hb.size
    clear hb
    have hll : l.length ≤ 20 := by have := congrArg List.length H.out; simp at this; omega
    by_cases h : M < 10
    · have hd := digit_toNat M h
      have hone := fun (w : World) v (hv : v = ((UInt8.ofNat (48 + M)).toNat : Int)) => one_back (P := Tryz.prog) w 40 9 5 (UInt8.ofNat (48 + M)) v hv Tryz.underlying40 Tryz.underlying5 Tryz.underlying9
      have h2 := hone wr (48 + (M : Int)) (by rw [hd]; push_cast; rfl)
      have ha := fun (w : World) (y : UInt8) => run_add_str (P := Tryz.prog) w [y] l (by simp; omega)
      have h' : ¬ (9 : Int) < (M : Int) := by omega
      have HH := Lib.hid H.out
      rw [Lib.decDigits_one h] at HH
      generalize UInt8.ofNat (48 + M) = y at *
      clear hone H
      have ha2 := fun w => ha w y
      clear ha
      go_wp2
      go_ret
      exact ⟨by rw [HH.out]; rfl, HB.out.alloc hbs _⟩
    · have hd := digit_toNat (M % 10) (by omega)
      have hone := fun (w : World) v (hv : v = ((UInt8.ofNat (48 + M % 10)).toNat : Int)) => one_back (P := Tryz.prog) w 40 9 5 (UInt8.ofNat (48 + M % 10)) v hv Tryz.underlying40 Tryz.underlying5 Tryz.underlying9
      have h2 := hone wr (48 + (M : Int) % 10) (by rw [hd]; push_cast; rfl)
      have ha := fun (w : World) (y : UInt8) => run_add_str (P := Tryz.prog) w [y] l (by simp; omega)
      have h' : (9 : Int) < (M : Int) := by omega
      have HH := Lib.hid H.out
      have hM2 : M / 10 ≤ 9223372036854775807 := by omega
      have hM3 : M / 10 < M := by omega
      rw [decDigits_snoc M h] at HH
      generalize UInt8.ofNat (48 + M % 10) = y at *
      clear hone H
      have ha2 := fun w => ha w y
      clear ha
      go_wp2
      go_roundw
      case rel => exact ⟨M / 10, [y] ++ l, hM2, by push_cast; rfl, rfl, by unfold Hid; rw [HH.out, List.append_assoc], HB.out.alloc hbs _⟩
      case measure => simp [intOf]; omega

theorem refTextOne (n : Int) (w : World) (h0 : n < 0) (h1 : -10 < n) :
    Calls Tryz.prog 101 #[.int .i64 n] w (GivesStr (Lib.itoa n) w) := by
  have HN := fun (w : World) (v : Int) (hv : v = (n.natAbs : Int)) => hv ▸ refTextNat n.natAbs w (by omega)
  have hi : Lib.itoa n = [45] ++ Lib.decDigits n.natAbs := by unfold Lib.itoa; rw [if_pos h0]; rfl
  have hlen := Lib.nDigits_le20 n.natAbs (by omega)
  rw [← Lib.decDigits_length] at hlen
  rw [hi]
  unfold GivesStr at *
  have hd : ({ data := #[45] } : ByteArray) = str [45] := rfl
  generalize Lib.decDigits n.natAbs = t at *
  have ha := fun (w : World) => run_add_str (P := Tryz.prog) w [45] t (by simp; omega)
  rw [← hd] at ha
  clear hd hi
  go_enter Tryz.func101, Tryz.ntmps101
  go_wp2_with (go_at_call 101; (with_reducible refine (HN _ _ (by omega)).mono ?_); rintro e w1 ⟨rfl, hb⟩)
  go_ret
  exact ⟨rfl, hb⟩

theorem refTextMany (n : Int) (w : World) (h0 : n ≤ -10) (h1 : -9223372036854775808 ≤ n)
    (ih : ∀ w, Calls Tryz.prog 101 #[.int .i64 (-((n.natAbs / 10 : Nat) : Int))] w (GivesStr (Lib.itoa (-((n.natAbs / 10 : Nat) : Int))) w)) :
    Calls Tryz.prog 101 #[.int .i64 n] w (GivesStr (Lib.itoa n) w) := by
  obtain ⟨a, rfl, ha⟩ : ∃ a : Nat, n = -(a : Int) ∧ 10 ≤ a := ⟨n.natAbs, by omega, by omega⟩
  have hna : (-(a : Int)).natAbs = a := by omega
  rw [hna] at ih
  have HD := fun (w : World) => refTextNat (a % 10) w (by omega)
  have hi : Lib.itoa (-(a : Int)) = Lib.itoa (-((a / 10 : Nat) : Int)) ++ Lib.decDigits (a % 10) := by
    unfold Lib.itoa
    rw [if_pos (by omega), if_pos (by omega), hna, decDigits_snoc a (by omega), Lib.decDigits_one (by omega : a % 10 < 10)]
    have : (-((a / 10 : Nat) : Int)).natAbs = a / 10 := by omega
    rw [this]
    rfl
  have hlen := Lib.itoa_length_le (-((a / 10 : Nat) : Int)) (by omega) (by omega)
  have hlen2 : (Lib.decDigits (a % 10)).length ≤ 1 := by rw [Lib.decDigits_one (by omega)]; simp
  rw [hi]
  unfold GivesStr at *
  generalize Lib.itoa (-((a / 10 : Nat) : Int)) = t at *
  generalize Lib.decDigits (a % 10) = u at *
  have hadd := fun (w : World) => run_add_str (P := Tryz.prog) w t u (by omega)
  clear hi hna
  push_cast at ih HD
  have b1 : -(a : Int) < 0 := by omega
  have b2 : ¬ -10 < -(a : Int) := by omega
  go_enter Tryz.func101, Tryz.ntmps101
  go_wp2_with (go_at_call 101; first | ((with_reducible refine (ih _).mono ?_); rintro e1 w1 ⟨rfl, hb1⟩) | ((with_reducible refine (HD _).mono ?_); rintro e2 w2 ⟨rfl, hb2⟩))
  go_ret
  exact ⟨rfl, hb1.trans (hb2.mono hb1.size)⟩

/-- The reference's digits are the library's. -/
theorem refTextC (n : Int) (h0 : -9223372036854775808 ≤ n) (h1 : n ≤ 9223372036854775807) (w : World) :
    Calls Tryz.prog 101 #[.int .i64 n] w (GivesStr (Lib.itoa n) w) := by
  obtain ⟨k, hk⟩ : ∃ k, n.natAbs = k := ⟨_, rfl⟩
  induction k using Nat.strongRecOn generalizing n w with
  | ind k ih =>
    by_cases hn : 0 ≤ n
    · obtain ⟨N, rfl⟩ := Int.eq_ofNat_of_zero_le hn
      have := refTextNat N w (by omega)
      have e : Lib.itoa (N : Int) = Lib.decDigits N := by unfold Lib.itoa; rw [if_neg (by omega)]; rfl
      rw [e]
      exact this
    · by_cases h10 : -10 < n
      · exact refTextOne n w (by omega) h10
      · exact refTextMany n w (by omega) h0 fun w => ih (n.natAbs / 10) (by omega) _ (by omega) (by omega) w (by omega)
end Go.Proofs.YtkakcdojbgnocaaGreatDoor
