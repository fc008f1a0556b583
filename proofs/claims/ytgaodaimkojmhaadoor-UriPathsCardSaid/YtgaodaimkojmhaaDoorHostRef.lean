/- Contracts of the reference of layer 8. -/
import Derived.Test.YtgaodaimkojmhaaDoorHost4
import Derived.Test.YtgaodaimkojmhaaDoorAsciiRef3
import Derived.Deep.RegionHeld3
namespace Go.Proofs.YtgaodaimkojmhaaDoor
open Go.RowKit
set_option linter.unusedVariables false

set_option maxRecDepth 100000 in
theorem refSignC (x : UInt8) (w : World) : Calls Tryd.prog 73 #[.int .u8 (x.toNat : Int)] w fun e w' => e = .returned (.bool (signB x)) ∧ w = w' := by
  have h0 := u8_lt x
  unfold signB
  generalize x.toNat = n at *
  -- BEGIN sign
  have hcase : n = 45 ∨ n = 95 ∨ (97 ≤ n ∧ n ≤ 122) ∨ (48 ≤ n ∧ n ≤ 57) ∨ (n < 48 ∧ n ≠ 45) ∨ (58 ≤ n ∧ n ≤ 96 ∧ n ≠ 95) ∨ (123 ≤ n) := by omega
  rcases hcase with rfl | rfl | h | h | h | h | h
  · go_enter Tryd.func73, Tryd.ntmps73
    go_wp2
    go_ret
    exact ⟨by kernel_rfl, rfl⟩
  · go_enter Tryd.func73, Tryd.ntmps73
    go_wp2
    go_ret
    exact ⟨by kernel_rfl, rfl⟩
  · have e45 : ((n : Int) == 45) = false := by rw [beq_eq_false_iff_ne]; omega
    have e95 : ((n : Int) == 95) = false := by rw [beq_eq_false_iff_ne]; omega
    have g97 : (97 : Int) ≤ n := by omega
    have g48 : (48 : Int) ≤ n := by omega
    have l122 : (n : Int) ≤ 122 := by omega
    have l57 : ¬ (n : Int) ≤ 57 := by omega
    have q97 : decide ((97 : Int) ≤ n) = true := by exact decide_eq_true g97
    have q48 : decide ((48 : Int) ≤ n) = true := by exact decide_eq_true g48
    have q122 : decide ((n : Int) ≤ 122) = true := by exact decide_eq_true l122
    have q57 : decide ((n : Int) ≤ 57) = false := by exact decide_eq_false l57
    go_enter Tryd.func73, Tryd.ntmps73
    go_wp2
    go_ret
    refine ⟨?_, rfl⟩
    first | (congr 2; done) | (congr 2; symm; first | (simp; omega) | (rw [Bool.eq_false_iff]; simp; omega))
  · have e45 : ((n : Int) == 45) = false := by rw [beq_eq_false_iff_ne]; omega
    have e95 : ((n : Int) == 95) = false := by rw [beq_eq_false_iff_ne]; omega
    have g97 : ¬ (97 : Int) ≤ n := by omega
    have g48 : (48 : Int) ≤ n := by omega
    have l122 : (n : Int) ≤ 122 := by omega
    have l57 : (n : Int) ≤ 57 := by omega
    have q97 : decide ((97 : Int) ≤ n) = false := by exact decide_eq_false g97
    have q48 : decide ((48 : Int) ≤ n) = true := by exact decide_eq_true g48
    have q122 : decide ((n : Int) ≤ 122) = true := by exact decide_eq_true l122
    have q57 : decide ((n : Int) ≤ 57) = true := by exact decide_eq_true l57
    go_enter Tryd.func73, Tryd.ntmps73
    go_wp2
    go_ret
    refine ⟨?_, rfl⟩
    first | (congr 2; done) | (congr 2; symm; first | (simp; omega) | (rw [Bool.eq_false_iff]; simp; omega))
  · have e45 : ((n : Int) == 45) = false := by rw [beq_eq_false_iff_ne]; omega
    have e95 : ((n : Int) == 95) = false := by rw [beq_eq_false_iff_ne]; omega
    have g97 : ¬ (97 : Int) ≤ n := by omega
    have g48 : ¬ (48 : Int) ≤ n := by omega
    have l122 : (n : Int) ≤ 122 := by omega
    have l57 : (n : Int) ≤ 57 := by omega
    have q97 : decide ((97 : Int) ≤ n) = false := by exact decide_eq_false g97
    have q48 : decide ((48 : Int) ≤ n) = false := by exact decide_eq_false g48
    have q122 : decide ((n : Int) ≤ 122) = true := by exact decide_eq_true l122
    have q57 : decide ((n : Int) ≤ 57) = true := by exact decide_eq_true l57
    go_enter Tryd.func73, Tryd.ntmps73
    go_wp2
    go_ret
    refine ⟨?_, rfl⟩
    first | (congr 2; done) | (congr 2; symm; first | (simp; omega) | (rw [Bool.eq_false_iff]; simp; omega))
  · have e45 : ((n : Int) == 45) = false := by rw [beq_eq_false_iff_ne]; omega
    have e95 : ((n : Int) == 95) = false := by rw [beq_eq_false_iff_ne]; omega
    have g97 : ¬ (97 : Int) ≤ n := by omega
    have g48 : (48 : Int) ≤ n := by omega
    have l122 : (n : Int) ≤ 122 := by omega
    have l57 : ¬ (n : Int) ≤ 57 := by omega
    have q97 : decide ((97 : Int) ≤ n) = false := by exact decide_eq_false g97
    have q48 : decide ((48 : Int) ≤ n) = true := by exact decide_eq_true g48
    have q122 : decide ((n : Int) ≤ 122) = true := by exact decide_eq_true l122
    have q57 : decide ((n : Int) ≤ 57) = false := by exact decide_eq_false l57
    go_enter Tryd.func73, Tryd.ntmps73
    go_wp2
    go_ret
    refine ⟨?_, rfl⟩
    first | (congr 2; done) | (congr 2; symm; first | (simp; omega) | (rw [Bool.eq_false_iff]; simp; omega))
  · have e45 : ((n : Int) == 45) = false := by rw [beq_eq_false_iff_ne]; omega
    have e95 : ((n : Int) == 95) = false := by rw [beq_eq_false_iff_ne]; omega
    have g97 : (97 : Int) ≤ n := by omega
    have g48 : (48 : Int) ≤ n := by omega
    have l122 : ¬ (n : Int) ≤ 122 := by omega
    have l57 : ¬ (n : Int) ≤ 57 := by omega
    have q97 : decide ((97 : Int) ≤ n) = true := by exact decide_eq_true g97
    have q48 : decide ((48 : Int) ≤ n) = true := by exact decide_eq_true g48
    have q122 : decide ((n : Int) ≤ 122) = false := by exact decide_eq_false l122
    have q57 : decide ((n : Int) ≤ 57) = false := by exact decide_eq_false l57
    go_enter Tryd.func73, Tryd.ntmps73
    go_wp2
    go_ret
    refine ⟨?_, rfl⟩
    first | (congr 2; done) | (congr 2; symm; first | (simp; omega) | (rw [Bool.eq_false_iff]; simp; omega))
  -- END sign

theorem first_str {P : Program} (w : World) (t : TypeId) (l : List UInt8) (ht : P.underlying t = some .string) (h : 0 < l.length) : (Instr.index t (.string (str l)) (.int .i64 0)).run P w = .ok (.int .u8 ((l.getD 0 0).toNat : Int)) w :=
  run_index_str w t l .i64 0 ht h

theorem u8_is (x : UInt8) (k : Nat) (hk : k < 256) : (x == UInt8.ofNat k) = ((x.toNat : Int) == (k : Int)) := by
  rw [Bool.eq_iff_iff]
  simp only [beq_iff_eq]
  constructor
  · rintro rfl
    rw [UInt8.toNat_ofNat', Nat.mod_eq_of_lt hk]
  · intro h
    refine UInt8.toNat_inj.1 ?_
    rw [UInt8.toNat_ofNat', Nat.mod_eq_of_lt hk]
    omega

set_option maxRecDepth 100000 in
theorem refLabelC (l : List UInt8) (n : Nat) (w : World) (hl : l.length = n) (hm : n ≤ maxLen) :
    Calls Tryd.prog 60 #[.string (str l)] w fun e w' => e = .returned (.bool (labelB l)) ∧ w = w' := by
  have hsz : (str l).size = n := by rw [str_size, hl]
  unfold maxLen at hm
  unfold labelB
  rw [hl]
  rcases Nat.eq_zero_or_pos n with hn | hn
  · have hn' : (n : Int) < 1 := by omega
    rw [decide_eq_false (show ¬ 1 ≤ n by omega)]
    clear hl
    go_enter Tryd.func60, Tryd.ntmps60
    go_wp2
    go_ret
    exact ⟨rfl, rfl⟩
  · have hn' : ¬ (n : Int) < 1 := by omega
    rw [decide_eq_true (show 1 ≤ n by omega), Bool.true_and]
    by_cases h : 63 < n
    · have h' : (63 : Int) < (n : Int) := by omega
      rw [decide_eq_false (show ¬ n ≤ 63 by omega)]
      clear hl
      go_enter Tryd.func60, Tryd.ntmps60
      go_wp2
      go_ret
      exact ⟨rfl, rfl⟩
    · have h' : ¬ (63 : Int) < (n : Int) := by omega
      rw [decide_eq_true (show n ≤ 63 by omega), Bool.true_and]
      have i0 := first_str (P := Tryd.prog) w 9 l Tryd.underlying9 (by rw [hl]; exact hn)
      have i1 := run_index_str (P := Tryd.prog) w 9 l .i64 (n - 1) Tryd.underlying9 (by rw [hl]; omega)
      have hm1 : (n : Int) - 1 = ((n - 1 : Nat) : Int) := by omega
      have hms : 0 ≤ ((n - 1 : Nat) : Int) := by omega
      have hms2 : ((n - 1 : Nat) : Int) < (n : Int) := by omega
      have HL := Lib.hid hl
      clear hl
      obtain ⟨b0, e0, f0⟩ : ∃ b0, (((l.getD 0 0).toNat : Int) == 45) = b0 ∧ (l.getD 0 0 == 45) = b0 := ⟨_, rfl, u8_is _ 45 (by omega)⟩
      obtain ⟨b1, e1, f1⟩ : ∃ b1, (((l.getD (n - 1) 0).toNat : Int) == 45) = b1 ∧ (l.getD (n - 1) 0 == 45) = b1 := ⟨_, rfl, u8_is _ 45 (by omega)⟩
      rw [f0, f1]
      clear f0 f1
      have HR : Hid (∀ k, k < n → signB (l.getD k 0) = false → l.all signB = false) := fun k hk h => all_no (by rw [HL.out]; exact hk) h
      have HY : Hid ((∀ j, j < n → signB (l.getD j 0) = true) → l.all signB = true) := fun h => all_yes (by rw [HL.out]; exact h)
      generalize (l.getD 0 0).toNat = c0 at *
      generalize (l.getD (n - 1) 0).toNat = c1 at *
      generalize l.all signB = R at *
      generalize n - 1 = m at *
      cases b0
      · cases b1
        · go_enter Tryd.func60, Tryd.ntmps60
          go_wp2
          clear i0 i1 e0 e1 hm1 hms hms2
          go_loopw [3] (fun i wr => ∃ k : Nat, k ≤ n ∧ i = .int .i64 (k : Int) ∧ Hid (∀ j, j < k → signB (l.getD j 0) = true) ∧ w = wr) (fun i _ => n - (intOf i).toNat)
          case atStart => exact ⟨0, Nat.zero_le _, rfl, fun j hj => absurd hj (by omega), rfl⟩
          case round =>
            obtain ⟨k, hk, rfl, H, rfl⟩ := hrel
            by_cases hlt : k < n
            · have hlt' : (k : Int) < (n : Int) := by omega
              have hi := run_index_str (P := Tryd.prog) w 9 l .i64 k Tryd.underlying9 (by rw [HL.out]; exact hlt)
              have HN := Lib.hid (fun (hp : signB (l.getD k 0) = true) => (fun j hj => by
                rcases Nat.lt_succ_iff_lt_or_eq.1 hj with h | rfl
                · exact H.out j h
                · exact hp : ∀ j, j < k + 1 → signB (l.getD j 0) = true))
              have HF := Lib.hid (HR.out k hlt)
              have HC := refSignC (l.getD k 0)
              generalize signB (l.getD k 0) = t at *
              generalize l.getD k 0 = x at HC hi
              cases t
              · have HF2 := Lib.hid (HF.out rfl)
                clear HN HF
                go_wp2_with (go_at_call 73; (with_reducible refine (HC _).mono ?_); rintro e w1 ⟨rfl, rfl⟩)
                go_ret
                exact ⟨by rw [HF2.out]; rfl, rfl⟩
              · have HN2 := Lib.hid (HN.out rfl)
                clear HN HF
                go_wp2_with (go_at_call 73; (with_reducible refine (HC _).mono ?_); rintro e w1 ⟨rfl, rfl⟩)
                go_roundw
                case rel => exact ⟨k + 1, by omega, by go_num, HN2.out, by first | rfl | trivial⟩
                case measure => simp [intOf]; omega
            · obtain rfl : k = n := by omega
              have HE := Lib.hid (HY.out H.out)
              go_wp2
              go_ret
              exact ⟨by rw [HE.out]; rfl, rfl⟩
        · clear HR HY
          go_enter Tryd.func60, Tryd.ntmps60
          go_wp2
          go_ret
          exact ⟨rfl, rfl⟩
      · clear HR HY
        go_enter Tryd.func60, Tryd.ntmps60
        go_wp2
        go_ret
        exact ⟨by simp, rfl⟩
end Go.Proofs.YtgaodaimkojmhaaDoor
