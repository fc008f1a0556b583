/- Contracts of the reference of layer 8: addresses in brackets, names, matching. -/
import Derived.Test.YtgaodaimkojmhaaDoorHostRef2
namespace Go.Proofs.YtgaodaimkojmhaaDoor
open Go.RowKit
set_option linter.unusedVariables false

theorem mid_no {l : List UInt8} {p : UInt8 → Bool} {k : Nat} (h0 : 1 ≤ k) (hk : k < l.length - 1) (h : p (l.getD k 0) = false) : ((l.drop 1).take (l.length - 2)).all p = false := by
  refine all_no (k := k - 1) (by rw [List.length_take, List.length_drop]; omega) ?_
  have : ((l.drop 1).take (l.length - 2)).getD (k - 1) 0 = l.getD k 0 := by
    simp only [List.getD, List.getElem?_take, List.getElem?_drop]
    rw [if_pos (by omega)]
    congr 2
    omega
  rw [this]
  exact h
theorem mid_yes {l : List UInt8} {p : UInt8 → Bool} (h : ∀ j, 1 ≤ j → j < l.length - 1 → p (l.getD j 0) = true) : ((l.drop 1).take (l.length - 2)).all p = true := by
  refine all_yes fun j hj => ?_
  rw [List.length_take, List.length_drop] at hj
  have : ((l.drop 1).take (l.length - 2)).getD j 0 = l.getD (j + 1) 0 := by
    simp only [List.getD, List.getElem?_take, List.getElem?_drop]
    rw [if_pos (by omega)]
    congr 2
    omega
  rw [this]
  exact h (j + 1) (by omega) (by omega)

set_option maxRecDepth 100000 in
theorem refBracketC (l : List UInt8) (n : Nat) (w : World) (hl : l.length = n) (hm : n ≤ maxLen) :
    Calls Tryd.prog 61 #[.string (str l)] w fun e w' => e = .returned (.bool (bracketB l)) ∧ w = w' := by
  have hsz : (str l).size = n := by rw [str_size, hl]
  unfold maxLen at hm
  unfold bracketB
  have HR0 := fun k h0 h1 => mid_no (l := l) (p := hexB) (k := k) h0 h1
  have HY0 := @mid_yes l hexB
  rw [hl] at HR0 HY0 ⊢
  by_cases h1 : 4 ≤ n
  · have h1' : ¬ (n : Int) < 4 := by omega
    rw [decide_eq_true h1, Bool.true_and]
    by_cases h2 : n ≤ 47
    · have h2' : ¬ (47 : Int) < (n : Int) := by omega
      rw [decide_eq_true h2, Bool.true_and]
      have i0 := first_str (P := Tryd.prog) w 9 l Tryd.underlying9 (by rw [hl]; omega)
      have i1 := run_index_str (P := Tryd.prog) w 9 l .i64 (n - 1) Tryd.underlying9 (by rw [hl]; omega)
      have hm1 : (n : Int) - 1 = ((n - 1 : Nat) : Int) := by omega
      have hms : 0 ≤ ((n - 1 : Nat) : Int) := by omega
      have hms2 : ((n - 1 : Nat) : Int) < (n : Int) := by omega
      have HL := Lib.hid hl
      clear hl
      obtain ⟨b0, e0, f0⟩ : ∃ b0, (((l.getD 0 0).toNat : Int) == 91) = b0 ∧ (l.getD 0 0 == 91) = b0 := ⟨_, rfl, u8_is _ 91 (by omega)⟩
      obtain ⟨b1, e1, f1⟩ : ∃ b1, (((l.getD (n - 1) 0).toNat : Int) == 93) = b1 ∧ (l.getD (n - 1) 0 == 93) = b1 := ⟨_, rfl, u8_is _ 93 (by omega)⟩
      rw [f0, f1]
      clear f0 f1
      have HR := Lib.hid HR0
      have HY := Lib.hid HY0
      clear HR0 HY0
      generalize (l.getD 0 0).toNat = c0 at *
      generalize (l.getD (n - 1) 0).toNat = c1 at *
      generalize ((l.drop 1).take (n - 2)).all hexB = R at *
      have n0 : ((c0 : Int) != 91) = !b0 := by rw [bne, e0]
      have n1 : ((c1 : Int) != 93) = !b1 := by rw [bne, e1]
      cases b0
      · clear HR HY
        rw [Bool.not_false] at n0
        go_enter Tryd.func61, Tryd.ntmps61
        go_wp2
        go_ret
        exact ⟨rfl, rfl⟩
      · rw [Bool.not_true] at n0
        cases b1
        · clear HR HY
          rw [Bool.not_false] at n1
          generalize n - 1 = m at *
          go_enter Tryd.func61, Tryd.ntmps61
          go_wp2
          go_ret
          exact ⟨by simp, rfl⟩
        · rw [Bool.not_true] at n1
          obtain ⟨m, hm⟩ : ∃ m, n - 1 = m := ⟨_, rfl⟩
          rw [hm] at HR HY i1 hm1 hms hms2
          go_enter Tryd.func61, Tryd.ntmps61
          go_wp2
          clear i0 i1 e0 e1 n0 n1
          go_loopw [3, 4] (fun i _ wr => ∃ k : Nat, 1 ≤ k ∧ k ≤ m ∧ i = .int .i64 (k : Int) ∧ Hid (∀ j, 1 ≤ j → j < k → hexB (l.getD j 0) = true) ∧ w = wr) (fun i _ _ => m - (intOf i).toNat)
          case atStart => exact ⟨1, by omega, by omega, rfl, fun j hj hj2 => absurd hj (by omega), rfl⟩
          case round =>
            obtain ⟨k, hk0, hk, rfl, H, rfl⟩ := hrel
            by_cases hlt : k < m
            · have hlt' : (k : Int) < (m : Int) := by omega
              have hlt2 : (k : Int) < (n : Int) := by omega
              have hi := run_index_str (P := Tryd.prog) w 9 l .i64 k Tryd.underlying9 (by rw [HL.out]; omega)
              have HN := Lib.hid (fun (hp : hexB (l.getD k 0) = true) => (fun j hj0 hj => by
                rcases Nat.lt_succ_iff_lt_or_eq.1 hj with h | rfl
                · exact H.out j hj0 h
                · exact hp : ∀ j, 1 ≤ j → j < k + 1 → hexB (l.getD j 0) = true))
              have HF := Lib.hid (HR.out k hk0 hlt)
              have hxl := u8_lt (l.getD k 0)
              clear HR HY
              obtain ⟨t, ht, hT⟩ : ∃ t, hexB (l.getD k 0) = t ∧ Hid (t = ((decide (48 ≤ (l.getD k 0).toNat) && decide ((l.getD k 0).toNat ≤ 57)) || (decide (97 ≤ (l.getD k 0).toNat) && decide ((l.getD k 0).toNat ≤ 102)) || decide ((l.getD k 0).toNat = 58) || decide ((l.getD k 0).toNat = 46))) := ⟨_, rfl, rfl⟩
              rw [ht] at HF HN
              clear ht
              generalize (l.getD k 0).toNat = x at *
              -- BEGIN hex
              rcases (show (x = 58) ∨ (x = 46) ∨ (48 ≤ x ∧ x ≤ 57) ∨ (97 ≤ x ∧ x ≤ 102) ∨ (x < 48 ∧ x ≠ 46) ∨ (58 < x ∧ x < 97) ∨ (102 < x) by omega) with h | h | h | h | h | h | h
              · obtain rfl : t = true := by rw [hT.out]; simp; omega
                have e58 : ((x : Int) == 58) = true := by rw [beq_iff_eq]; omega
                have e46 : ((x : Int) == 46) = false := by rw [beq_eq_false_iff_ne]; omega
                have g48 : (48 : Int) ≤ x := by omega
                have p48 : decide ((48 : Int) ≤ x) = true := decide_eq_true g48
                have g97 : ¬ (97 : Int) ≤ x := by omega
                have p97 : decide ((97 : Int) ≤ x) = false := decide_eq_false g97
                have l57 : ¬ (x : Int) ≤ 57 := by omega
                have q57 : decide ((x : Int) ≤ 57) = false := decide_eq_false l57
                have l102 : (x : Int) ≤ 102 := by omega
                have q102 : decide ((x : Int) ≤ 102) = true := decide_eq_true l102
                have HN2 := Lib.hid (HN.out rfl)
                clear HN HF hT
                go_wp2
                go_roundw
                case rel => exact ⟨k + 1, by omega, by omega, by go_num, HN2.out, by first | rfl | trivial⟩
                case measure => simp [intOf]; omega
              · obtain rfl : t = true := by rw [hT.out]; simp; omega
                have e58 : ((x : Int) == 58) = false := by rw [beq_eq_false_iff_ne]; omega
                have e46 : ((x : Int) == 46) = true := by rw [beq_iff_eq]; omega
                have g48 : ¬ (48 : Int) ≤ x := by omega
                have p48 : decide ((48 : Int) ≤ x) = false := decide_eq_false g48
                have g97 : ¬ (97 : Int) ≤ x := by omega
                have p97 : decide ((97 : Int) ≤ x) = false := decide_eq_false g97
                have l57 : (x : Int) ≤ 57 := by omega
                have q57 : decide ((x : Int) ≤ 57) = true := decide_eq_true l57
                have l102 : (x : Int) ≤ 102 := by omega
                have q102 : decide ((x : Int) ≤ 102) = true := decide_eq_true l102
                have HN2 := Lib.hid (HN.out rfl)
                clear HN HF hT
                go_wp2
                go_roundw
                case rel => exact ⟨k + 1, by omega, by omega, by go_num, HN2.out, by first | rfl | trivial⟩
                case measure => simp [intOf]; omega
              · obtain rfl : t = true := by rw [hT.out]; simp; omega
                have e58 : ((x : Int) == 58) = false := by rw [beq_eq_false_iff_ne]; omega
                have e46 : ((x : Int) == 46) = false := by rw [beq_eq_false_iff_ne]; omega
                have g48 : (48 : Int) ≤ x := by omega
                have p48 : decide ((48 : Int) ≤ x) = true := decide_eq_true g48
                have g97 : ¬ (97 : Int) ≤ x := by omega
                have p97 : decide ((97 : Int) ≤ x) = false := decide_eq_false g97
                have l57 : (x : Int) ≤ 57 := by omega
                have q57 : decide ((x : Int) ≤ 57) = true := decide_eq_true l57
                have l102 : (x : Int) ≤ 102 := by omega
                have q102 : decide ((x : Int) ≤ 102) = true := decide_eq_true l102
                have HN2 := Lib.hid (HN.out rfl)
                clear HN HF hT
                go_wp2
                go_roundw
                case rel => exact ⟨k + 1, by omega, by omega, by go_num, HN2.out, by first | rfl | trivial⟩
                case measure => simp [intOf]; omega
              · obtain rfl : t = true := by rw [hT.out]; simp; omega
                have e58 : ((x : Int) == 58) = false := by rw [beq_eq_false_iff_ne]; omega
                have e46 : ((x : Int) == 46) = false := by rw [beq_eq_false_iff_ne]; omega
                have g48 : (48 : Int) ≤ x := by omega
                have p48 : decide ((48 : Int) ≤ x) = true := decide_eq_true g48
                have g97 : (97 : Int) ≤ x := by omega
                have p97 : decide ((97 : Int) ≤ x) = true := decide_eq_true g97
                have l57 : ¬ (x : Int) ≤ 57 := by omega
                have q57 : decide ((x : Int) ≤ 57) = false := decide_eq_false l57
                have l102 : (x : Int) ≤ 102 := by omega
                have q102 : decide ((x : Int) ≤ 102) = true := decide_eq_true l102
                have HN2 := Lib.hid (HN.out rfl)
                clear HN HF hT
                go_wp2
                go_roundw
                case rel => exact ⟨k + 1, by omega, by omega, by go_num, HN2.out, by first | rfl | trivial⟩
                case measure => simp [intOf]; omega
              · obtain rfl : t = false := by rw [hT.out]; simp; omega
                have e58 : ((x : Int) == 58) = false := by rw [beq_eq_false_iff_ne]; omega
                have e46 : ((x : Int) == 46) = false := by rw [beq_eq_false_iff_ne]; omega
                have g48 : ¬ (48 : Int) ≤ x := by omega
                have p48 : decide ((48 : Int) ≤ x) = false := decide_eq_false g48
                have g97 : ¬ (97 : Int) ≤ x := by omega
                have p97 : decide ((97 : Int) ≤ x) = false := decide_eq_false g97
                have l57 : (x : Int) ≤ 57 := by omega
                have q57 : decide ((x : Int) ≤ 57) = true := decide_eq_true l57
                have l102 : (x : Int) ≤ 102 := by omega
                have q102 : decide ((x : Int) ≤ 102) = true := decide_eq_true l102
                have HF2 := Lib.hid (HF.out rfl)
                clear HN HF hT
                go_wp2
                go_ret
                exact ⟨by rw [HF2.out]; rfl, rfl⟩
              · obtain rfl : t = false := by rw [hT.out]; simp; omega
                have e58 : ((x : Int) == 58) = false := by rw [beq_eq_false_iff_ne]; omega
                have e46 : ((x : Int) == 46) = false := by rw [beq_eq_false_iff_ne]; omega
                have g48 : (48 : Int) ≤ x := by omega
                have p48 : decide ((48 : Int) ≤ x) = true := decide_eq_true g48
                have g97 : ¬ (97 : Int) ≤ x := by omega
                have p97 : decide ((97 : Int) ≤ x) = false := decide_eq_false g97
                have l57 : ¬ (x : Int) ≤ 57 := by omega
                have q57 : decide ((x : Int) ≤ 57) = false := decide_eq_false l57
                have l102 : (x : Int) ≤ 102 := by omega
                have q102 : decide ((x : Int) ≤ 102) = true := decide_eq_true l102
                have HF2 := Lib.hid (HF.out rfl)
                clear HN HF hT
                go_wp2
                go_ret
                exact ⟨by rw [HF2.out]; rfl, rfl⟩
              · obtain rfl : t = false := by rw [hT.out]; simp; omega
                have e58 : ((x : Int) == 58) = false := by rw [beq_eq_false_iff_ne]; omega
                have e46 : ((x : Int) == 46) = false := by rw [beq_eq_false_iff_ne]; omega
                have g48 : (48 : Int) ≤ x := by omega
                have p48 : decide ((48 : Int) ≤ x) = true := decide_eq_true g48
                have g97 : (97 : Int) ≤ x := by omega
                have p97 : decide ((97 : Int) ≤ x) = true := decide_eq_true g97
                have l57 : ¬ (x : Int) ≤ 57 := by omega
                have q57 : decide ((x : Int) ≤ 57) = false := decide_eq_false l57
                have l102 : ¬ (x : Int) ≤ 102 := by omega
                have q102 : decide ((x : Int) ≤ 102) = false := decide_eq_false l102
                have HF2 := Lib.hid (HF.out rfl)
                clear HN HF hT
                go_wp2
                go_ret
                exact ⟨by rw [HF2.out]; rfl, rfl⟩
              -- END hex
            · obtain rfl : k = m := by omega
              have HE := Lib.hid (HY.out H.out)
              have hge : ¬ (k : Int) < (k : Int) := by omega
              go_wp2
              go_ret
              exact ⟨by rw [HE.out]; rfl, rfl⟩
    · have h2' : (47 : Int) < (n : Int) := by omega
      rw [decide_eq_false h2]
      clear hl HR0 HY0
      go_enter Tryd.func61, Tryd.ntmps61
      go_wp2
      go_ret
      exact ⟨by simp, rfl⟩
  · have h1' : (n : Int) < 4 := by omega
    rw [decide_eq_false h1]
    clear hl HR0 HY0
    go_enter Tryd.func61, Tryd.ntmps61
    go_wp2
    go_ret
    exact ⟨by simp, rfl⟩
end Go.Proofs.YtgaodaimkojmhaaDoor
