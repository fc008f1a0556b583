/- Contracts of the reference of layer 7: digits, times, months. -/
import Derived.Test.YtcjkaciknfiekaaDoorDateTokC
import Derived.KernelRfl
namespace Go.Proofs.YtcjkaciknfiekaaDoor
open Go.RowKit
set_option linter.unusedVariables false

theorem refDigC (l : List UInt8) (n : Nat) (a b : Nat) (a' b' : Int) (w : World) (hl : l.length = n) (hm : n ≤ maxLen) (ha : a ≤ 9) (hb : b ≤ 9) (ha' : a' = (a : Int)) (hb' : b' = (b : Int)) :
    Calls Tryd.prog 26 #[.string (str l), .int .i64 a', .int .i64 b'] w fun e w' => e = .returned (.bool (dig a b l)) ∧ w = w' := by
  subst ha' hb'
  have HD := refDigitsC l n w hl hm
  have he : Hid (dig a b l = (decide (a ≤ lead l) && decide (lead l ≤ b))) := rfl
  generalize dig a b l = g at *
  generalize lead l = d at *
  have hi : Hid (g = (decide ((a : Int) ≤ (d : Int)) && decide ((d : Int) ≤ (b : Int)))) := by
    unfold Hid
    rw [he.out, Bool.eq_iff_iff]
    simp
  clear he
  by_cases h1 : (a : Int) ≤ (d : Int)
  · have h1' : ¬ (d : Int) < (a : Int) := by omega
    by_cases h2 : (d : Int) ≤ (b : Int)
    · have e : Hid (g = true) := by unfold Hid; rw [hi.out, decide_eq_true h1, decide_eq_true h2]; rfl
      go_enter Tryd.func26, Tryd.ntmps26
      go_wp2_with (go_at_call 37; (with_reducible refine HD.mono ?_); rintro e w2 ⟨rfl, rfl⟩)
      go_ret
      exact ⟨by rw [e.out]; rfl, rfl⟩
    · have e : Hid (g = false) := by unfold Hid; rw [hi.out, decide_eq_true h1, decide_eq_false h2]; rfl
      go_enter Tryd.func26, Tryd.ntmps26
      go_wp2_with (go_at_call 37; (with_reducible refine HD.mono ?_); rintro e w2 ⟨rfl, rfl⟩)
      go_ret
      exact ⟨by rw [e.out]; show Ending.returned (.bool (decide (d ≤ b))) = _; rw [decide_eq_false (by omega)], rfl⟩
  · have e : Hid (g = false) := by unfold Hid; rw [hi.out, decide_eq_false h1]; rfl
    go_enter Tryd.func26, Tryd.ntmps26
    go_wp2_with (go_at_call 37; (with_reducible refine HD.mono ?_); rintro e w2 ⟨rfl, rfl⟩)
    go_ret
    exact ⟨by rw [e.out]; rfl, rfl⟩

theorem num_lead' (l : List UInt8) : (numL (l.take (lead l))).1 = (valL l : Int) := by
  rcases Nat.eq_zero_or_pos (lead l) with h | h
  · unfold valL
    rw [h]
    rfl
  · rw [num_lead l h]

theorem refValueC (l : List UInt8) (n : Nat) (w : World) (hl : l.length = n) (hm : n ≤ maxLen) :
    Calls Tryd.prog 27 #[.string (str l)] w fun e w' => e = .returned (.int .i64 (valL l : Int)) ∧ w = w' := by
  have hsz : (str l).size = n := by rw [str_size, hl]
  have HD := refDigitsC l n w hl hm
  have hle := lead_le l
  have HN := refNumberC (l.take (lead l)) (lead l) w (by simp; omega) (by omega)
  rw [num_lead' l] at HN
  have hx1 : (str l).extract 0 (lead l) = str (l.take (lead l)) := by rw [str_extract]; simp
  generalize (numL (l.take (lead l))).2 = g at *
  generalize l.take (lead l) = t at *
  have hdn : ((lead l : Nat) : Int) ≤ (n : Int) := by omega
  generalize lead l = d at *
  generalize valL l = v at *
  clear hl
  go_enter Tryd.func27, Tryd.ntmps27
  go_wp2_with (first
    | (go_at_call 37; (with_reducible refine HD.mono ?_); rintro e w2 ⟨rfl, rfl⟩)
    | (go_at_call 38; (with_reducible refine HN.mono ?_); rintro e w2 ⟨rfl, rfl⟩))
  go_ret
  exact ⟨rfl, rfl⟩

/-- The names of the months, one behind the other. -/
theorem names12 (k : Nat) (hk : k < 12) : (⟨#[106, 97, 110, 102, 101, 98, 109, 97, 114, 97, 112, 114, 109, 97, 121, 106, 117, 110, 106, 117, 108, 97, 117, 103, 115, 101, 112, 111, 99, 116, 110, 111, 118, 100, 101, 99]⟩ : ByteArray).extract (3 * (k + 1) - 3) (3 * (k + 1)) = str (monTab.getD k []) := by
  have e : (⟨#[106, 97, 110, 102, 101, 98, 109, 97, 114, 97, 112, 114, 109, 97, 121, 106, 117, 110, 106, 117, 108, 97, 117, 103, 115, 101, 112, 111, 99, 116, 110, 111, 118, 100, 101, 99]⟩ : ByteArray) = str [106, 97, 110, 102, 101, 98, 109, 97, 114, 97, 112, 114, 109, 97, 121, 106, 117, 110, 106, 117, 108, 97, 117, 103, 115, 101, 112, 111, 99, 116, 110, 111, 118, 100, 101, 99] := rfl
  rw [e, str_extract]
  congr 1
  have : ∀ k, k < 12 → (([106, 97, 110, 102, 101, 98, 109, 97, 114, 97, 112, 114, 109, 97, 121, 106, 117, 110, 106, 117, 108, 97, 117, 103, 115, 101, 112, 111, 99, 116, 110, 111, 118, 100, 101, 99] : List UInt8).drop (3 * (k + 1) - 3)).take (3 * (k + 1) - (3 * (k + 1) - 3)) = monTab.getD k [] := by decide +kernel
  exact this k hk

theorem monTab_no (l : List UInt8) (k : Nat) (h : k < monK l) (hk : k < 12) : (monTab.getD k [] == (l.take 3).map low) = false := by
  have h2 : k < monTab.length := hk
  have := List.not_of_lt_findIdx h
  have e : monTab.getD k [] = monTab[k] := by simp [List.getD, h2]
  rw [e, beq_eq_false_iff_ne]
  intro c
  simp [c] at this
theorem monTab_yes (l : List UInt8) (h : monK l < 12) : (monTab.getD (monK l) [] == (l.take 3).map low) = true := by
  have h2 : monK l < monTab.length := h
  have := List.findIdx_getElem (w := h2)
  have e : monTab.getD (monK l) [] = monTab[monK l] := by simp [List.getD, h2]
  rw [e]
  exact this

theorem refMonthC (l : List UInt8) (n : Nat) (w : World) (hl : l.length = n) (hm : n ≤ maxLen) :
    Calls Tryd.prog 28 #[.string (str l)] w fun e w' => e = .returned (.int .i64 (monL l : Int)) ∧ Below w.heap.size w w' := by
  have hsz : (str l).size = n := by rw [str_size, hl]
  by_cases h3 : n < 3
  · have e : monL l = 0 := by unfold monL; rw [if_pos (by omega)]
    rw [e]
    have h3' : (n : Int) < 3 := by omega
    clear e
    go_enter Tryd.func28, Tryd.ntmps28
    go_wp2
    go_ret
    exact ⟨rfl, Below.refl _ _⟩
  · have h3' : ¬ (n : Int) < 3 := by omega
    have hx : (str l).extract 0 3 = str (l.take 3) := by rw [str_extract]; simp
    have HL := fun w => refLowerC (l.take 3) 3 w (by simp; omega) (by omega)
    unfold GivesStr at HL
    have hK1 := Lib.hid (monTab_no l)
    have hK2 := Lib.hid (monTab_yes l)
    have hK3 : Hid (monL l = if monK l < 12 then monK l + 1 else 0) := by unfold Hid monL; rw [if_neg (by omega)]
    have hN := Lib.hid names12
    have hk := str_toList
    generalize monK l = K at *
    generalize (l.take 3).map low = t at *
    generalize l.take 3 = l3 at *
    generalize monL l = L at *
    clear hl
    go_enter Tryd.func28, Tryd.ntmps28
    go_wp2_with (go_at_call 39; (with_reducible refine (HL _).mono ?_); rintro e w2 ⟨rfl, hb⟩)
    go_loopw [5] (fun i wr => ∃ k : Nat, k ≤ 12 ∧ k ≤ K ∧ i = .int .i64 ((k : Int) + 1) ∧ w2 = wr) (fun i _ => 13 - (intOf i).toNat)
    case atStart => exact ⟨0, Nat.zero_le _, Nat.zero_le _, rfl, rfl⟩
    case round =>
      obtain ⟨k, hk1, hkK, rfl, rfl⟩ := hrel
      rcases (show (k < 12 ∧ k < K) ∨ (k < 12 ∧ k = K) ∨ k = 12 by omega) with ⟨hk1, hk2⟩ | ⟨hk1, rfl⟩ | rfl
      · have hn := hN.out k hk1
        have hc := hK1.out k hk2 hk1
        generalize monTab.getD k [] = z at *
        have h12 : (k : Int) < 12 := by omega
        go_wp2
        go_roundw
        case rel => exact ⟨k + 1, by omega, by omega, by go_num, by first | rfl | trivial⟩
        case measure => simp [intOf]; omega
      · have hn := hN.out k hk1
        have hc := hK2.out hk1
        generalize monTab.getD k [] = z at *
        have h12 : (k : Int) < 12 := by omega
        have e : Hid (L = k + 1) := by unfold Hid; rw [hK3.out, if_pos hk1]
        go_wp2
        go_ret
        exact ⟨by rw [e.out]; rfl, hb⟩
      · have e : Hid (L = 0) := by unfold Hid; rw [hK3.out, if_neg (by omega)]
        go_wp2
        go_ret
        exact ⟨by rw [e.out]; rfl, hb⟩
end Go.Proofs.YtcjkaciknfiekaaDoor
