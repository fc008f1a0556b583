/- Contracts of layer 6: numbers. -/
import Derived.Test.YtgaodaimkojmhaaDoorAscii2
import Derived.Test.YtgaodaimkojmhaaDoorShelf
namespace Go.Proofs.YtgaodaimkojmhaaDoor
open Go.RowKit
set_option linter.unusedVariables false

theorem cutDashC (l : List UInt8) (w : World) : Calls Tryd.prog 36 #[.string (str l), .string ⟨#[45]⟩] w fun e w' => e = .returned (.tuple #[.string (str (body l)), .bool (signed l)]) ∧ w = w' := by
  refine (Tryd.strings_CutPrefix (str l) ⟨#[45]⟩ w).mono ?_
  rintro e w' ⟨rfl, rfl⟩
  rw [str_data]
  exact ⟨rfl, rfl⟩

set_option maxRecDepth 100000 in
theorem numberC (l : List UInt8) (n : Nat) (w : World) (hl : l.length = n) (hm : n ≤ maxLen) :
    Calls Tryd.prog 37 #[.string (str l)] w fun e w' => e = .returned (.tuple #[.int .i64 (numL l).1, .bool (numL l).2]) ∧ w = w' := by
  have HC := cutDashC l
  have hle := body_le l
  unfold numL
  generalize body l = b at *
  generalize signed l = g at *
  obtain ⟨m, hb⟩ : ∃ m, b.length = m := ⟨_, rfl⟩
  have hsz : (str b).size = m := by rw [str_size, hb]
  have HD := fun w => digitsC b m w hb (by omega)
  have hd : lead b ≤ m := by rw [← hb]; exact lead_le b
  have hal := fun h => lead_all (l := b) h
  rw [hb] at hle hal ⊢
  rw [hl] at hle
  clear hl
  change ∀ w, Calls Tryd.prog 38 #[.string (str b)] w fun e w' => e = .returned (.int .i64 (lead b : Int)) ∧ w = w' at HD
  have hk := str_toList b
  have HB := Lib.hid hb
  unfold maxLen at hm
  rcases Nat.eq_zero_or_pos m with hm0 | hm0
  · rw [if_pos (.inl hm0)]
    have : b = [] := List.eq_nil_of_length_eq_zero (hb.trans hm0)
    subst this
    clear hb HB hal HD hd
    go_enter Tryd.func37, Tryd.ntmps37
    go_wp2_with (go_at_call 36; (with_reducible refine (HC _).mono ?_); rintro e w2 ⟨rfl, rfl⟩)
    go_ret2
    exact ⟨rfl, rfl⟩
  · have hbn : (b == []) = false := by
      cases b with
      | nil => simp at hb; omega
      | cons x xs => rfl
    clear hb
    generalize lead b = d at *
    by_cases hlt : d < m
    · rw [if_pos (.inr hlt)]
      have hlt' : (d : Int) < (m : Int) := by omega
      go_enter Tryd.func37, Tryd.ntmps37
      go_wp2_with (first | (go_at_call 36; (with_reducible refine (HC _).mono ?_); rintro e w2 ⟨rfl, rfl⟩) | (go_at_call 38; (with_reducible refine (HD _).mono ?_); rintro e w2 ⟨rfl, rfl⟩))
      go_ret2
      exact ⟨rfl, rfl⟩
    · rw [if_neg (by omega)]
      obtain rfl : d = m := by omega
      have hge : ¬ ((d : Int) < (d : Int)) := by omega
      have HA := Lib.hid (hal rfl)
      clear hal hlt
      go_enter Tryd.func37, Tryd.ntmps37
      go_wp2_with (first | (go_at_call 36; (with_reducible refine (HC _).mono ?_); rintro e w2 ⟨rfl, rfl⟩) | (go_at_call 38; (with_reducible refine (HD _).mono ?_); rintro e w2 ⟨rfl, rfl⟩))
      go_loopw [6, 24] (fun v i wr => ∃ k : Nat, k ≤ d ∧ v = .int .i64 (numV (b.take k) : Int) ∧ i = .int .i64 (k : Int) ∧ w = wr) (fun _ i _ => d - (intOf i).toNat)
      case atStart => exact ⟨0, Nat.zero_le _, rfl, rfl, rfl⟩
      case round =>
        obtain ⟨k, hk2, rfl, rfl, rfl⟩ := hrel
        clear HC HD
        by_cases hlt : k < d
        · have hlt' : (k : Int) < (d : Int) := by omega
          have hi := run_index_str (P := Tryd.prog) w 9 b .i64 k Tryd.underlying9 (by rw [HB.out]; exact hlt)
          obtain ⟨d1, d2⟩ := HA.out k hlt
          have HV := Lib.hid (numV_take (l := b) (k := k) (by rw [HB.out]; exact hlt))
          have hv := numV_le (b.take k)
          generalize numV (b.take k) = V at *
          generalize (b.getD k 0).toNat = x at *
          obtain ⟨y, rfl⟩ : ∃ y, x = y + 48 := ⟨x - 48, by omega⟩
          go_wp2
          go_roundw
          case rel => exact ⟨k + 1, by omega, by rw [HV.out]; congr 1; omega, by go_num, by first | rfl | trivial⟩
          case measure => simp [intOf]; omega
        · obtain rfl : k = d := by omega
          have hv := numV_le b
          have e1 : b.take k = b := List.take_of_length_le (by rw [HB.out]; omega)
          rw [e1]
          obtain ⟨V, hV⟩ : ∃ V, numV b = V := ⟨_, rfl⟩
          rw [hV] at hv ⊢
          have HV := Lib.hid hV
          clear hV e1
          cases g
          · go_wp2
            go_ret2
            exact ⟨by rw [HV.out]; rfl, rfl⟩
          · go_wp2
            go_ret2
            exact ⟨by rw [HV.out]; simp, rfl⟩
end Go.Proofs.YtgaodaimkojmhaaDoor
