/- The reference's numbers. -/
import Derived.Test.YtgaodaimkojmhaaDoorAsciiRef2
namespace Go.Proofs.YtgaodaimkojmhaaDoor
open Go.RowKit
set_option linter.unusedVariables false

theorem getD_drop (l : List UInt8) (F j : Nat) : (l.drop F).getD j 0 = l.getD (F + j) 0 := by simp [List.getD]

set_option maxRecDepth 100000 in
theorem refNumberC (l : List UInt8) (n : Nat) (w : World) (hl : l.length = n) (hm : n ≤ maxLen) :
    Calls Tryd.prog 43 #[.string (str l)] w fun e w' => e = .returned (.tuple #[.int .i64 (numL l).1, .bool (numL l).2]) ∧ w = w' := by
  have hsz : (str l).size = n := by rw [str_size, hl]
  have HL := Lib.hid hl
  unfold maxLen at hm
  unfold numL
  obtain ⟨b, hbb⟩ : ∃ b, body l = b := ⟨_, rfl⟩
  rw [hbb]
  obtain ⟨g, hg⟩ : ∃ g, signed l = g := ⟨_, rfl⟩
  cases g
  · rw [hg]
    obtain ⟨h0, h1⟩ := signed_no hg
    rw [hbb] at h1
    subst h1
    clear hg hbb hl
    obtain ⟨m, hmn⟩ : ∃ m, m = n := ⟨n, rfl⟩
    subst hmn
    have HB := HL
    have hb := HB.out
    have hex : (str b).extract 0 m = str b := by rw [str_extract, ← hb]; simp
    clear hb
    have hd := lead_le b
    rw [HB.out] at hd ⊢
    have HD := fun w => refDigitsC b m w HB.out (by unfold maxLen; omega)
    have hal := fun h => lead_all (l := b) h
    rw [HB.out] at hal
    rcases Nat.eq_zero_or_pos m with hm0 | hm0
    · rw [if_pos (.inl hm0)]
      subst hm0
      clear HD hal hd
      go_enter Tryd.func43, Tryd.ntmps43
      go_wp2
      go_ret2
      exact ⟨rfl, rfl⟩
    · skip
      have hi0 : (Instr.index 9 (.string (str b)) (.int .i64 0)).run Tryd.prog w = .ok (.int .u8 ((b.getD 0 0).toNat : Int)) w := run_index_str (P := Tryd.prog) w 9 b .i64 0 Tryd.underlying9 (by rw [HB.out]; omega)
      have hne0 : (b.getD 0 0).toNat ≠ 45 := by rcases h0 with h | h; exact absurd h (by rw [HB.out]; omega); exact h
      generalize (b.getD 0 0).toNat = x0 at hi0 hne0
      have hne1 : ((x0 : Int) == 45) = false := by simp; omega
      have hm1 : (0 : Int) < (m : Int) := by omega
      clear hne0 h0
      have hmne : ((m : Nat) : Int) ≠ 0 := by omega
      have hmne2 : (((m : Nat) : Int) == 0) = false := by simp; omega
      push_cast at hmne2
      generalize lead b = d at *
      by_cases hlt : d < m
      · rw [if_pos (.inr hlt)]
        have hlt' : (d : Int) < (m : Int) := by omega
        clear hal hmne
        go_enter Tryd.func43, Tryd.ntmps43
        go_wp2_with (go_at_call 42; (with_reducible refine (HD _).mono ?_); rintro e w2 ⟨rfl, rfl⟩)
        go_ret2
        exact ⟨rfl, rfl⟩
      · rw [if_neg (by omega)]
        obtain rfl : d = m := by omega
        have HA := Lib.hid (hal rfl)
        clear hal hlt hmne
        go_enter Tryd.func43, Tryd.ntmps43
        go_wp2_with (go_at_call 42; (with_reducible refine (HD _).mono ?_); rintro e w2 ⟨rfl, rfl⟩)
        go_loopw [5, 6] (fun v i wr => ∃ j : Nat, j ≤ d ∧ v = .int .i64 (numV (b.take j) : Int) ∧ i = .int .i64 (j : Int) ∧ w = wr) (fun _ i _ => d - (intOf i).toNat)
        case atStart => exact ⟨0, Nat.zero_le _, rfl, by simp, rfl⟩
        case round =>
          obtain ⟨j, hj, rfl, rfl, rfl⟩ := hrel
          clear HD
          by_cases hlt : j < d
          · have hlt' : (j : Int) < (d : Int) := by omega
            have hi : (Instr.index 9 (.string (str b)) (.int .i64 (j : Int))).run Tryd.prog w = .ok (.int .u8 ((b.getD j 0).toNat : Int)) w := run_index_str (P := Tryd.prog) w 9 b .i64 j Tryd.underlying9 (by rw [HL.out]; omega)
            obtain ⟨d1, d2⟩ := HA.out j hlt
            have HV := Lib.hid (numV_take (l := b) (k := j) (by rw [HB.out]; exact hlt))
            have hv := numV_le (b.take j)
            generalize numV (b.take j) = V at *
            generalize (b.getD j 0).toNat = x at *
            by_cases hc : V * 10 + x - 48 ≤ 1099511627776
            · have hc' : ¬ (1099511627776 : Int) < (V : Int) * 10 + (x : Int) - 48 := by omega
              go_wp2
              go_roundw
              case rel => exact ⟨j + 1, by omega, by rw [HV.out]; congr 1; omega, by go_num, by first | rfl | trivial⟩
              case measure => simp [intOf]; omega
            · have hc' : (1099511627776 : Int) < (V : Int) * 10 + (x : Int) - 48 := by omega
              go_wp2
              go_roundw
              case rel => exact ⟨j + 1, by omega, by rw [HV.out]; congr 1; omega, by go_num, by first | rfl | trivial⟩
              case measure => simp [intOf]; omega
          · obtain rfl : j = d := by omega
            have hv := numV_le b
            have e1 : b.take j = b := List.take_of_length_le (by rw [HB.out]; omega)
            rw [e1]
            obtain ⟨V, hV⟩ : ∃ V, numV b = V := ⟨_, rfl⟩
            rw [hV] at hv ⊢
            have HV := Lib.hid hV
            clear hV e1
            go_wp2
            go_ret2
            exact ⟨by rw [HV.out]; simp, rfl⟩
  · rw [hg]
    obtain ⟨h0, h1, h2⟩ := signed_yes hg
    rw [hbb] at h2
    subst h2
    obtain ⟨m, rfl⟩ : ∃ m, n = m + 1 := ⟨n - 1, by omega⟩
    have hex : (str l).extract 1 (m + 1) = str (l.drop 1) := by rw [str_extract, List.take_of_length_le]; simp; omega
    have hb : (l.drop 1).length = m := by simp; omega
    have HB := Lib.hid hb
    have HG : Hid (∀ j, (l.drop 1).getD j 0 = l.getD (j + 1) 0) := fun j => by rw [getD_drop, Nat.add_comm]
    have hi0 : (Instr.index 9 (.string (str l)) (.int .i64 0)).run Tryd.prog w = .ok (.int .u8 ((l.getD 0 0).toNat : Int)) w := run_index_str (P := Tryd.prog) w 9 l .i64 0 Tryd.underlying9 (by rw [HL.out]; omega)
    rw [h1] at hi0
    have hm1 : (0 : Int) < (m : Int) + 1 := by omega
    clear hl h0 hbb hg h1
    generalize l.drop 1 = b at *
    clear hb
    have hd := lead_le b
    rw [HB.out] at hd ⊢
    have HD := fun w => refDigitsC b m w HB.out (by unfold maxLen; omega)
    have hal := fun h => lead_all (l := b) h
    rw [HB.out] at hal
    rcases Nat.eq_zero_or_pos m with hm0 | hm0
    · rw [if_pos (.inl hm0)]
      subst hm0
      clear HD hal hd
      go_enter Tryd.func43, Tryd.ntmps43
      go_wp2
      go_ret2
      exact ⟨rfl, rfl⟩
    · skip
      have hmne : ((m + 1 : Nat) : Int) ≠ 1 := by omega
      have hmne2 : (((m + 1 : Nat) : Int) == 1) = false := by simp; omega
      push_cast at hmne2
      generalize lead b = d at *
      by_cases hlt : d < m
      · rw [if_pos (.inr hlt)]
        have hlt' : (d : Int) < (m : Int) := by omega
        clear hal hmne
        go_enter Tryd.func43, Tryd.ntmps43
        go_wp2_with (go_at_call 42; (with_reducible refine (HD _).mono ?_); rintro e w2 ⟨rfl, rfl⟩)
        go_ret2
        exact ⟨rfl, rfl⟩
      · rw [if_neg (by omega)]
        obtain rfl : d = m := by omega
        have HA := Lib.hid (hal rfl)
        clear hal hlt hmne
        go_enter Tryd.func43, Tryd.ntmps43
        go_wp2_with (go_at_call 42; (with_reducible refine (HD _).mono ?_); rintro e w2 ⟨rfl, rfl⟩)
        go_loopw [5, 6] (fun v i wr => ∃ j : Nat, j ≤ d ∧ v = .int .i64 (numV (b.take j) : Int) ∧ i = .int .i64 ((j : Int) + 1) ∧ w = wr) (fun _ i _ => d + 1 - (intOf i).toNat)
        case atStart => exact ⟨0, Nat.zero_le _, rfl, by simp, rfl⟩
        case round =>
          obtain ⟨j, hj, rfl, rfl, rfl⟩ := hrel
          clear HD
          by_cases hlt : j < d
          · have hlt' : (j : Int) < (d : Int) := by omega
            have hi : (Instr.index 9 (.string (str l)) (.int .i64 ((j : Int) + 1))).run Tryd.prog w = .ok (.int .u8 ((l.getD (j + 1) 0).toNat : Int)) w := run_index_str (P := Tryd.prog) w 9 l .i64 (j + 1) Tryd.underlying9 (by rw [HL.out]; omega)
            rw [← HG.out j] at hi
            obtain ⟨d1, d2⟩ := HA.out j hlt
            have HV := Lib.hid (numV_take (l := b) (k := j) (by rw [HB.out]; exact hlt))
            have hv := numV_le (b.take j)
            generalize numV (b.take j) = V at *
            generalize (b.getD j 0).toNat = x at *
            by_cases hc : V * 10 + x - 48 ≤ 1099511627776
            · have hc' : ¬ (1099511627776 : Int) < (V : Int) * 10 + (x : Int) - 48 := by omega
              go_wp2
              go_roundw
              case rel => exact ⟨j + 1, by omega, by rw [HV.out]; congr 1; omega, by go_num, by first | rfl | trivial⟩
              case measure => simp [intOf]; omega
            · have hc' : (1099511627776 : Int) < (V : Int) * 10 + (x : Int) - 48 := by omega
              go_wp2
              go_roundw
              case rel => exact ⟨j + 1, by omega, by rw [HV.out]; congr 1; omega, by go_num, by first | rfl | trivial⟩
              case measure => simp [intOf]; omega
          · obtain rfl : j = d := by omega
            have hv := numV_le b
            have e1 : b.take j = b := List.take_of_length_le (by rw [HB.out]; omega)
            rw [e1]
            obtain ⟨V, hV⟩ : ∃ V, numV b = V := ⟨_, rfl⟩
            rw [hV] at hv ⊢
            have HV := Lib.hid hV
            clear hV e1
            go_wp2
            go_ret2
            exact ⟨by rw [HV.out]; simp, rfl⟩
end Go.Proofs.YtgaodaimkojmhaaDoor
