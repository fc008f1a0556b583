/- Contracts of layer 7: the calendar. -/
import Derived.Test.YtcjkaciknfiekaaDoorDateTok
import Derived.Test.YtcjkaciknfiekaaDoorAscii4
import Derived.Test.YtcjkaciknfiekaaDoorOwnAt
namespace Go.Proofs.YtcjkaciknfiekaaDoor
open Go.RowKit
set_option linter.unusedVariables false

/-- The tables of package date lie there. -/
structure DTab (w : World) : Prop where
  len : ∀ i, i < 12 → w.cell? ⟨2, i, none⟩ = some (.int .i64 (mlen.getD i 0))
  mon : ∀ i, i < 12 → w.cell? ⟨0, i, none⟩ = some (.string (str (monTop.getD i [])))
  wd : ∀ i, i < 7 → w.cell? ⟨1, i, none⟩ = some (.string (str (wdTop.getD i [])))
theorem DTab.below {w w' : World} (h : DTab w) (hb : Below w.heap.size w w') : DTab w' := by
  refine ⟨fun i hi => ?_, fun i hi => ?_, fun i hi => ?_⟩
  · rw [hb.cell (cell_lt (h.len i hi))]; exact h.len i hi
  · rw [hb.cell (cell_lt (h.mon i hi))]; exact h.mon i hi
  · rw [hb.cell (cell_lt (h.wd i hi))]; exact h.wd i hi

theorem leap_400 (y : Int) (h : (y.tmod 4 == 0) = false) : (y.tmod 400 == 0) = false := by
  simp only [beq_eq_false_iff_ne, ne_eq] at h ⊢
  intro c
  apply h
  exact Int.tmod_eq_zero_of_dvd (Int.dvd_trans (by decide : (4 : Int) ∣ 400) (Int.dvd_of_tmod_eq_zero c))

theorem leapC (y : Int) (w : World) (h0 : -9223372036854775808 ≤ y) (h1 : y ≤ 9223372036854775807) :
    Calls Tryd.prog 18 #[.int .i64 y] w fun e w' => e = .returned (.bool (leapB y)) ∧ w = w' := by
  have HL := Lib.hid (show leapB y = ((y.tmod 4 == 0 && !(y.tmod 100 == 0)) || y.tmod 400 == 0) from rfl)
  obtain ⟨a, ha⟩ : ∃ a, (y.tmod 4 == 0) = a := ⟨_, rfl⟩
  obtain ⟨b, hb⟩ : ∃ b, (y.tmod 100 != 0) = b := ⟨_, rfl⟩
  obtain ⟨c, hc⟩ : ∃ c, (y.tmod 400 == 0) = c := ⟨_, rfl⟩
  have HL2 : Hid (leapB y = ((a && b) || c)) := by unfold Hid; rw [HL.out, ha, ← hb, hc]; rfl
  generalize leapB y = z at *
  clear HL
  cases a <;> cases b <;> cases c
  all_goals
    go_enter Tryd.func18, Tryd.ntmps18
    go_wp2
    go_ret
    exact ⟨by rw [HL2.out]; rfl, rfl⟩

theorem refLeapC (y : Int) (w : World) (h0 : -9223372036854775808 ≤ y) (h1 : y ≤ 9223372036854775807) :
    Calls Tryd.prog 19 #[.int .i64 y] w fun e w' => e = .returned (.bool (leapB y)) ∧ w = w' := by
  have HL := Lib.hid (show leapB y = ((y.tmod 4 == 0 && !(y.tmod 100 == 0)) || y.tmod 400 == 0) from rfl)
  have H4 := leap_400 y
  obtain ⟨a, ha⟩ : ∃ a, (y.tmod 4 == 0) = a := ⟨_, rfl⟩
  obtain ⟨b, hb⟩ : ∃ b, (y.tmod 100 != 0) = b := ⟨_, rfl⟩
  obtain ⟨c, hc⟩ : ∃ c, (y.tmod 400 == 0) = c := ⟨_, rfl⟩
  have HL2 : Hid (leapB y = ((a && b) || c)) := by unfold Hid; rw [HL.out, ha, ← hb, hc]; rfl
  rw [ha, hc] at H4
  generalize leapB y = z at *
  clear HL
  cases a <;> cases b <;> cases c
  all_goals first
    | exact absurd (H4 rfl) (by decide)
    | (clear H4
       go_enter Tryd.func19, Tryd.ntmps19
       go_wp2
       go_ret
       exact ⟨by rw [HL2.out]; rfl, rfl⟩)

theorem longI_29 {y : Int} (h : leapB y = true) : longI y 1 = 29 := by unfold longI; rw [if_pos ⟨rfl, h⟩]
theorem longI_no {y : Int} {M : Nat} (h : M = 1 → leapB y = false) : longI y M = mlen.getD M 0 := by
  unfold longI
  rw [if_neg]
  rintro ⟨rfl, h2⟩
  rw [h rfl] at h2
  cases h2

theorem monthDaysC (y v : Int) (M : Nat) (w : World) (hv : v = (M : Int) + 1) (hM : M < 12) (h0 : -9223372036854775808 ≤ y) (h1 : y ≤ 9223372036854775807) (hT : DTab w) :
    Calls Tryd.prog 20 #[.int .i64 y, .int .i64 v] w fun e w' => e = .returned (.int .i64 (longI y M)) ∧ w = w' := by
  subst hv
  have HL := leapC y w h0 h1
  have hc := hT.len M hM
  by_cases c : M = 1
  · subst c
    cases hl : leapB y with
    | true =>
      rw [hl] at HL
      rw [longI_29 hl]
      clear hl
      go_enter Tryd.func20, Tryd.ntmps20
      go_wp2_with (go_at_call 18; (with_reducible refine HL.mono ?_); rintro e w2 ⟨rfl, rfl⟩)
      go_ret
      exact ⟨rfl, rfl⟩
    | false =>
      rw [hl] at HL
      rw [longI_no (fun _ => hl)]
      have e1 : mlen.getD 1 0 = 28 := rfl
      rw [e1] at hc ⊢
      clear hl
      go_enter Tryd.func20, Tryd.ntmps20
      go_wp2_with (go_at_call 18; (with_reducible refine HL.mono ?_); rintro e w2 ⟨rfl, rfl⟩)
      go_ret
      exact ⟨rfl, rfl⟩
  · rw [longI_no (fun h => absurd h c)]
    generalize mlen.getD M 0 = z at *
    have c' : ((M : Int) + 1 == 2) = false := by simp; omega
    go_enter Tryd.func20, Tryd.ntmps20
    go_wp2
    go_ret
    exact ⟨rfl, rfl⟩

theorem yearStartC (y : Int) (w : World) (h0 : 1 ≤ y) (h1 : y ≤ 10000) :
    Calls Tryd.prog 21 #[.int .i64 y] w fun e w' => e = .returned (.int .i64 (startI y)) ∧ w = w' := by
  obtain ⟨k, rfl⟩ : ∃ k : Nat, y = (k : Int) + 1 := ⟨(y - 1).toNat, by omega⟩
  have e : startI ((k : Int) + 1) = (k : Int) * 365 + (k : Int) / 4 - (k : Int) / 100 + (k : Int) / 400 - 719162 := by
    unfold startI aheadI
    rw [show ((k : Int) + 1 - 1) = (k : Int) by omega]
  rw [e]
  clear e
  go_enter Tryd.func21, Tryd.ntmps21
  go_wp2
  go_ret
  exact ⟨rfl, rfl⟩

theorem aheadC (y : Int) (w : World) (h0 : 1 ≤ y) (h1 : y ≤ 10000) :
    Calls Tryd.prog 22 #[.int .i64 y] w fun e w' => e = .returned (.int .i64 (aheadI y)) ∧ w = w' := by
  obtain ⟨k, rfl⟩ : ∃ k : Nat, y = (k : Int) + 1 := ⟨(y - 1).toNat, by omega⟩
  have e : aheadI ((k : Int) + 1) = (k : Int) * 365 + (k : Int) / 4 - (k : Int) / 100 + (k : Int) / 400 := by
    unfold aheadI
    rw [show ((k : Int) + 1 - 1) = (k : Int) by omega]
  rw [e]
  clear e
  go_enter Tryd.func22, Tryd.ntmps22
  go_wp2
  go_ret
  exact ⟨rfl, rfl⟩

theorem tmod_split (n k : Int) (hk : 0 < k) : (0 ≤ n ∧ n.tmod k = n % k ∧ n.tdiv k = n / k) ∨ (n < 0 ∧ n.tmod k = -(-n % k) ∧ n.tdiv k = -(-n / k)) := by
  rcases Int.lt_or_le n 0 with h | h
  · refine .inr ⟨h, ?_, ?_⟩
    · rw [← Int.tmod_eq_emod_of_nonneg (by omega), Int.neg_tmod, Int.neg_neg]
    · rw [← Int.tdiv_eq_ediv_of_nonneg (by omega), Int.neg_tdiv, Int.neg_neg]
  · exact .inl ⟨h, Int.tmod_eq_emod_of_nonneg h, Int.tdiv_eq_ediv_of_nonneg h⟩

theorem weekC (n : Int) (w : World) (h0 : -200000 ≤ n) (h1 : n ≤ 3000000) :
    Calls Tryd.prog 14 #[.int .i64 n] w fun e w' => e = .returned (.int .i64 ((n + 4) % 7)) ∧ w = w' := by
  have ht := tmod_split n 7 (by omega)
  obtain ⟨r, hr⟩ : ∃ r, n.tmod 7 = r := ⟨_, rfl⟩
  rw [hr] at ht
  have h2 : -6 ≤ r := by omega
  have h3 : r ≤ 6 := by omega
  have e : Hid ((n + 4) % 7 = (r + 4 + 7) % 7) := by unfold Hid; omega
  clear ht h0 h1
  go_enter Tryd.func14, Tryd.ntmps14
  go_wp2
  go_ret
  exact ⟨by rw [e.out]; rfl, rfl⟩
end Go.Proofs.YtcjkaciknfiekaaDoor
