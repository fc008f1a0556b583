/- Contracts of the reference of layer 7: the calendar. -/
import Derived.Test.YtcjkaciknfiekaaDoorDate2
namespace Go.Proofs.YtcjkaciknfiekaaDoor
open Go.RowKit
set_option linter.unusedVariables false

theorem refLongC (y v : Int) (M : Nat) (w : World) (hv : v = (M : Int) + 1) (hM : M < 12) (h0 : -9223372036854775808 ≤ y) (h1 : y ≤ 9223372036854775807) :
    Calls Tryd.prog 13 #[.int .i64 y, .int .i64 v] w fun e w' => e = .returned (.int .i64 (longI y M)) ∧ Below w.heap.size w w' := by
  have HL := refLeapC y w h0 h1
  by_cases c : M = 1
  · subst c
    obtain rfl : v = 2 := by omega
    clear hv
    cases hl : leapB y with
    | true =>
      rw [hl] at HL
      rw [longI_29 hl]
      clear hl
      go_enter Tryd.func13, Tryd.ntmps13
      go_wp2_with (go_at_call 19; (with_reducible refine HL.mono ?_); rintro e w2 ⟨rfl, rfl⟩)
      go_ret
      exact ⟨rfl, Below.refl _ _⟩
    | false =>
      rw [hl] at HL
      rw [longI_no (fun _ => hl)]
      have e1 : mlen.getD 1 0 = 28 := rfl
      rw [e1]
      clear hl
      go_enter Tryd.func13, Tryd.ntmps13
      go_wp2_with (go_at_call 19; (with_reducible refine HL.mono ?_); rintro e w2 ⟨rfl, rfl⟩)
      go_ret
      exact ⟨rfl, below_alloc _ _⟩
  · rw [longI_no (fun h => absurd h c)]
    have hc : ((M : Int) + 1 == 2) = false := by simp; omega
    subst hv
    have hr := reads_new w [.int .i64 0, .int .i64 31, .int .i64 28, .int .i64 31, .int .i64 30, .int .i64 31, .int .i64 30, .int .i64 31, .int .i64 31, .int .i64 30, .int .i64 31, .int .i64 30, .int .i64 31] 3
    have hx : ([.int .i64 0, .int .i64 31, .int .i64 28, .int .i64 31, .int .i64 30, .int .i64 31, .int .i64 30, .int .i64 31, .int .i64 31, .int .i64 30, .int .i64 31, .int .i64 30, .int .i64 31] : List Value)[M + 1]? = some (.int .i64 (mlen.getD M 0)) := by
      have : ∀ M, M < 12 → ([0, 31, 28, 31, 30, 31, 30, 31, 31, 30, 31, 30, 31] : List Int)[M + 1]? = some (mlen.getD M 0) := by decide
      have h := congrArg (Option.map (Value.int .i64)) (this M hM)
      rw [← List.getElem?_map] at h
      exact h
    obtain ⟨b, off, hb, hcell⟩ := hr (M + 1) _ hx
    cases hb
    rw [Nat.zero_add] at hcell
    generalize mlen.getD M 0 = z at *
    have hm1 : (M : Int) + 1 < 13 := by omega
    clear c HL hr hx
    go_enter Tryd.func13, Tryd.ntmps13
    go_wp2
    go_ret
    exact ⟨rfl, below_alloc _ _⟩

theorem refRightYes (y v d : Int) (M : Nat) (w : World) (hv : v = (M : Int) + 1) (h : RightI y M d) :
    Calls Tryd.prog 9 #[.int .i64 y, .int .i64 v, .int .i64 d] w fun e w' => e = .returned (.bool true) ∧ Below w.heap.size w w' := by
  obtain ⟨h1, h2, h3, h4, h5⟩ := h
  have HL := refLongC y v M w hv h3 (by omega) (by omega)
  have hb := longI_le y M h3
  have hv1 : 1 ≤ v := by omega
  have hv2 : v ≤ 12 := by omega
  clear hv
  generalize longI y M = L at *
  go_enter Tryd.func9, Tryd.ntmps9
  go_wp2_with (go_at_call 13; (with_reducible refine HL.mono ?_); rintro e w2 ⟨rfl, hx⟩)
  go_ret
  exact ⟨rfl, hx⟩

theorem refRightNo (y m d : Int) (w : World) (h : WrongI y m d) (h0 : -9223372036854775808 ≤ y) (h1 : y ≤ 9223372036854775807) (h2 : -9223372036854775808 ≤ m) (h3 : m ≤ 9223372036854775807) (h4 : -9223372036854775808 ≤ d) (h5 : d ≤ 9223372036854775807) :
    Calls Tryd.prog 9 #[.int .i64 y, .int .i64 m, .int .i64 d] w fun e w' => e = .returned (.bool false) ∧ Below w.heap.size w w' := by
  have hr := Below.refl w.heap.size w
  by_cases a1 : y < 1601
  · go_enter Tryd.func9, Tryd.ntmps9
    go_wp2
    go_ret
    exact ⟨rfl, hr⟩
  by_cases a2 : 9999 < y
  · go_enter Tryd.func9, Tryd.ntmps9
    go_wp2
    go_ret
    exact ⟨rfl, hr⟩
  by_cases a3 : m < 1
  · go_enter Tryd.func9, Tryd.ntmps9
    go_wp2
    go_ret
    exact ⟨rfl, hr⟩
  by_cases a4 : 12 < m
  · go_enter Tryd.func9, Tryd.ntmps9
    go_wp2
    go_ret
    exact ⟨rfl, hr⟩
  by_cases a5 : d < 1
  · go_enter Tryd.func9, Tryd.ntmps9
    go_wp2
    go_ret
    exact ⟨rfl, hr⟩
  obtain ⟨M, hM, hm, h6⟩ : ∃ M : Nat, M < 12 ∧ m = (M : Int) + 1 ∧ longI y M < d := by
    rcases h with h | h | h | h | ⟨M, h6, h7, h8⟩
    · omega
    · omega
    · omega
    · omega
    · exact ⟨M, h6, h7, by omega⟩
  have HM := refLongC y m M w hm hM h0 h1
  generalize longI y M = L at *
  clear h hm hr
  go_enter Tryd.func9, Tryd.ntmps9
  go_wp2_with (go_at_call 13; (with_reducible refine HM.mono ?_); rintro e w2 ⟨rfl, hx⟩)
  go_ret
  refine ⟨?_, hx⟩
  show Ending.returned (.bool (decide (d ≤ L))) = _
  rw [decide_eq_false (by omega)]

theorem refDaysC (y v : Int) (M : Nat) (d : Int) (w : World) (hv : v = (M : Int) + 1) (h : RightI y M d) :
    Calls Tryd.prog 12 #[.int .i64 y, .int .i64 v, .int .i64 d] w fun e w' => e = .returned (.int .i64 (daysI y M d)) ∧ Below w.heap.size w w' := by
  subst hv
  obtain ⟨h1, h2, h3, h4, h5⟩ := h
  have HM := fun (k : Nat) (hk : k < 12) (v : Int) (hv : v = (k : Int) + 1) (w : World) => refLongC y v k w hv hk (by omega) (by omega)
  have HY := aheadC y w (by omega) (by omega)
  have HZ := aheadC 1970 w (by omega) (by omega)
  have e0 : aheadI 1970 = 719162 := by decide
  rw [e0] at HZ
  have hs := start_le' y h1 (by omega)
  have hb := (longI_le y M h3).2
  have hd : d ≤ 31 := by omega
  have HD : Hid (daysI y M d = aheadI y - 719162 + mdays y M + d - 1) := rfl
  unfold startI at hs
  have HP := Lib.hid (fun k (hk : k ≤ 12) => mdays_pos y k hk)
  have HS := Lib.hid (fun k => show mdays y (k + 1) = mdays y k + longI y k from rfl)
  have HL := Lib.hid (longI_le y)
  have h0 : Hid (mdays y 0 = 0) := rfl
  generalize daysI y M d = R at *
  generalize aheadI y = s at *
  generalize mdays y = md at *
  have hv1 : (1 : Int) ≤ (M : Int) + 1 := by omega
  have hv2 : (M : Int) + 1 ≤ 12 := by omega
  go_enter Tryd.func12, Tryd.ntmps12
  go_wp2_with (go_at_call 22; first | ((with_reducible refine HY.mono ?_); rintro e w2 ⟨rfl, rfl⟩) | ((with_reducible refine HZ.mono ?_); rintro e w2 ⟨rfl, rfl⟩))
  go_loopw [7, 8] (fun v i wr => ∃ k : Nat, k ≤ M ∧ v = .int .i64 (s - 719162 + md k) ∧ i = .int .i64 ((k : Int) + 1) ∧ Below w.heap.size w wr) (fun _ i _ => M + 1 - (intOf i).toNat)
  case atStart => exact ⟨0, Nat.zero_le _, by rw [h0.out]; simp, rfl, Below.refl _ _⟩
  case round =>
    obtain ⟨k, hk, rfl, rfl, hbw⟩ := hrel
    have p1 := HP.out k (by omega)
    have p2 := HL.out k (by omega)
    have p3 := Lib.hid (HS.out k)
    by_cases hlt : k < M
    · have hlt' : (k : Int) < (M : Int) := by omega
      have HK := HM k (by omega) _ rfl
      clear HM
      generalize longI y k = L at *
      obtain ⟨z, hz⟩ : ∃ z, md k = z := ⟨_, rfl⟩
      rw [hz] at p1
      rw [hz]
      have p4 := Lib.hid (p3.out.trans (by rw [hz]))
      clear hz p3
      go_wp2_with (go_at_call 13; (with_reducible refine (HK _).mono ?_); rintro e w2 ⟨rfl, hx⟩)
      go_roundw
      case rel => exact ⟨k + 1, by omega, by rw [p4.out]; congr 1; omega, by go_num, hbw.trans (hx.mono hbw.size)⟩
      case measure => simp [intOf]; omega
    · obtain rfl : k = M := by omega
      clear HM p2 p3
      have e : Hid (R = s - 719162 + md k + d - 1) := HD.out
      generalize md k = z at *
      go_wp2
      go_ret
      exact ⟨by rw [e.out]; rfl, hbw⟩
end Go.Proofs.YtcjkaciknfiekaaDoor
