/- Layer 7's laws, walked: days and their numbers. -/
import Derived.Test.YtcjkaciknfiekaaDoorDateText
import Derived.Test.YtcjkaciknfiekaaDoorDateRef
import Derived.Test.YtcjkaciknfiekaaDoorOpen
namespace Go.Proofs.YtcjkaciknfiekaaDoor
open Go.RowKit
set_option linter.unusedVariables false

/-- The tables lie there. -/
def LTab (w : World) : Prop := PTab Tryd.prog w ∧ DTab w
theorem LTab.below {w w' : World} (h : LTab w) (hb : Below w.heap.size w w') : LTab w' := ⟨h.1.below hb, h.2.below hb⟩

set_option maxRecDepth 100000 in
theorem awake07C (w : World) (hT : LTab w) : Calls Tryd.prog 10 #[] w fun e w' => e = .returned (.bool true) ∧ Below w.heap.size w w' := by
  have HN : ∀ w, DTab w → Calls Tryd.prog 15 #[.string ⟨#[83, 117, 110, 44, 32, 48, 54, 32, 78, 111, 118, 32, 49, 57, 57, 52, 32, 48, 56, 58, 52, 57, 58, 51, 55, 32, 71, 77, 84]⟩] w fun e w' => e = .returned (.tuple #[.int .i64 784111777, .int .i64 0]) ∧ Below w.heap.size w w' := fun w hw => by
    have h := parseC [83, 117, 110, 44, 32, 48, 54, 32, 78, 111, 118, 32, 49, 57, 57, 52, 32, 48, 56, 58, 52, 57, 58, 51, 55, 32, 71, 77, 84] 29 w rfl (by omega) hw
    have e1 : parseL [83, 117, 110, 44, 32, 48, 54, 32, 78, 111, 118, 32, 49, 57, 57, 52, 32, 48, 56, 58, 52, 57, 58, 51, 55, 32, 71, 77, 84] = (784111777, true) := by decide +kernel
    rw [e1] at h
    exact h
  have HT : ∀ w, LTab w → Calls Tryd.prog 17 #[.int .i64 784111777] w fun e w' => e = .returned (.tuple #[.string ⟨#[83, 117, 110, 44, 32, 48, 54, 32, 78, 111, 118, 32, 49, 57, 57, 52, 32, 48, 56, 58, 52, 57, 58, 51, 55, 32, 71, 77, 84]⟩, .int .i64 0]) ∧ Below w.heap.size w w' := fun w hw => by
    have h := dateTextYes 784111777 1994 10 6 8 49 37 0 w ⟨by decide, by decide, by decide, by decide, by decide⟩ (by omega) (by omega) (by omega) (by decide) (by decide) hw.1 hw.2
    have e1 : textL 0 1994 10 6 8 49 37 = [83, 117, 110, 44, 32, 48, 54, 32, 78, 111, 118, 32, 49, 57, 57, 52, 32, 48, 56, 58, 52, 57, 58, 51, 55, 32, 71, 77, 84] := by decide +kernel
    rw [e1] at h
    exact h
  go_enter Tryd.func10, Tryd.ntmps10
  go_wp2_with (first
    | (go_at_call 15; (refine (HN _ hT.2).mono ?_); rintro e1 w1 ⟨rfl, hb1⟩)
    | (go_at_call 17; (with_reducible refine (HT _ (hT.below hb1)).mono ?_); rintro e4 w4 ⟨rfl, hb4⟩))
  go_ret
  exact ⟨rfl, hb1.trans (hb4.mono hb1.size)⟩

theorem dateLeaps_walk (y : Int) (w : World) (hw : (Lit.int .i64 y).wf = true) (hT : LTab w) :
    Calls Tryd.prog 7 #[.int .i64 y] w fun e w' => e = .returned (.bool true) ∧ Below w.heap.size w w' := by
  obtain ⟨h0, h1⟩ := wfI64 hw
  have HA := awake07C w hT
  have H1 := leapC y w h0 h1
  have H2 := refLeapC y w h0 h1
  generalize leapB y = g at *
  go_enter Tryd.func7, Tryd.ntmps7
  go_wp2_with (first
    | (go_at_call 18; (with_reducible refine H1.mono ?_); rintro e ww ⟨rfl, rfl⟩)
    | (go_at_call 19; (with_reducible refine H2.mono ?_); rintro e ww ⟨rfl, rfl⟩)
    | (go_at_call 10; (with_reducible refine HA.mono ?_); rintro e ww ⟨rfl, hx⟩))
  go_ret
  exact ⟨rfl, hx⟩

theorem dateCivil_walk (n : Int) (w : World) (hw : (Lit.int .i64 n).wf = true) (hT : LTab w) :
    Calls Tryd.prog 4 #[.int .i64 n] w fun e w' => e = .returned (.bool true) ∧ Below w.heap.size w w' := by
  obtain ⟨h0, h1⟩ := wfI64 hw
  clear hw
  have HA := fun w (h : LTab w) => awake07C w h
  have R1 := fun w => refDaysC 1601 1 0 1 w (by omega) ⟨by decide, by decide, by decide, by decide, by decide⟩
  have R2 := fun w => refDaysC 9999 12 11 31 w (by omega) ⟨by decide, by decide, by decide, by decide, by decide⟩
  have e1 : daysI 1601 0 1 = -134774 := by decide
  have e2 : daysI 9999 11 31 = 2932896 := by decide
  rw [e1] at R1
  rw [e2] at R2
  have hb := Below.refl w.heap.size w
  by_cases ho : n < -134774 ∨ 2932896 < n
  · have HC := civilNo n w ho h0 h1
    by_cases c : n < -134774
    · clear ho
      go_enter Tryd.func4, Tryd.ntmps4
      go_wp2_with (first
        | (go_at_call 11; (with_reducible refine HC.mono ?_); rintro e ww ⟨rfl, rfl⟩)
        | (go_at_call 12; first | ((with_reducible refine (R1 _).mono ?_); rintro e ww ⟨rfl, hx⟩; have hb := hb.trans (hx.mono hb.size); clear hx) | ((with_reducible refine (R2 _).mono ?_); rintro e ww ⟨rfl, hx⟩; have hb := hb.trans (hx.mono hb.size); clear hx))
        | (go_at_call 10; (with_reducible refine (HA _ (hT.below hb)).mono ?_); rintro e ww ⟨rfl, hx⟩; have hb := hb.trans (hx.mono hb.size); clear hx))
      go_ret
      exact ⟨rfl, hb⟩
    · have c2 : 2932896 < n := by omega
      clear ho
      go_enter Tryd.func4, Tryd.ntmps4
      go_wp2_with (first
        | (go_at_call 11; (with_reducible refine HC.mono ?_); rintro e ww ⟨rfl, rfl⟩)
        | (go_at_call 12; first | ((with_reducible refine (R1 _).mono ?_); rintro e ww ⟨rfl, hx⟩; have hb := hb.trans (hx.mono hb.size); clear hx) | ((with_reducible refine (R2 _).mono ?_); rintro e ww ⟨rfl, hx⟩; have hb := hb.trans (hx.mono hb.size); clear hx))
        | (go_at_call 10; (with_reducible refine (HA _ (hT.below hb)).mono ?_); rintro e ww ⟨rfl, hx⟩; have hb := hb.trans (hx.mono hb.size); clear hx))
      go_ret
      exact ⟨rfl, hb⟩
  · obtain ⟨y, M, d, hR, hn⟩ := civil_ex n (by omega) (by omega)
    have HC := fun w (h : LTab w) => civilYes y M d n ((M : Int) + 1) w hn rfl hR h.2
    have HD := fun w (h : LTab w) => daysYes y M d ((M : Int) + 1) w rfl hR h.2
    have HR := fun w => refRightYes y ((M : Int) + 1) d M w rfl hR
    have HW := fun w => weekC n w (by omega) (by omega)
    rw [← hn] at HD
    obtain ⟨k, hk⟩ : ∃ k, (n + 4) % 7 = k := ⟨_, rfl⟩
    rw [hk] at HW
    have k1 : 0 ≤ k := by omega
    have k2 : k ≤ 6 := by omega
    have kz : (k - 4 - n).tmod 7 = 0 := by
      apply Int.tmod_eq_zero_of_dvd
      omega
    have c1 : ¬ n < -134774 := by omega
    have c2 : ¬ 2932896 < n := by omega
    have hM := hR.m
    have hy0 := hR.y0
    have hy1 := hR.y1
    have hd0 := hR.d0
    clear hk hn hR ho
    go_enter Tryd.func4, Tryd.ntmps4
    go_wp2_with (first
      | (go_at_call 11; (with_reducible refine (HC _ (hT.below hb)).mono ?_); rintro e ww ⟨rfl, rfl⟩)
      | (go_at_call 8; (with_reducible refine (HD _ (hT.below hb)).mono ?_); rintro e ww ⟨rfl, rfl⟩)
      | (go_at_call 14; (with_reducible refine (HW _).mono ?_); rintro e ww ⟨rfl, rfl⟩)
      | (go_at_call 9; (with_reducible refine (HR _).mono ?_); rintro e ww ⟨rfl, hx⟩; have hb := hb.trans (hx.mono hb.size); clear hx)
      | (go_at_call 12; first | ((with_reducible refine (R1 _).mono ?_); rintro e ww ⟨rfl, hx⟩; have hb := hb.trans (hx.mono hb.size); clear hx) | ((with_reducible refine (R2 _).mono ?_); rintro e ww ⟨rfl, hx⟩; have hb := hb.trans (hx.mono hb.size); clear hx))
      | (go_at_call 10; (with_reducible refine (HA _ (hT.below hb)).mono ?_); rintro e ww ⟨rfl, hx⟩; have hb := hb.trans (hx.mono hb.size); clear hx))
    go_ret
    exact ⟨rfl, hb⟩
end Go.Proofs.YtcjkaciknfiekaaDoor
