/- Layer 7's law on days, walked. -/
import Derived.Test.YtcjkaciknfiekaaDoorDateLaw
namespace Go.Proofs.YtcjkaciknfiekaaDoor
open Go.RowKit
set_option linter.unusedVariables false

set_option maxHeartbeats 2000000 in
theorem dateDays_walk (y m d : Int) (w : World) (w0 : (Lit.int .i64 y).wf = true) (w1 : (Lit.int .i64 m).wf = true) (w2 : (Lit.int .i64 d).wf = true) (hT : LTab w) :
    Calls Tryd.prog 3 #[.int .i64 y, .int .i64 m, .int .i64 d] w fun e w' => e = .returned (.bool true) ∧ Below w.heap.size w w' := by
  obtain ⟨y0, y1⟩ := wfI64 w0
  obtain ⟨m0, m1⟩ := wfI64 w1
  obtain ⟨d0, d1⟩ := wfI64 w2
  clear w0 w1 w2
  have HA := fun w (h : LTab w) => awake07C w h
  have hb := Below.refl w.heap.size w
  rcases right_or y m d with ⟨M, rfl, hR⟩ | hW
  · have HD := fun w (h : LTab w) => daysYes y M d ((M : Int) + 1) w rfl hR h.2
    have HR := fun w => refRightYes y ((M : Int) + 1) d M w rfl hR
    have HE := fun w => refDaysC y ((M : Int) + 1) M d w rfl hR
    have HL := fun w => refLongC y ((M : Int) + 1) M w rfl hR.m y0 y1
    have HC1 := fun w (h : LTab w) => civilYes y M d (daysI y M d) ((M : Int) + 1) w rfl rfl hR h.2
    have hin := days_in hR
    have hl := longI_le y M hR.m
    obtain ⟨r1, r2, r3, r4, r5⟩ := hR
    obtain ⟨i1, i2, i3, i4⟩ := hin
    clear i1 i2
    by_cases c1 : d < longI y M
    · have HC2 := fun w (h : LTab w) => civilYes y M (d + 1) (daysI y M d + 1) ((M : Int) + 1) w (next_day y M d) rfl ⟨r1, r2, r3, by omega, by omega⟩ h.2
      generalize daysI y M d = D at *
      generalize longI y M = L at *
      go_enter Tryd.func3, Tryd.ntmps3
      go_wp2_with (first
        | (go_at_call 8; (with_reducible refine (HD _ (hT.below hb)).mono ?_); rintro e ww ⟨rfl, rfl⟩)
        | (go_at_call 9; (with_reducible refine (HR _).mono ?_); rintro e ww ⟨rfl, hx⟩; have hb := hb.trans (hx.mono hb.size); clear hx)
        | (go_at_call 11; first | ((with_reducible refine (HC1 _ (hT.below hb)).mono ?_); rintro e ww ⟨rfl, rfl⟩) | ((with_reducible refine (HC2 _ (hT.below hb)).mono ?_); rintro e ww ⟨rfl, rfl⟩))
        | (go_at_call 12; (with_reducible refine (HE _).mono ?_); rintro e ww ⟨rfl, hx⟩; have hb := hb.trans (hx.mono hb.size); clear hx)
        | (go_at_call 13; (with_reducible refine (HL _).mono ?_); rintro e ww ⟨rfl, hx⟩; have hb := hb.trans (hx.mono hb.size); clear hx)
        | (go_at_call 10; (with_reducible refine (HA _ (hT.below hb)).mono ?_); rintro e ww ⟨rfl, hx⟩; have hb := hb.trans (hx.mono hb.size); clear hx))
      go_ret
      exact ⟨rfl, hb⟩
    · obtain rfl : d = longI y M := by omega
      by_cases c2 : M < 11
      · have HC2 := fun w (h : LTab w) => civilYes y (M + 1) 1 (daysI y M (longI y M) + 1) ((M : Int) + 1 + 1) w (next_month y M) (by push_cast; rfl) ⟨r1, r2, by omega, by omega, by have := longI_le y (M + 1) (by omega); omega⟩ h.2
        have c2' : (M : Int) + 1 < 12 := by omega
        generalize daysI y M (longI y M) = D at *
        generalize longI y M = L at *
        go_enter Tryd.func3, Tryd.ntmps3
        go_wp2_with (first
          | (go_at_call 8; (with_reducible refine (HD _ (hT.below hb)).mono ?_); rintro e ww ⟨rfl, rfl⟩)
          | (go_at_call 9; (with_reducible refine (HR _).mono ?_); rintro e ww ⟨rfl, hx⟩; have hb := hb.trans (hx.mono hb.size); clear hx)
          | (go_at_call 11; first | ((with_reducible refine (HC1 _ (hT.below hb)).mono ?_); rintro e ww ⟨rfl, rfl⟩) | ((with_reducible refine (HC2 _ (hT.below hb)).mono ?_); rintro e ww ⟨rfl, rfl⟩))
          | (go_at_call 12; (with_reducible refine (HE _).mono ?_); rintro e ww ⟨rfl, hx⟩; have hb := hb.trans (hx.mono hb.size); clear hx)
          | (go_at_call 13; (with_reducible refine (HL _).mono ?_); rintro e ww ⟨rfl, hx⟩; have hb := hb.trans (hx.mono hb.size); clear hx)
          | (go_at_call 10; (with_reducible refine (HA _ (hT.below hb)).mono ?_); rintro e ww ⟨rfl, hx⟩; have hb := hb.trans (hx.mono hb.size); clear hx))
        go_ret
        exact ⟨rfl, hb⟩
      · obtain rfl : M = 11 := by omega
        have c2' : ¬ (((11 : Nat) : Int) + 1 < 12) := by omega
        by_cases c3 : y < 9999
        · have HC2 := fun w (h : LTab w) => civilYes (y + 1) 0 1 (daysI y 11 (longI y 11) + 1) 1 w (next_year y (by omega)) rfl ⟨by omega, by omega, by omega, by omega, by have := longI_le (y + 1) 0 (by omega); omega⟩ h.2
          generalize daysI y 11 (longI y 11) = D at *
          generalize longI y 11 = L at *
          simp only [Int.cast_ofNat_Int, Int.reduceAdd] at HD HR HE HL HC1 c2' ⊢
          go_enter Tryd.func3, Tryd.ntmps3
          go_wp2_with (first
            | (go_at_call 8; (with_reducible refine (HD _ (hT.below hb)).mono ?_); rintro e ww ⟨rfl, rfl⟩)
            | (go_at_call 9; (with_reducible refine (HR _).mono ?_); rintro e ww ⟨rfl, hx⟩; have hb := hb.trans (hx.mono hb.size); clear hx)
            | (go_at_call 11; first | ((with_reducible refine (HC1 _ (hT.below hb)).mono ?_); rintro e ww ⟨rfl, rfl⟩) | ((with_reducible refine (HC2 _ (hT.below hb)).mono ?_); rintro e ww ⟨rfl, rfl⟩))
            | (go_at_call 12; (with_reducible refine (HE _).mono ?_); rintro e ww ⟨rfl, hx⟩; have hb := hb.trans (hx.mono hb.size); clear hx)
            | (go_at_call 13; (with_reducible refine (HL _).mono ?_); rintro e ww ⟨rfl, hx⟩; have hb := hb.trans (hx.mono hb.size); clear hx)
            | (go_at_call 10; (with_reducible refine (HA _ (hT.below hb)).mono ?_); rintro e ww ⟨rfl, hx⟩; have hb := hb.trans (hx.mono hb.size); clear hx))
          go_ret
          exact ⟨rfl, hb⟩
        · obtain rfl : y = 9999 := by omega
          have e : daysI 9999 11 (longI 9999 11) = 2932896 := by decide
          rw [e] at HD HE HC1 i3 i4
          have HC2 := fun w (h : LTab w) => civilNo 2932897 w (by omega) (by omega) (by omega)
          generalize longI 9999 11 = L at *
          simp only [Int.cast_ofNat_Int, Int.reduceAdd] at HD HR HE HL HC1 c2' ⊢
          go_enter Tryd.func3, Tryd.ntmps3
          go_wp2_with (first
            | (go_at_call 8; (with_reducible refine (HD _ (hT.below hb)).mono ?_); rintro e ww ⟨rfl, rfl⟩)
            | (go_at_call 9; (with_reducible refine (HR _).mono ?_); rintro e ww ⟨rfl, hx⟩; have hb := hb.trans (hx.mono hb.size); clear hx)
            | (go_at_call 11; first | ((with_reducible refine (HC1 _ (hT.below hb)).mono ?_); rintro e ww ⟨rfl, rfl⟩) | ((with_reducible refine (HC2 _ (hT.below hb)).mono ?_); rintro e ww ⟨rfl, rfl⟩))
            | (go_at_call 12; (with_reducible refine (HE _).mono ?_); rintro e ww ⟨rfl, hx⟩; have hb := hb.trans (hx.mono hb.size); clear hx)
            | (go_at_call 13; (with_reducible refine (HL _).mono ?_); rintro e ww ⟨rfl, hx⟩; have hb := hb.trans (hx.mono hb.size); clear hx)
            | (go_at_call 10; (with_reducible refine (HA _ (hT.below hb)).mono ?_); rintro e ww ⟨rfl, hx⟩; have hb := hb.trans (hx.mono hb.size); clear hx))
          go_ret
          exact ⟨rfl, hb⟩
  · have HD := fun w (h : LTab w) => daysNo y m d w hW y0 y1 m0 m1 d0 d1 h.2
    have HR := fun w => refRightNo y m d w hW y0 y1 m0 m1 d0 d1
    clear hW
    go_enter Tryd.func3, Tryd.ntmps3
    go_wp2_with (first
      | (go_at_call 8; (with_reducible refine (HD _ (hT.below hb)).mono ?_); rintro e ww ⟨rfl, rfl⟩)
      | (go_at_call 9; (with_reducible refine (HR _).mono ?_); rintro e ww ⟨rfl, hx⟩; have hb := hb.trans (hx.mono hb.size); clear hx)
      | (go_at_call 10; (with_reducible refine (HA _ (hT.below hb)).mono ?_); rintro e ww ⟨rfl, hx⟩; have hb := hb.trans (hx.mono hb.size); clear hx))
    go_ret
    exact ⟨rfl, hb⟩
end Go.Proofs.YtcjkaciknfiekaaDoor
