/- Contracts of layer 7: days and their numbers. -/
import Derived.Test.YtcjkaciknfiekaaDoorDate
namespace Go.Proofs.YtcjkaciknfiekaaDoor
open Go.RowKit
set_option linter.unusedVariables false

/-- There is no such day. -/
def WrongI (y m d : Int) : Prop := y < 1601 ∨ 9999 < y ∨ m < 1 ∨ 12 < m ∨ ∃ M : Nat, M < 12 ∧ m = (M : Int) + 1 ∧ (d < 1 ∨ longI y M < d)
theorem right_or (y m d : Int) : (∃ M : Nat, m = (M : Int) + 1 ∧ RightI y M d) ∨ WrongI y m d := by
  by_cases h1 : y < 1601
  · exact .inr (.inl h1)
  by_cases h2 : 9999 < y
  · exact .inr (.inr (.inl h2))
  by_cases h3 : m < 1
  · exact .inr (.inr (.inr (.inl h3)))
  by_cases h4 : 12 < m
  · exact .inr (.inr (.inr (.inr (.inl h4))))
  obtain ⟨M, hM⟩ : ∃ M : Nat, m = (M : Int) + 1 := ⟨(m - 1).toNat, by omega⟩
  by_cases h5 : d < 1 ∨ longI y M < d
  · exact .inr (.inr (.inr (.inr (.inr ⟨M, by omega, hM, h5⟩))))
  · exact .inl ⟨M, hM, by omega, by omega, by omega, by omega, by omega⟩
theorem not_both {y m d : Int} {M : Nat} (hm : m = (M : Int) + 1) (h : RightI y M d) : ¬ WrongI y m d := by
  obtain ⟨h1, h2, h3, h4, h5⟩ := h
  rintro (h | h | h | h | ⟨M', h6, h7, h8⟩)
  · omega
  · omega
  · omega
  · omega
  · have : M' = M := by omega
    subst this
    omega

theorem start_le' (y : Int) (h0 : 1601 ≤ y) (h1 : y ≤ 10000) : -134774 ≤ startI y ∧ startI y ≤ 2932897 := by
  unfold startI aheadI
  omega

theorem daysYes (y : Int) (M : Nat) (d v : Int) (w : World) (hv : v = (M : Int) + 1) (h : RightI y M d) (hT : DTab w) :
    Calls Tryd.prog 8 #[.int .i64 y, .int .i64 v, .int .i64 d] w fun e w' => e = .returned (.tuple #[.int .i64 (daysI y M d), .int .i64 0]) ∧ w = w' := by
  subst hv
  obtain ⟨h1, h2, h3, h4, h5⟩ := h
  have HM := fun (k : Nat) (hk : k < 12) (v : Int) (hv : v = (k : Int) + 1) => monthDaysC y v k w hv hk (by omega) (by omega) hT
  have HY := yearStartC y w (by omega) (by omega)
  have hs := start_le' y h1 (by omega)
  have hb := (longI_le y M h3).2
  have hd : d ≤ 31 := by omega
  have HD := Lib.hid (show daysI y M d = startI y + mdays y M + d - 1 from rfl)
  have HP := Lib.hid (fun k (hk : k ≤ 12) => mdays_pos y k hk)
  have HS := Lib.hid (fun k => show mdays y (k + 1) = mdays y k + longI y k from rfl)
  have HL := Lib.hid (longI_le y)
  have h0 : Hid (mdays y 0 = 0) := rfl
  generalize daysI y M d = R at *
  generalize startI y = s at *
  generalize mdays y = md at *
  have hv1 : (1 : Int) ≤ (M : Int) + 1 := by omega
  have hv2 : (M : Int) + 1 ≤ 12 := by omega
  have hL := longI_le y M h3
  go_enter Tryd.func8, Tryd.ntmps8
  go_wp2_with (first
    | (go_at_call 20; (with_reducible refine (HM M h3 _ rfl).mono ?_); rintro e w2 ⟨rfl, rfl⟩)
    | (go_at_call 21; (with_reducible refine HY.mono ?_); rintro e w2 ⟨rfl, rfl⟩))
  go_loopw [8, 9] (fun v i wr => ∃ k : Nat, k ≤ M ∧ v = .int .i64 (s + md k) ∧ i = .int .i64 ((k : Int) + 1) ∧ w = wr) (fun _ i _ => M + 1 - (intOf i).toNat)
  case atStart => exact ⟨0, Nat.zero_le _, by rw [h0.out]; simp, rfl, rfl⟩
  case round =>
    obtain ⟨k, hk, rfl, rfl, rfl⟩ := hrel
    have p1 := HP.out k (by omega)
    have p2 := HL.out k (by omega)
    have p3 := Lib.hid (HS.out k)
    by_cases hlt : k < M
    · have hlt' : (k : Int) < (M : Int) := by omega
      have HK := HM k (by omega) _ rfl
      clear HM
      generalize longI y k = L at *
      obtain ⟨z, hz⟩ : ∃ z, md k = z := ⟨_, rfl⟩
      rw [hz] at p1
      rw [hz]
      have p4 := Lib.hid (p3.out.trans (by rw [hz]))
      clear hz p3
      go_wp2_with (go_at_call 20; (with_reducible refine HK.mono ?_); rintro e w2 ⟨rfl, rfl⟩)
      go_roundw
      case rel => exact ⟨k + 1, by omega, by rw [p4.out]; congr 1; omega, by go_num, by first | rfl | trivial⟩
      case measure => simp [intOf]; omega
    · obtain rfl : k = M := by omega
      clear HM p2 p3
      have e : Hid (R = s + md k + d - 1) := HD.out
      generalize md k = z at *
      go_wp2
      go_ret2
      exact ⟨by rw [e.out]; rfl, rfl⟩

theorem daysNo (y m d : Int) (w : World) (h : WrongI y m d) (h0 : -9223372036854775808 ≤ y) (h1 : y ≤ 9223372036854775807) (h2 : -9223372036854775808 ≤ m) (h3 : m ≤ 9223372036854775807) (h4 : -9223372036854775808 ≤ d) (h5 : d ≤ 9223372036854775807) (hT : DTab w) :
    Calls Tryd.prog 8 #[.int .i64 y, .int .i64 m, .int .i64 d] w fun e w' => e = .returned (.tuple #[.int .i64 0, .int .i64 4]) ∧ w = w' := by
  by_cases a1 : y < 1601
  · go_enter Tryd.func8, Tryd.ntmps8
    go_wp2
    go_ret2
    exact ⟨rfl, rfl⟩
  by_cases a2 : 9999 < y
  · go_enter Tryd.func8, Tryd.ntmps8
    go_wp2
    go_ret2
    exact ⟨rfl, rfl⟩
  by_cases a3 : m < 1
  · go_enter Tryd.func8, Tryd.ntmps8
    go_wp2
    go_ret2
    exact ⟨rfl, rfl⟩
  by_cases a4 : 12 < m
  · go_enter Tryd.func8, Tryd.ntmps8
    go_wp2
    go_ret2
    exact ⟨rfl, rfl⟩
  by_cases a5 : d < 1
  · go_enter Tryd.func8, Tryd.ntmps8
    go_wp2
    go_ret2
    exact ⟨rfl, rfl⟩
  obtain ⟨M, hM, hm, h6⟩ : ∃ M : Nat, M < 12 ∧ m = (M : Int) + 1 ∧ longI y M < d := by
    rcases h with h | h | h | h | ⟨M, h6, h7, h8⟩
    · omega
    · omega
    · omega
    · omega
    · exact ⟨M, h6, h7, by omega⟩
  have HM := monthDaysC y m M w hm hM h0 h1 hT
  generalize longI y M = L at *
  clear h hm
  go_enter Tryd.func8, Tryd.ntmps8
  go_wp2_with (go_at_call 20; (with_reducible refine HM.mono ?_); rintro e w2 ⟨rfl, rfl⟩)
  go_ret2
  exact ⟨rfl, rfl⟩

theorem civilNo (n : Int) (w : World) (h : n < -134774 ∨ 2932896 < n) (h0 : -9223372036854775808 ≤ n) (h1 : n ≤ 9223372036854775807) :
    Calls Tryd.prog 11 #[.int .i64 n] w fun e w' => e = .returned (.tuple #[.int .i64 0, .int .i64 0, .int .i64 0, .int .i64 4]) ∧ w = w' := by
  have HA := yearStartC 1601 w (by omega) (by omega)
  have HB := yearStartC 10000 w (by omega) (by omega)
  rw [start1601] at HA
  rw [start10000] at HB
  by_cases a1 : n < -134774
  · go_enter Tryd.func11, Tryd.ntmps11
    go_wp2_with (go_at_call 21; first | ((with_reducible refine HA.mono ?_); rintro e w2 ⟨rfl, rfl⟩) | ((with_reducible refine HB.mono ?_); rintro e w2 ⟨rfl, rfl⟩))
    refine bodyPost_ret (v := .tuple #[.int .i64 0, .int .i64 0, .int .i64 0, .int .i64 4]) (by simp [results, Tryd.results11, go_sem]) rfl ⟨rfl, rfl⟩
  · have a2 : 2932897 ≤ n := by omega
    go_enter Tryd.func11, Tryd.ntmps11
    go_wp2_with (go_at_call 21; first | ((with_reducible refine HA.mono ?_); rintro e w2 ⟨rfl, rfl⟩) | ((with_reducible refine HB.mono ?_); rintro e w2 ⟨rfl, rfl⟩))
    refine bodyPost_ret (v := .tuple #[.int .i64 0, .int .i64 0, .int .i64 0, .int .i64 4]) (by simp [results, Tryd.results11, go_sem]) rfl ⟨rfl, rfl⟩

theorem civilYes (y : Int) (M : Nat) (d n v : Int) (w : World) (hn : n = daysI y M d) (hv : v = (M : Int) + 1) (h : RightI y M d) (hT : DTab w) :
    Calls Tryd.prog 11 #[.int .i64 n] w fun e w' => e = .returned (.tuple #[.int .i64 y, .int .i64 v, .int .i64 d, .int .i64 0]) ∧ w = w' := by
  subst hv
  have hin := days_in h
  have HA := yearStartC 1601 w (by omega) (by omega)
  have HB := yearStartC 10000 w (by omega) (by omega)
  rw [start1601] at HA
  rw [start10000] at HB
  have HY := Lib.hid (fun (y : Int) h0 h1 => yearStartC y w h0 h1)
  have HM := Lib.hid (fun (k : Nat) (hk : k < 12) (v : Int) (hv : v = (k : Int) + 1) => monthDaysC y v k w hv hk (by have := h.y0; omega) (by have := h.y1; omega) hT)
  have hD : Hid (daysI y M d = startI y + mdays y M + d - 1) := rfl
  rw [← hn] at hD hin
  have HS := Lib.hid (fun k => show mdays y (k + 1) = mdays y k + longI y k from rfl)
  have hmd := (mdays_pos y M (by have := h.m; omega))
  obtain ⟨h1, h2, h3, h4, h5⟩ := h
  obtain ⟨h6, h7, h8, h9⟩ := hin
  obtain ⟨Y, rfl⟩ : ∃ Y : Nat, y = (Y : Int) := ⟨y.toNat, by omega⟩
  have h9' : n < 2932897 := h9
  have hq0 : (n + 134774) / 366 ≤ (Y : Int) - 1601 := by
    have := (start_le 1601 (Y + 1 - 1601) (by omega)).2
    rw [start1601] at this
    have e : (1601 : Int) + ((Y + 1 - 1601 : Nat) : Int) = (Y : Int) + 1 := by omega
    rw [e] at this
    omega
  have hq1 : 0 ≤ (n + 134774) / 366 := by omega
  clear hn
  have hge : ¬ (n < -134774) := by omega
  have hge2 : ¬ (2932897 ≤ n) := by omega
  go_enter Tryd.func11, Tryd.ntmps11
  go_wp2_with (go_at_call 21; first | ((with_reducible refine HA.mono ?_); rintro e w2 ⟨rfl, rfl⟩) | ((with_reducible refine HB.mono ?_); rintro e w2 ⟨rfl, rfl⟩))
  go_loopw [6] (fun v wr => ∃ k : Nat, 1601 ≤ k ∧ k ≤ Y ∧ v = .int .i64 (k : Int) ∧ w = wr) (fun v _ => Y - (intOf v).toNat)
  case atStart => exact ⟨(1601 + (n + 134774) / 366).toNat, by omega, by omega, by rw [Int.toNat_of_nonneg (by omega)], rfl⟩
  case round =>
    obtain ⟨k, hk1, hk2, rfl, rfl⟩ := hrel
    have HYk := HY.out ((k : Int) + 1) (by omega) (by omega)
    by_cases hlt : k < Y
    · have hle : startI ((k : Int) + 1) ≤ n := by
        rcases Nat.lt_or_eq_of_le (show k + 1 ≤ Y by omega) with c | c
        · have a := start_lt ((k : Int) + 1) (Y : Int) (by omega) (by omega)
          have b := (mdays_pos ((k : Int) + 1) 12 (by omega)).1
          omega
        · have : (k : Int) + 1 = (Y : Int) := by omega
          rw [this]
          exact h6
      generalize startI ((k : Int) + 1) = s at *
      go_wp2_with (go_at_call 21; (with_reducible refine HYk.mono ?_); rintro e w2 ⟨rfl, rfl⟩)
      go_roundw
      case rel => exact ⟨k + 1, by omega, by omega, by go_num, by first | rfl | trivial⟩
      case measure => simp [intOf]; omega
    · obtain rfl : k = Y := by omega
      have hgt : ¬ startI ((k : Int) + 1) ≤ n := by omega
      have HYY := HY.out (k : Int) (by omega) (by omega)
      have hs2 := start_le' (k : Int) (by omega) (by omega)
      generalize startI ((k : Int) + 1) = s at *
      generalize startI (k : Int) = s2 at *
      go_wp2_with (go_at_call 21; first | ((with_reducible refine HYk.mono ?_); rintro e w2 ⟨rfl, rfl⟩) | ((with_reducible refine HYY.mono ?_); rintro e w2 ⟨rfl, rfl⟩))
      go_loopw [7, 8] (fun m d2 wr => ∃ j : Nat, j ≤ M ∧ m = .int .i64 ((j : Int) + 1) ∧ d2 = .int .i64 (mdays k M - mdays k j + d) ∧ w = wr) (fun m _ _ => M + 1 - (intOf m).toNat)
      case atStart => exact ⟨0, by omega, rfl, by congr 1; have : mdays (k : Int) 0 = 0 := rfl; have := hD.out; omega, rfl⟩
      case round =>
        obtain ⟨j, hj, rfl, rfl, rfl⟩ := hrel
        have p0 := (mdays_pos (k : Int) j (by omega)).1
        have p2 := longI_le (k : Int) j (by omega)
        have HMj := HM.out j (by omega) _ rfl
        by_cases hlt : j < M
        · have p1 := mdays_le (k : Int) M M (by omega)
          have p3 := mdays_le (k : Int) j M (by omega) hlt
          have e1 : Hid (mdays k M - mdays k (j + 1) + d = mdays k M - mdays k j + d - longI k j) := by unfold Hid; rw [HS.out j]; omega
          have c1 : longI k j < mdays k M - mdays k j + d := by omega
          have c2 : mdays k M - mdays k j + d ≤ 1000 := by have := (longI_le (k : Int) M h3).2; omega
          generalize longI (k : Int) j = L at *
          obtain ⟨z, hz⟩ : ∃ z, mdays k M - mdays k j + d = z := ⟨_, rfl⟩
          rw [hz] at e1 c1 c2
          rw [hz]
          clear hz p1 p3
          go_wp2_with (go_at_call 20; (with_reducible refine HMj.mono ?_); rintro e w2 ⟨rfl, rfl⟩)
          go_roundw
          case rel => exact ⟨j + 1, by omega, by go_num, by rw [e1.out], by first | rfl | trivial⟩
          case measure => simp [intOf]; omega
        · obtain rfl : j = M := by omega
          have e1 : mdays k j - mdays k j + d = d := by omega
          rw [e1]
          have c1 : ¬ longI k j < d := by omega
          generalize longI (k : Int) j = L at *
          go_wp2_with (go_at_call 20; (with_reducible refine HMj.mono ?_); rintro e w2 ⟨rfl, rfl⟩)
          refine bodyPost_ret (v := .tuple #[.int .i64 (k : Int), .int .i64 ((j : Int) + 1), .int .i64 d, .int .i64 0]) (by simp [results, Tryd.results11, go_sem]) rfl ⟨rfl, rfl⟩
end Go.Proofs.YtcjkaciknfiekaaDoor
