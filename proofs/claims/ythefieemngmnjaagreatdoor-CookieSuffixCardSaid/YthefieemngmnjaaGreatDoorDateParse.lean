/- Contracts of layer 7: a text as a cookie's date. -/
import Derived.Test.YthefieemngmnjaaGreatDoorDateRead
import Derived.Test.YthefieemngmnjaaGreatDoorLibAF
namespace Go.Proofs.YthefieemngmnjaaGreatDoor
open Go.RowKit
set_option linter.unusedVariables false

theorem tells_no (s : St) (h : (s.time.isSome && s.day.isSome && s.month.isSome && s.year.isSome) = false) : s.tells = (0, false) := by
  obtain ⟨a, b, c, d⟩ := s
  cases a <;> cases b <;> cases c <;> cases d
  all_goals first
    | rfl
    | simp at h
theorem tells_yes (s : St) (h : (s.time.isSome && s.day.isSome && s.month.isSome && s.year.isSome) = true) : ∃ h mi se d m y, s = ⟨some (h, mi, se), some d, some m, some y⟩ := by
  obtain ⟨a, b, c, d⟩ := s
  cases a <;> cases b <;> cases c <;> cases d
  all_goals first
    | exact ⟨_, _, _, _, _, _, rfl⟩
    | simp at h

theorem right_tells (h mi se d m y : Nat) (hm : 1 ≤ m ∧ m ≤ 12) :
    (h ≤ 23 ∧ mi ≤ 59 ∧ se ≤ 59 ∧ RightI (yearUp y) (m - 1) d ∧ tells h mi se d m y = (daysI (yearUp y) (m - 1) d * 86400 + (h : Int) * 3600 + (mi : Int) * 60 + (se : Int), true)) ∨
    ((23 < h ∨ 59 < mi ∨ 59 < se ∨ WrongI (yearUp y) m d) ∧ tells h mi se d m y = (0, false)) := by
  unfold tells
  by_cases c : h ≤ 23 ∧ mi ≤ 59 ∧ se ≤ 59 ∧ 1601 ≤ yearUp y ∧ yearUp y ≤ 9999 ∧ 1 ≤ d ∧ (d : Int) ≤ longI (yearUp y) (m - 1)
  · rw [if_pos c]
    exact .inl ⟨c.1, c.2.1, c.2.2.1, ⟨by omega, by omega, by omega, by omega, c.2.2.2.2.2.2⟩, rfl⟩
  · rw [if_neg c]
    refine .inr ⟨?_, rfl⟩
    by_cases c1 : h ≤ 23
    · by_cases c2 : mi ≤ 59
      · by_cases c3 : se ≤ 59
        · refine .inr (.inr (.inr ?_))
          rcases right_or (yearUp y) m d with ⟨M, hM, hR⟩ | hW
          · have e : m - 1 = M := by omega
            rw [e] at c
            obtain ⟨h1, h2, h3, h4, h5⟩ := hR
            exact absurd ⟨c1, c2, c3, by omega, by omega, by omega, h5⟩ c
          · exact hW
        · exact .inr (.inr (.inl (by omega)))
      · exact .inr (.inl (by omega))
    · exact .inl (by omega)

theorem yearUp_le (y : Nat) (h : y ≤ 1099511627776) : yearUp y ≤ 1099511629776 := by
  unfold yearUp
  split
  · omega
  · split <;> omega

set_option maxHeartbeats 1000000 in
theorem parseC (l : List UInt8) (n : Nat) (w : World) (hl : l.length = n) (hm : n ≤ 1000000000000) (hT : DTab w) :
    Calls Tryz.prog 87 #[.string (str l)] w fun e w' => e = .returned (.tuple #[.int .i64 (parseL l).1, .int .i64 (if (parseL l).2 = true then 0 else 1)]) ∧ Below w.heap.size w w' := by
  have HR := readC l n w hl hm hT
  have hok := foldD_ok (tok [] l) St.none St.none_ok
  unfold parseL
  unfold ReadIs at HR
  generalize (tok [] l).foldl stepD St.none = s at *
  obtain ⟨A, hA⟩ : ∃ A, (s.time.isSome && s.day.isSome && s.month.isSome && s.year.isSome) = A := ⟨_, rfl⟩
  cases A with
  | false =>
    rw [tells_no s hA]
    rw [hA] at HR
    simp only [Bool.false_eq_true, if_false]
    clear hA hok
    generalize s.vy = vy at *
    generalize s.vm = vm at *
    generalize s.vd = vd at *
    generalize s.vh = vh at *
    generalize s.vi = vi at *
    generalize s.vs = vs at *
    go_enter Tryz.func87, Tryz.ntmps87
    go_wp2_with (go_at_call 119; (with_reducible refine HR.mono ?_); rintro e w2 ⟨rfl, hb⟩)
    go_ret2
    exact ⟨rfl, hb.alloc hb.size _⟩
  | true =>
    rw [hA] at HR
    obtain ⟨h, mi, se, d, m, y, rfl⟩ := tells_yes s hA
    clear hA
    have k1 := hok.t h mi se rfl
    have k2 := hok.d d rfl
    have k3 := hok.m m rfl
    have k4 := yearUp_le y (hok.y y rfl)
    have HT := Lib.hid (right_tells h mi se d m y k3)
    change Calls Tryz.prog 119 #[.string (str l)] w (fun e w' => e = .returned (.tuple #[.agg #[.int .i64 (yearUp y : Int), .int .i64 (m : Int), .int .i64 (d : Int), .int .i64 (h : Int), .int .i64 (mi : Int), .int .i64 (se : Int)], .bool true]) ∧ Below w.heap.size w w') at HR
    show Calls Tryz.prog 87 #[.string (str l)] w fun e w' => e = .returned (.tuple #[.int .i64 (tells h mi se d m y).1, .int .i64 (if (tells h mi se d m y).2 = true then 0 else 1)]) ∧ Below w.heap.size w w'
    generalize yearUp y = Y at *
    clear hok hl
    rcases HT.out with ⟨c1, c2, c3, hR, e⟩ | ⟨hw, e⟩
    · rw [e]
      have hin := days_in hR
      have HD := fun w' hT' => daysYes (Y : Int) (m - 1) d (m : Int) w' (by omega) hR hT'
      obtain ⟨h1, h2, h3, h4⟩ := hin
      generalize daysI (Y : Int) (m - 1) d = D at *
      clear e HT h1 h2 hR
      go_enter Tryz.func87, Tryz.ntmps87
      go_wp2_with (first
        | (go_at_call 119; (with_reducible refine HR.mono ?_); rintro e w2 ⟨rfl, hb⟩)
        | (go_at_call 120; (with_reducible refine (HD _ (hT.below (hb.alloc hb.size _))).mono ?_); rintro e w3 ⟨rfl, rfl⟩))
      go_ret2
      exact ⟨rfl, hb.alloc hb.size _⟩
    · rw [e]
      clear e HT
      simp only [Bool.false_eq_true, if_false]
      by_cases c1 : 23 < h
      · clear hw
        go_enter Tryz.func87, Tryz.ntmps87
        go_wp2_with (go_at_call 119; (with_reducible refine HR.mono ?_); rintro e w2 ⟨rfl, hb⟩)
        go_ret2
        exact ⟨rfl, hb.alloc hb.size _⟩
      by_cases c2 : 59 < mi
      · clear hw
        go_enter Tryz.func87, Tryz.ntmps87
        go_wp2_with (go_at_call 119; (with_reducible refine HR.mono ?_); rintro e w2 ⟨rfl, hb⟩)
        go_ret2
        exact ⟨rfl, hb.alloc hb.size _⟩
      by_cases c3 : 59 < se
      · clear hw
        go_enter Tryz.func87, Tryz.ntmps87
        go_wp2_with (go_at_call 119; (with_reducible refine HR.mono ?_); rintro e w2 ⟨rfl, hb⟩)
        go_ret2
        exact ⟨rfl, hb.alloc hb.size _⟩
      · have hW : WrongI (Y : Int) (m : Int) (d : Int) := by
          rcases hw with hw | hw | hw | hw
          · exact absurd hw c1
          · exact absurd hw c2
          · exact absurd hw c3
          · exact hw
        have HD := fun w' hT' => daysNo (Y : Int) (m : Int) (d : Int) w' hW (by omega) (by omega) (by omega) (by omega) (by omega) (by omega) hT'
        clear hw hW
        go_enter Tryz.func87, Tryz.ntmps87
        go_wp2_with (first
          | (go_at_call 119; (with_reducible refine HR.mono ?_); rintro e w2 ⟨rfl, hb⟩)
          | (go_at_call 120; (with_reducible refine (HD _ (hT.below (hb.alloc hb.size _))).mono ?_); rintro e w3 ⟨rfl, rfl⟩))
        go_ret2
        exact ⟨rfl, hb.alloc hb.size _⟩
end Go.Proofs.YthefieemngmnjaaGreatDoor
