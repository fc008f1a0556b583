/- Contracts of layer 8: where a byte may be; labels. -/
import Derived.Test.YtgaodaimkojmhaaDoorHostPlain2
import Derived.Test.YtgaodaimkojmhaaDoorAscii4
import Derived.Test.YtgaodaimkojmhaaDoorAsciiText
namespace Go.Proofs.YtgaodaimkojmhaaDoor
open Go.RowKit
set_option linter.unusedVariables false

/-- May a byte be at an end of a label? -/
def tipB (x : UInt8) : Bool := (decide (97 ≤ x.toNat) && decide (x.toNat ≤ 122)) || (decide (48 ≤ x.toNat) && decide (x.toNat ≤ 57)) || decide (x.toNat = 95)

/-- Where a byte may be. -/
def placeN (x : UInt8) : Int := (if hexB x = true then 1 else 0) + (if tipB x = true then 2 else 0) + (if signB x = true then 4 else 0)

set_option maxRecDepth 100000 in
theorem placesC (x : UInt8) (w : World) : Calls Tryd.prog 77 #[.int .u8 (x.toNat : Int)] w fun e w' => e = .returned (.int .i64 (placeN x)) ∧ w = w' := by
  have h0 := u8_lt x
  unfold placeN hexB tipB signB
  generalize x.toNat = n at *
  -- BEGIN places
  have hcase : n = 58 ∨ n = 46 ∨ n = 95 ∨ n = 45 ∨ (48 ≤ n ∧ n ≤ 57) ∨ (97 ≤ n ∧ n ≤ 102) ∨ (103 ≤ n ∧ n ≤ 122) ∨ (n < 48 ∧ n ≠ 45 ∧ n ≠ 46) ∨ (59 ≤ n ∧ n ≤ 96 ∧ n ≠ 95) ∨ (123 ≤ n) := by omega
  rcases hcase with rfl | rfl | rfl | rfl | h | h | h | h | h | h
  · go_enter Tryd.func77, Tryd.ntmps77
    go_wp2
    go_ret
    exact ⟨by kernel_rfl, rfl⟩
  · go_enter Tryd.func77, Tryd.ntmps77
    go_wp2
    go_ret
    exact ⟨by kernel_rfl, rfl⟩
  · go_enter Tryd.func77, Tryd.ntmps77
    go_wp2
    go_ret
    exact ⟨by kernel_rfl, rfl⟩
  · go_enter Tryd.func77, Tryd.ntmps77
    go_wp2
    go_ret
    exact ⟨by kernel_rfl, rfl⟩
  · have e58 : ((n : Int) == 58) = false := by rw [beq_eq_false_iff_ne]; omega
    have e46 : ((n : Int) == 46) = false := by rw [beq_eq_false_iff_ne]; omega
    have e95 : ((n : Int) == 95) = false := by rw [beq_eq_false_iff_ne]; omega
    have e45 : ((n : Int) == 45) = false := by rw [beq_eq_false_iff_ne]; omega
    have g48 : (48 : Int) ≤ n := by omega
    have g97 : ¬ (97 : Int) ≤ n := by omega
    have g103 : ¬ (103 : Int) ≤ n := by omega
    have l57 : (n : Int) ≤ 57 := by omega
    have l102 : (n : Int) ≤ 102 := by omega
    have l122 : (n : Int) ≤ 122 := by omega
    have q48 : decide ((48 : Int) ≤ n) = true := by exact decide_eq_true g48
    have q97 : decide ((97 : Int) ≤ n) = false := by exact decide_eq_false g97
    have q103 : decide ((103 : Int) ≤ n) = false := by exact decide_eq_false g103
    have q57 : decide ((n : Int) ≤ 57) = true := by exact decide_eq_true l57
    have q102 : decide ((n : Int) ≤ 102) = true := by exact decide_eq_true l102
    have q122 : decide ((n : Int) ≤ 122) = true := by exact decide_eq_true l122
    go_enter Tryd.func77, Tryd.ntmps77
    go_wp2
    go_ret
    refine ⟨?_, rfl⟩
    congr 2
    repeat (first | rw [if_pos (by omega)] | rw [if_neg (by omega)])
  · have e58 : ((n : Int) == 58) = false := by rw [beq_eq_false_iff_ne]; omega
    have e46 : ((n : Int) == 46) = false := by rw [beq_eq_false_iff_ne]; omega
    have e95 : ((n : Int) == 95) = false := by rw [beq_eq_false_iff_ne]; omega
    have e45 : ((n : Int) == 45) = false := by rw [beq_eq_false_iff_ne]; omega
    have g48 : (48 : Int) ≤ n := by omega
    have g97 : (97 : Int) ≤ n := by omega
    have g103 : ¬ (103 : Int) ≤ n := by omega
    have l57 : ¬ (n : Int) ≤ 57 := by omega
    have l102 : (n : Int) ≤ 102 := by omega
    have l122 : (n : Int) ≤ 122 := by omega
    have q48 : decide ((48 : Int) ≤ n) = true := by exact decide_eq_true g48
    have q97 : decide ((97 : Int) ≤ n) = true := by exact decide_eq_true g97
    have q103 : decide ((103 : Int) ≤ n) = false := by exact decide_eq_false g103
    have q57 : decide ((n : Int) ≤ 57) = false := by exact decide_eq_false l57
    have q102 : decide ((n : Int) ≤ 102) = true := by exact decide_eq_true l102
    have q122 : decide ((n : Int) ≤ 122) = true := by exact decide_eq_true l122
    go_enter Tryd.func77, Tryd.ntmps77
    go_wp2
    go_ret
    refine ⟨?_, rfl⟩
    congr 2
    repeat (first | rw [if_pos (by omega)] | rw [if_neg (by omega)])
  · have e58 : ((n : Int) == 58) = false := by rw [beq_eq_false_iff_ne]; omega
    have e46 : ((n : Int) == 46) = false := by rw [beq_eq_false_iff_ne]; omega
    have e95 : ((n : Int) == 95) = false := by rw [beq_eq_false_iff_ne]; omega
    have e45 : ((n : Int) == 45) = false := by rw [beq_eq_false_iff_ne]; omega
    have g48 : (48 : Int) ≤ n := by omega
    have g97 : (97 : Int) ≤ n := by omega
    have g103 : (103 : Int) ≤ n := by omega
    have l57 : ¬ (n : Int) ≤ 57 := by omega
    have l102 : ¬ (n : Int) ≤ 102 := by omega
    have l122 : (n : Int) ≤ 122 := by omega
    have q48 : decide ((48 : Int) ≤ n) = true := by exact decide_eq_true g48
    have q97 : decide ((97 : Int) ≤ n) = true := by exact decide_eq_true g97
    have q103 : decide ((103 : Int) ≤ n) = true := by exact decide_eq_true g103
    have q57 : decide ((n : Int) ≤ 57) = false := by exact decide_eq_false l57
    have q102 : decide ((n : Int) ≤ 102) = false := by exact decide_eq_false l102
    have q122 : decide ((n : Int) ≤ 122) = true := by exact decide_eq_true l122
    go_enter Tryd.func77, Tryd.ntmps77
    go_wp2
    go_ret
    refine ⟨?_, rfl⟩
    congr 2
    repeat (first | rw [if_pos (by omega)] | rw [if_neg (by omega)])
  · have e58 : ((n : Int) == 58) = false := by rw [beq_eq_false_iff_ne]; omega
    have e46 : ((n : Int) == 46) = false := by rw [beq_eq_false_iff_ne]; omega
    have e95 : ((n : Int) == 95) = false := by rw [beq_eq_false_iff_ne]; omega
    have e45 : ((n : Int) == 45) = false := by rw [beq_eq_false_iff_ne]; omega
    have g48 : ¬ (48 : Int) ≤ n := by omega
    have g97 : ¬ (97 : Int) ≤ n := by omega
    have g103 : ¬ (103 : Int) ≤ n := by omega
    have l57 : (n : Int) ≤ 57 := by omega
    have l102 : (n : Int) ≤ 102 := by omega
    have l122 : (n : Int) ≤ 122 := by omega
    have q48 : decide ((48 : Int) ≤ n) = false := by exact decide_eq_false g48
    have q97 : decide ((97 : Int) ≤ n) = false := by exact decide_eq_false g97
    have q103 : decide ((103 : Int) ≤ n) = false := by exact decide_eq_false g103
    have q57 : decide ((n : Int) ≤ 57) = true := by exact decide_eq_true l57
    have q102 : decide ((n : Int) ≤ 102) = true := by exact decide_eq_true l102
    have q122 : decide ((n : Int) ≤ 122) = true := by exact decide_eq_true l122
    go_enter Tryd.func77, Tryd.ntmps77
    go_wp2
    go_ret
    refine ⟨?_, rfl⟩
    congr 2
    repeat (first | rw [if_pos (by omega)] | rw [if_neg (by omega)])
  · have e58 : ((n : Int) == 58) = false := by rw [beq_eq_false_iff_ne]; omega
    have e46 : ((n : Int) == 46) = false := by rw [beq_eq_false_iff_ne]; omega
    have e95 : ((n : Int) == 95) = false := by rw [beq_eq_false_iff_ne]; omega
    have e45 : ((n : Int) == 45) = false := by rw [beq_eq_false_iff_ne]; omega
    have g48 : (48 : Int) ≤ n := by omega
    have g97 : ¬ (97 : Int) ≤ n := by omega
    have g103 : ¬ (103 : Int) ≤ n := by omega
    have l57 : ¬ (n : Int) ≤ 57 := by omega
    have l102 : (n : Int) ≤ 102 := by omega
    have l122 : (n : Int) ≤ 122 := by omega
    have q48 : decide ((48 : Int) ≤ n) = true := by exact decide_eq_true g48
    have q97 : decide ((97 : Int) ≤ n) = false := by exact decide_eq_false g97
    have q103 : decide ((103 : Int) ≤ n) = false := by exact decide_eq_false g103
    have q57 : decide ((n : Int) ≤ 57) = false := by exact decide_eq_false l57
    have q102 : decide ((n : Int) ≤ 102) = true := by exact decide_eq_true l102
    have q122 : decide ((n : Int) ≤ 122) = true := by exact decide_eq_true l122
    go_enter Tryd.func77, Tryd.ntmps77
    go_wp2
    go_ret
    refine ⟨?_, rfl⟩
    congr 2
    repeat (first | rw [if_pos (by omega)] | rw [if_neg (by omega)])
  · have e58 : ((n : Int) == 58) = false := by rw [beq_eq_false_iff_ne]; omega
    have e46 : ((n : Int) == 46) = false := by rw [beq_eq_false_iff_ne]; omega
    have e95 : ((n : Int) == 95) = false := by rw [beq_eq_false_iff_ne]; omega
    have e45 : ((n : Int) == 45) = false := by rw [beq_eq_false_iff_ne]; omega
    have g48 : (48 : Int) ≤ n := by omega
    have g97 : (97 : Int) ≤ n := by omega
    have g103 : (103 : Int) ≤ n := by omega
    have l57 : ¬ (n : Int) ≤ 57 := by omega
    have l102 : ¬ (n : Int) ≤ 102 := by omega
    have l122 : ¬ (n : Int) ≤ 122 := by omega
    have q48 : decide ((48 : Int) ≤ n) = true := by exact decide_eq_true g48
    have q97 : decide ((97 : Int) ≤ n) = true := by exact decide_eq_true g97
    have q103 : decide ((103 : Int) ≤ n) = true := by exact decide_eq_true g103
    have q57 : decide ((n : Int) ≤ 57) = false := by exact decide_eq_false l57
    have q102 : decide ((n : Int) ≤ 102) = false := by exact decide_eq_false l102
    have q122 : decide ((n : Int) ≤ 122) = false := by exact decide_eq_false l122
    go_enter Tryd.func77, Tryd.ntmps77
    go_wp2
    go_ret
    refine ⟨?_, rfl⟩
    congr 2
    repeat (first | rw [if_pos (by omega)] | rw [if_neg (by omega)])
  -- END places

/-- One of the three places. -/
def spotB : Nat → UInt8 → Bool
  | 1, x => hexB x
  | 2, x => tipB x
  | _, x => signB x

theorem spot_and (A : Nat) (h : A = 1 ∨ A = 2 ∨ A = 4) (x : UInt8) : (bits BinOp.and IntKind.i64 (placeN x) (A : Int) == 0) = !spotB A x := by
  unfold placeN
  rcases h with rfl | rfl | rfl
  · show _ = !hexB x
    cases hexB x <;> cases tipB x <;> cases signB x <;> kernel_rfl
  · show _ = !tipB x
    cases hexB x <;> cases tipB x <;> cases signB x <;> kernel_rfl
  · show _ = !signB x
    cases hexB x <;> cases tipB x <;> cases signB x <;> kernel_rfl

theorem all_no {l : List UInt8} {p : UInt8 → Bool} {k : Nat} (hk : k < l.length) (h : p (l.getD k 0) = false) : l.all p = false := by
  rw [Bool.eq_false_iff]
  intro c
  have hm : l.getD k 0 ∈ l := by
    simp only [List.getD, List.getElem?_eq_getElem hk, Option.getD_some]
    exact List.getElem_mem _
  rw [List.all_eq_true.1 c _ hm] at h
  cases h

theorem all_yes {l : List UInt8} {p : UInt8 → Bool} (h : ∀ j, j < l.length → p (l.getD j 0) = true) : l.all p = true := by
  rw [List.all_eq_true]
  intro x hx
  obtain ⟨i, hi, rfl⟩ := List.getElem_of_mem hx
  have := h i hi
  simpa [List.getD, hi] using this

set_option maxRecDepth 100000 in
theorem allC (A : Nat) (hA : A = 1 ∨ A = 2 ∨ A = 4) (l : List UInt8) (n : Nat) (w : World) (hl : l.length = n) (hm : n ≤ maxLen) :
    Calls Tryd.prog 70 #[.string (str l), .int .i64 (A : Int)] w fun e w' => e = .returned (.bool (l.all (spotB A))) ∧ w = w' := by
  have hsz : (str l).size = n := by rw [str_size, hl]
  unfold maxLen at hm
  have HL := Lib.hid hl
  clear hl
  have HP := fun x => placesC x
  have HB := fun x => spot_and A hA x
  generalize placeN = q at *
  generalize spotB A = p at *
  have HR : Hid (∀ k, k < n → p (l.getD k 0) = false → l.all p = false) := fun k hk h => all_no (by rw [HL.out]; exact hk) h
  have HY : Hid ((∀ j, j < n → p (l.getD j 0) = true) → l.all p = true) := fun h => all_yes (by rw [HL.out]; exact h)
  generalize l.all p = R at *
  go_enter Tryd.func70, Tryd.ntmps70
  go_wp2
  go_loopw [8] (fun i wr => ∃ k : Nat, k ≤ n ∧ i = .int .i64 (k : Int) ∧ Hid (∀ j, j < k → p (l.getD j 0) = true) ∧ w = wr) (fun i _ => n - (intOf i).toNat)
  case atStart => exact ⟨0, Nat.zero_le _, rfl, fun j hj => absurd hj (by omega), rfl⟩
  case round =>
    obtain ⟨k, hk, rfl, H, rfl⟩ := hrel
    by_cases hlt : k < n
    · have hlt' : (k : Int) < (n : Int) := by omega
      have hi := run_index_str (P := Tryd.prog) w 9 l .i64 k Tryd.underlying9 (by rw [HL.out]; exact hlt)
      have HN := Lib.hid (fun (hp : p (l.getD k 0) = true) => (fun j hj => by
        rcases Nat.lt_succ_iff_lt_or_eq.1 hj with h | rfl
        · exact H.out j h
        · exact hp : ∀ j, j < k + 1 → p (l.getD j 0) = true))
      have HF := Lib.hid (HR.out k hlt)
      have HC := HP (l.getD k 0)
      have hb := HB (l.getD k 0)
      clear HP HB
      generalize p (l.getD k 0) = t at *
      generalize l.getD k 0 = x at HC hi hb
      generalize q x = y at *
      cases t
      · have HF2 := Lib.hid (HF.out rfl)
        rw [Bool.not_false] at hb
        clear HN HF
        go_wp2_with (go_at_call 77; (with_reducible refine (HC _).mono ?_); rintro e w1 ⟨rfl, rfl⟩)
        go_ret
        exact ⟨by rw [HF2.out]; rfl, rfl⟩
      · have HN2 := Lib.hid (HN.out rfl)
        rw [Bool.not_true] at hb
        clear HN HF
        go_wp2_with (go_at_call 77; (with_reducible refine (HC _).mono ?_); rintro e w1 ⟨rfl, rfl⟩)
        go_roundw
        case rel => exact ⟨k + 1, by omega, by go_num, HN2.out, by first | rfl | trivial⟩
        case measure => simp [intOf]; omega
    · obtain rfl : k = n := by omega
      have HE := Lib.hid (HY.out H.out)
      clear HP HB
      go_wp2
      go_ret
      exact ⟨by rw [HE.out]; rfl, rfl⟩

theorem take_one {l : List UInt8} (h : 1 ≤ l.length) : l.take 1 = [l.getD 0 0] := by
  cases l with
  | nil => simp at h
  | cons x xs => rfl

theorem drop_last {l : List UInt8} (h : 1 ≤ l.length) : l.drop (l.length - 1) = [l.getD (l.length - 1) 0] := by
  rw [List.drop_eq_getElem_cons (by omega), List.drop_eq_nil_of_le (by omega)]
  simp [List.getD, show l.length - 1 < l.length by omega]

theorem tip_sign (x : UInt8) : tipB x = (signB x && !(x == 45)) := by
  have e : (x == 45) = decide (x.toNat = 45) := by
    rw [Bool.eq_iff_iff, decide_eq_true_iff]
    simp only [beq_iff_eq]
    exact ⟨fun h => by rw [h]; rfl, fun h => UInt8.toNat_inj.1 h⟩
  unfold tipB signB
  rw [e]
  generalize x.toNat = n
  rw [Bool.eq_iff_iff]
  simp
  omega

theorem label_parts (l : List UInt8) (h1 : 1 ≤ l.length) (h2 : l.length ≤ 63) : labelB l = (l.all signB && ((l.take 1).all tipB && (l.drop (l.length - 1)).all tipB)) := by
  unfold labelB
  rw [decide_eq_true h1, decide_eq_true h2, take_one h1, drop_last h1]
  simp only [List.all_cons, List.all_nil, Bool.and_true, Bool.true_and, tip_sign]
  have hm : ∀ k, k < l.length → l.getD k 0 ∈ l := fun k hk => by
    simp only [List.getD, List.getElem?_eq_getElem hk, Option.getD_some]
    exact List.getElem_mem _
  cases c : l.all signB with
  | false => simp
  | true =>
    rw [List.all_eq_true.1 c _ (hm 0 (by omega)), List.all_eq_true.1 c _ (hm (l.length - 1) (by omega))]
    simp

set_option maxRecDepth 100000 in
theorem isLabelC (l : List UInt8) (n : Nat) (w : World) (hl : l.length = n) (hm : n ≤ maxLen) :
    Calls Tryd.prog 71 #[.string (str l)] w fun e w' => e = .returned (.bool (labelB l)) ∧ w = w' := by
  have hsz : (str l).size = n := by rw [str_size, hl]
  have hk := str_toList l
  unfold maxLen at hm
  rcases Nat.eq_zero_or_pos n with hn | hn
  · subst hn
    obtain rfl : l = [] := List.eq_nil_of_length_eq_zero hl
    have hr : labelB [] = false := rfl
    rw [hr]
    go_enter Tryd.func71, Tryd.ntmps71
    go_wp2
    go_ret
    exact ⟨rfl, rfl⟩
  · have hbn : (l == []) = false := by
      cases l with
      | nil => simp at hl; omega
      | cons x xs => rfl
    by_cases h : 63 < n
    · have h' : (63 : Int) < (n : Int) := by omega
      have hr : labelB l = false := by unfold labelB; rw [hl, decide_eq_false (show ¬ n ≤ 63 by omega)]; simp
      rw [hr]
      clear hl
      go_enter Tryd.func71, Tryd.ntmps71
      go_wp2
      go_ret
      exact ⟨rfl, rfl⟩
    · have h' : ¬ (63 : Int) < (n : Int) := by omega
      have hx1 : (str l).extract 0 1 = str (l.take 1) := by rw [str_extract]; simp
      obtain ⟨m, rfl⟩ : ∃ m, n = m + 1 := ⟨n - 1, by omega⟩
      have hx2 : (str l).extract m (m + 1) = str (l.drop m) := by rw [str_extract, List.take_of_length_le (by simp; omega)]
      have hm1 : ((m + 1 : Nat) : Int) - 1 = (m : Int) := by omega
      have hp := label_parts l (by omega) (by omega)
      have e : l.length - 1 = m := by omega
      rw [e] at hp
      have H4 := fun w => allC 4 (by simp) l (m + 1) w hl hm
      have H1 := fun w => allC 2 (by simp) (l.take 1) 1 w (by rw [List.length_take]; omega) (by unfold maxLen; omega)
      have H2 := fun w => allC 2 (by simp) (l.drop m) 1 w (by rw [List.length_drop]; omega) (by unfold maxLen; omega)
      change ∀ w, Calls Tryd.prog 70 #[.string (str l), .int .i64 4] w fun e w' => e = .returned (.bool (l.all signB)) ∧ w = w' at H4
      change ∀ w, Calls Tryd.prog 70 #[.string (str (l.take 1)), .int .i64 2] w fun e w' => e = .returned (.bool ((l.take 1).all tipB)) ∧ w = w' at H1
      change ∀ w, Calls Tryd.prog 70 #[.string (str (l.drop m)), .int .i64 2] w fun e w' => e = .returned (.bool ((l.drop m).all tipB)) ∧ w = w' at H2
      rw [hp]
      clear hp hl e
      generalize l.all signB = a at *
      generalize (l.take 1).all tipB = b at *
      generalize (l.drop m).all tipB = c at *
      generalize l.take 1 = l1 at *
      generalize l.drop m = l2 at *
      have hms : ((m + 1 : Nat) : Int) ≤ 63 := by omega
      have hms2 : (0 : Int) ≤ (m : Int) := by omega
      generalize m + 1 = M at *
      cases a <;> cases b <;> cases c
      all_goals (
        go_enter Tryd.func71, Tryd.ntmps71
        go_wp2_with (go_at_call 70; first | ((with_reducible refine (H4 _).mono ?_); rintro e w1 ⟨rfl, rfl⟩) | ((with_reducible refine (H1 _).mono ?_); rintro e w1 ⟨rfl, rfl⟩) | ((with_reducible refine (H2 _).mono ?_); rintro e w1 ⟨rfl, rfl⟩))
        go_ret
        exact ⟨rfl, rfl⟩)
end Go.Proofs.YtgaodaimkojmhaaDoor
