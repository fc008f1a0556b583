/- Contracts and plain words that the laws' proofs stand on. -/
import Derived.Test.YtaodjnkjjmhecaaGreatDoorLibAZ
namespace Go.Proofs.YtaodjnkjjmhecaaGreatDoor
open Go.RowKit
set_option linter.unusedVariables false
theorem cutDashC (l : List UInt8) (w : World) : Calls Tryz.prog 248 #[.string (str l), .string ⟨#[45]⟩] w fun e w' => e = .returned (.tuple #[.string (str (body l)), .bool (signed l)]) ∧ w = w' := by
  refine (Tryz.strings_CutPrefix (str l) ⟨#[45]⟩ w).mono ?_
  rintro e w' ⟨rfl, rfl⟩
  rw [str_data]
  exact ⟨rfl, rfl⟩
set_option maxRecDepth 100000 in
theorem numberC (l : List UInt8) (n : Nat) (w : World) (hl : l.length = n) (hm : n ≤ maxLen) :
    Calls Tryz.prog 252 #[.string (str l)] w fun e w' => e = .returned (.tuple #[.int .i64 (numL l).1, .bool (numL l).2]) ∧ w = w' := by
  have HC := cutDashC l
  have hle := body_le l
  unfold numL
  generalize body l = b at *
  generalize signed l = g at *
  obtain ⟨m, hb⟩ : ∃ m, b.length = m := ⟨_, rfl⟩
  have hsz : (str b).size = m := by rw [str_size, hb]
  have HD := fun w => digitsC b m w hb (by omega)
  have hd : lead b ≤ m := by rw [← hb]; exact lead_le b
  have hal := fun h => lead_all (l := b) h
  rw [hb] at hle hal ⊢
  rw [hl] at hle
  clear hl
  change ∀ w, Calls Tryz.prog 257 #[.string (str b)] w fun e w' => e = .returned (.int .i64 (lead b : Int)) ∧ w = w' at HD
  have hk := str_toList b
  have HB := Lib.hid hb
  unfold maxLen at hm
  rcases Nat.eq_zero_or_pos m with hm0 | hm0
  · rw [if_pos (.inl hm0)]
    have : b = [] := List.eq_nil_of_length_eq_zero (hb.trans hm0)
    subst this
    clear hb HB hal HD hd
    go_enter Tryz.func252, Tryz.ntmps252
    go_wp2_with (go_at_call 248; (with_reducible refine (HC _).mono ?_); rintro e w2 ⟨rfl, rfl⟩)
    go_ret2
    exact ⟨rfl, rfl⟩
  · have hbn : (b == []) = false := by
      cases b with
      | nil => simp at hb; omega
      | cons x xs => rfl
    clear hb
    generalize lead b = d at *
    by_cases hlt : d < m
    · rw [if_pos (.inr hlt)]
      have hlt' : (d : Int) < (m : Int) := by omega
      go_enter Tryz.func252, Tryz.ntmps252
      go_wp2_with (first | (go_at_call 248; (with_reducible refine (HC _).mono ?_); rintro e w2 ⟨rfl, rfl⟩) | (go_at_call 257; (with_reducible refine (HD _).mono ?_); rintro e w2 ⟨rfl, rfl⟩))
      go_ret2
      exact ⟨rfl, rfl⟩
    · rw [if_neg (by omega)]
      obtain rfl : d = m := by omega
      have hge : ¬ ((d : Int) < (d : Int)) := by omega
      have HA := Lib.hid (hal rfl)
      clear hal hlt
      go_enter Tryz.func252, Tryz.ntmps252
      go_wp2_with (first | (go_at_call 248; (with_reducible refine (HC _).mono ?_); rintro e w2 ⟨rfl, rfl⟩) | (go_at_call 257; (with_reducible refine (HD _).mono ?_); rintro e w2 ⟨rfl, rfl⟩))
      go_loopw [6, 24] (fun v i wr => ∃ k : Nat, k ≤ d ∧ v = .int .i64 (numV (b.take k) : Int) ∧ i = .int .i64 (k : Int) ∧ w = wr) (fun _ i _ => d - (intOf i).toNat)
      case atStart => exact ⟨0, Nat.zero_le _, rfl, rfl, rfl⟩
      case round =>
        obtain ⟨k, hk2, rfl, rfl, rfl⟩ := hrel
        clear HC HD
        by_cases hlt : k < d
        · have hlt' : (k : Int) < (d : Int) := by omega
          have hi := run_index_str (P := Tryz.prog) w 9 b .i64 k Tryz.underlying9 (by rw [HB.out]; exact hlt)
          obtain ⟨d1, d2⟩ := HA.out k hlt
          have HV := Lib.hid (numV_take (l := b) (k := k) (by rw [HB.out]; exact hlt))
          have hv := numV_le (b.take k)
          generalize numV (b.take k) = V at *
          generalize (b.getD k 0).toNat = x at *
          obtain ⟨y, rfl⟩ : ∃ y, x = y + 48 := ⟨x - 48, by omega⟩
          go_wp2
          go_roundw
          case rel => exact ⟨k + 1, by omega, by rw [HV.out]; congr 1; omega, by go_num, by first | rfl | trivial⟩
          case measure => simp [intOf]; omega
        · obtain rfl : k = d := by omega
          have hv := numV_le b
          have e1 : b.take k = b := List.take_of_length_le (by rw [HB.out]; omega)
          rw [e1]
          obtain ⟨V, hV⟩ : ∃ V, numV b = V := ⟨_, rfl⟩
          rw [hV] at hv ⊢
          have HV := Lib.hid hV
          clear hV e1
          cases g
          · go_wp2
            go_ret2
            exact ⟨by rw [HV.out]; rfl, rfl⟩
          · go_wp2
            go_ret2
            exact ⟨by rw [HV.out]; simp, rfl⟩
theorem infoStr : (Tryz.prog.info? 9).map (fun i => (i.zero, i.size, i.bytes)) = some (some (.string ⟨#[]⟩), 1, 16) := by kernel_rfl
def strs (p : List (List UInt8)) : List Value := p.map fun l => Value.string (str l)
theorem strs_length (p : List (List UInt8)) : (strs p).length = p.length := by unfold strs; rw [List.length_map]
theorem strs_snoc (p : List (List UInt8)) (x : List UInt8) : strs p ++ [.string (str x)] = strs (p ++ [x]) := by unfold strs; rw [List.map_append]; rfl
def GivesStrs (p : List (List UInt8)) (w : World) (en : Ending) (w' : World) : Prop :=
  ∃ a c, en = .returned (.slice a p.length c) ∧ Owned w.heap.size 9 a p.length c (strs p) w' ∧ Below w.heap.size w w'
set_option maxRecDepth 100000 in
theorem splitC (l : List UInt8) (c : UInt8) (n : Nat) (w : World) (hl : l.length = n) (hm : n ≤ 1000000000000) :
    Calls Tryz.prog 246 #[.string (str l), .int .u8 (c.toNat : Int)] w (GivesStrs (splitL l c) w) := by
  have hsz : (str l).size = n := by rw [str_size, hl]
  have hx := str_extract l
  obtain ⟨i0, hi, hz0, hz1, hz2⟩ := info_parts infoStr
  have ht : (List.drop (splitK l c n).2 l).take (n - (splitK l c n).2) = l.drop (splitK l c n).2 := by rw [← hl, List.take_of_length_le (by simp)]
  have HT := Lib.hid ht
  have HS : Hid (splitL l c = (splitK l c n).1 ++ [l.drop (splitK l c n).2]) := by unfold splitL; rw [hl]; rfl
  have hown0 : Owned w.heap.size 9 none 0 0 [] w := ⟨World.ownsRow_nil w _ _ _, Reads.nil _ _, fun _ => rfl, Nat.le_refl _, Nat.zero_le _, rfl⟩
  have hbel0 := Below.refl w.heap.size w
  have HL := Lib.hid hl
  clear hl ht
  go_enter Tryz.func246, Tryz.ntmps246
  go_wp2
  go_loopw [5, 6, 10] (fun v s i wr => ∃ (k N : Nat) (a : Option Addr) (C : Nat), k ≤ n ∧ N ≤ k ∧ v = .slice a N C ∧ s = .int .i64 ((splitK l c k).2 : Int) ∧ i = .int .i64 (k : Int) ∧ Owned w.heap.size 9 a N C (strs (splitK l c k).1) wr ∧ Below w.heap.size w wr) (fun _ _ i _ => n - (intOf i).toNat)
  case atStart => exact ⟨0, 0, _, _, Nat.zero_le _, Nat.le_refl _, rfl, rfl, rfl, hown0, hbel0⟩
  case round =>
    clear hown0 hbel0
    obtain ⟨k, N, a, C, hk, hN, rfl, rfl, rfl, ho, hb⟩ := hrel
    have hle := (splitK_le l c k).2
    by_cases hlt : k < n
    · have hlt' : (k : Int) < (n : Int) := by omega
      have hix := run_index_str (P := Tryz.prog) wr 9 l .i64 k Tryz.underlying9 (by rw [HL.out]; exact hlt)
      have HK : Hid (splitK l c (k + 1) = if (l.getD k 0 == c) = true then ((splitK l c k).1 ++ [(l.drop (splitK l c k).2).take (k - (splitK l c k).2)], k + 1) else splitK l c k) := rfl
      have hcmp : (l.getD k 0 == c) = decide ((l.getD k 0).toNat = c.toNat) := by
        rw [Bool.eq_iff_iff, decide_eq_true_iff]
        simp only [beq_iff_eq]
        exact ⟨fun h => by rw [h], fun h => UInt8.toNat_inj.1 h⟩
      rw [hcmp] at HK
      clear hcmp
      have hcl := u8_lt c
      have hxl := u8_lt (l.getD k 0)
      generalize (l.getD k 0).toNat = x at *
      generalize splitK l c k = q at HK ho hle
      obtain ⟨p, s⟩ := q
      simp only [] at ho hle
      have HO := Lib.hid ho
      have hbs := hb.size
      have HB := Lib.hid hb
      clear ho hb
      by_cases hxc : x = c.toNat
      · have HK2 : Hid (splitK l c (k + 1) = (p ++ [(l.drop s).take (k - s)], k + 1)) := by have := HK.out; rw [if_pos (by simpa using hxc)] at this; exact this
        have hxc' : (x : Int) = (c.toNat : Int) := by omega
        have hxs := hx s k
        have hs' : (s : Int) ≤ (k : Int) := by omega
        have hkn : (k : Int) ≤ (n : Int) := by omega
        clear hx HK
        generalize (l.drop s).take (k - s) = y at HK2 hxs
        generalize c.toNat = cc at *
        subst hxc
        have hO := HO.out
        go_wp2_with (at_builtin; refine wpList_append_one rfl (.tmp 18) (.tmp 23) 235 rfl 9 i0 (.string ⟨#[]⟩) 16 Tryz.underlying235 hi hz0 hz1 hz2 rfl hO.1 rfl rfl rfl (by unfold maxLen; omega) (by omega) hbs ?_; intro v2 w2 ho2 hb2; obtain ⟨a2, c2, rfl, ho3⟩ := Owned.of ho2)
        rw [strs_snoc] at ho3
        go_roundw
        case rel => exact ⟨k + 1, N + 1, a2, c2, by omega, by omega, rfl, by rw [HK2.out]; go_num, by go_num, by rw [HK2.out]; exact ho3, HB.out.trans hb2⟩
        case measure => simp [intOf]; omega
      · have HK2 : Hid (splitK l c (k + 1) = (p, s)) := by have := HK.out; rw [if_neg (by simpa using hxc)] at this; exact this
        have hxc' : ¬ (x : Int) = (c.toNat : Int) := by omega
        clear HK
        generalize c.toNat = cc at *
        go_wp2
        go_roundw
        case rel => exact ⟨k + 1, N, a, C, by omega, by omega, rfl, by rw [HK2.out], by go_num, by rw [HK2.out]; exact HO.out, HB.out⟩
        case measure => simp [intOf]; omega
    · obtain rfl : k = n := by omega
      have HO := Lib.hid ho
      have hbs := hb.size
      have HB := Lib.hid hb
      have hT := HT.out
      clear ho hb HT
      generalize splitK l c k = q at *
      obtain ⟨p, s⟩ := q
      simp only [] at *
      have hxs := hx s k
      rw [hT] at hxs
      have hs' : (s : Int) ≤ (k : Int) := by omega
      have hO := HO.out
      clear hx hT
      generalize l.drop s = y at *
      go_wp2_with (at_builtin; refine wpList_append_one rfl (.tmp 28) (.tmp 32) 235 rfl 9 i0 (.string ⟨#[]⟩) 16 Tryz.underlying235 hi hz0 hz1 hz2 rfl hO.1 rfl rfl rfl (by unfold maxLen; omega) (by omega) hbs ?_; intro v2 w2 ho2 hb2; obtain ⟨a2, c2, rfl, ho3⟩ := Owned.of ho2)
      rw [strs_snoc] at ho3
      go_ret
      have hN : N + 1 = (splitL l c).length := by rw [HS.out, ← strs_length, ← ho3.len]
      rw [← HS.out] at ho3
      refine ⟨a2, c2, ?_, ?_, HB.out.trans hb2⟩
      · rw [← hN]; rfl
      · rw [← hN]; exact ho3
def tipB (x : UInt8) : Bool := (decide (97 ≤ x.toNat) && decide (x.toNat ≤ 122)) || (decide (48 ≤ x.toNat) && decide (x.toNat ≤ 57)) || decide (x.toNat = 95)
def placeN (x : UInt8) : Int := (if hexB x = true then 1 else 0) + (if tipB x = true then 2 else 0) + (if signB x = true then 4 else 0)
set_option maxRecDepth 100000 in
theorem placesC (x : UInt8) (w : World) : Calls Tryz.prog 256 #[.int .u8 (x.toNat : Int)] w fun e w' => e = .returned (.int .i64 (placeN x)) ∧ w = w' := by
  have h0 := u8_lt x
  unfold placeN hexB tipB signB
  generalize x.toNat = n at *
  -- BEGIN places
  have hcase : n = 58 ∨ n = 46 ∨ n = 95 ∨ n = 45 ∨ (48 ≤ n ∧ n ≤ 57) ∨ (97 ≤ n ∧ n ≤ 102) ∨ (103 ≤ n ∧ n ≤ 122) ∨ (n < 48 ∧ n ≠ 45 ∧ n ≠ 46) ∨ (59 ≤ n ∧ n ≤ 96 ∧ n ≠ 95) ∨ (123 ≤ n) := by omega
  rcases hcase with rfl | rfl | rfl | rfl | h | h | h | h | h | h
  · go_enter Tryz.func256, Tryz.ntmps256
    go_wp2
    go_ret
    exact ⟨by kernel_rfl, rfl⟩
  · go_enter Tryz.func256, Tryz.ntmps256
    go_wp2
    go_ret
    exact ⟨by kernel_rfl, rfl⟩
  · go_enter Tryz.func256, Tryz.ntmps256
    go_wp2
    go_ret
    exact ⟨by kernel_rfl, rfl⟩
  · go_enter Tryz.func256, Tryz.ntmps256
    go_wp2
    go_ret
    exact ⟨by kernel_rfl, rfl⟩
  · have e58 : ((n : Int) == 58) = false := by rw [beq_eq_false_iff_ne]; omega
    have e46 : ((n : Int) == 46) = false := by rw [beq_eq_false_iff_ne]; omega
    have e95 : ((n : Int) == 95) = false := by rw [beq_eq_false_iff_ne]; omega
    have e45 : ((n : Int) == 45) = false := by rw [beq_eq_false_iff_ne]; omega
    have g48 : (48 : Int) ≤ n := by omega
    have g97 : ¬ (97 : Int) ≤ n := by omega
    have g103 : ¬ (103 : Int) ≤ n := by omega
    have l57 : (n : Int) ≤ 57 := by omega
    have l102 : (n : Int) ≤ 102 := by omega
    have l122 : (n : Int) ≤ 122 := by omega
    have q48 : decide ((48 : Int) ≤ n) = true := by exact decide_eq_true g48
    have q97 : decide ((97 : Int) ≤ n) = false := by exact decide_eq_false g97
    have q103 : decide ((103 : Int) ≤ n) = false := by exact decide_eq_false g103
    have q57 : decide ((n : Int) ≤ 57) = true := by exact decide_eq_true l57
    have q102 : decide ((n : Int) ≤ 102) = true := by exact decide_eq_true l102
    have q122 : decide ((n : Int) ≤ 122) = true := by exact decide_eq_true l122
    go_enter Tryz.func256, Tryz.ntmps256
    go_wp2
    go_ret
    refine ⟨?_, rfl⟩
    congr 2
    repeat (first | rw [if_pos (by omega)] | rw [if_neg (by omega)])
  · have e58 : ((n : Int) == 58) = false := by rw [beq_eq_false_iff_ne]; omega
    have e46 : ((n : Int) == 46) = false := by rw [beq_eq_false_iff_ne]; omega
    have e95 : ((n : Int) == 95) = false := by rw [beq_eq_false_iff_ne]; omega
    have e45 : ((n : Int) == 45) = false := by rw [beq_eq_false_iff_ne]; omega
    have g48 : (48 : Int) ≤ n := by omega
    have g97 : (97 : Int) ≤ n := by omega
    have g103 : ¬ (103 : Int) ≤ n := by omega
    have l57 : ¬ (n : Int) ≤ 57 := by omega
    have l102 : (n : Int) ≤ 102 := by omega
    have l122 : (n : Int) ≤ 122 := by omega
    have q48 : decide ((48 : Int) ≤ n) = true := by exact decide_eq_true g48
    have q97 : decide ((97 : Int) ≤ n) = true := by exact decide_eq_true g97
    have q103 : decide ((103 : Int) ≤ n) = false := by exact decide_eq_false g103
    have q57 : decide ((n : Int) ≤ 57) = false := by exact decide_eq_false l57
    have q102 : decide ((n : Int) ≤ 102) = true := by exact decide_eq_true l102
    have q122 : decide ((n : Int) ≤ 122) = true := by exact decide_eq_true l122
    go_enter Tryz.func256, Tryz.ntmps256
    go_wp2
    go_ret
    refine ⟨?_, rfl⟩
    congr 2
    repeat (first | rw [if_pos (by omega)] | rw [if_neg (by omega)])
  · have e58 : ((n : Int) == 58) = false := by rw [beq_eq_false_iff_ne]; omega
    have e46 : ((n : Int) == 46) = false := by rw [beq_eq_false_iff_ne]; omega
    have e95 : ((n : Int) == 95) = false := by rw [beq_eq_false_iff_ne]; omega
    have e45 : ((n : Int) == 45) = false := by rw [beq_eq_false_iff_ne]; omega
    have g48 : (48 : Int) ≤ n := by omega
    have g97 : (97 : Int) ≤ n := by omega
    have g103 : (103 : Int) ≤ n := by omega
    have l57 : ¬ (n : Int) ≤ 57 := by omega
    have l102 : ¬ (n : Int) ≤ 102 := by omega
    have l122 : (n : Int) ≤ 122 := by omega
    have q48 : decide ((48 : Int) ≤ n) = true := by exact decide_eq_true g48
    have q97 : decide ((97 : Int) ≤ n) = true := by exact decide_eq_true g97
    have q103 : decide ((103 : Int) ≤ n) = true := by exact decide_eq_true g103
    have q57 : decide ((n : Int) ≤ 57) = false := by exact decide_eq_false l57
    have q102 : decide ((n : Int) ≤ 102) = false := by exact decide_eq_false l102
    have q122 : decide ((n : Int) ≤ 122) = true := by exact decide_eq_true l122
    go_enter Tryz.func256, Tryz.ntmps256
    go_wp2
    go_ret
    refine ⟨?_, rfl⟩
    congr 2
    repeat (first | rw [if_pos (by omega)] | rw [if_neg (by omega)])
  · have e58 : ((n : Int) == 58) = false := by rw [beq_eq_false_iff_ne]; omega
    have e46 : ((n : Int) == 46) = false := by rw [beq_eq_false_iff_ne]; omega
    have e95 : ((n : Int) == 95) = false := by rw [beq_eq_false_iff_ne]; omega
    have e45 : ((n : Int) == 45) = false := by rw [beq_eq_false_iff_ne]; omega
    have g48 : ¬ (48 : Int) ≤ n := by omega
    have g97 : ¬ (97 : Int) ≤ n := by omega
    have g103 : ¬ (103 : Int) ≤ n := by omega
    have l57 : (n : Int) ≤ 57 := by omega
    have l102 : (n : Int) ≤ 102 := by omega
    have l122 : (n : Int) ≤ 122 := by omega
    have q48 : decide ((48 : Int) ≤ n) = false := by exact decide_eq_false g48
    have q97 : decide ((97 : Int) ≤ n) = false := by exact decide_eq_false g97
    have q103 : decide ((103 : Int) ≤ n) = false := by exact decide_eq_false g103
    have q57 : decide ((n : Int) ≤ 57) = true := by exact decide_eq_true l57
    have q102 : decide ((n : Int) ≤ 102) = true := by exact decide_eq_true l102
    have q122 : decide ((n : Int) ≤ 122) = true := by exact decide_eq_true l122
    go_enter Tryz.func256, Tryz.ntmps256
    go_wp2
    go_ret
    refine ⟨?_, rfl⟩
    congr 2
    repeat (first | rw [if_pos (by omega)] | rw [if_neg (by omega)])
  · have e58 : ((n : Int) == 58) = false := by rw [beq_eq_false_iff_ne]; omega
    have e46 : ((n : Int) == 46) = false := by rw [beq_eq_false_iff_ne]; omega
    have e95 : ((n : Int) == 95) = false := by rw [beq_eq_false_iff_ne]; omega
    have e45 : ((n : Int) == 45) = false := by rw [beq_eq_false_iff_ne]; omega
    have g48 : (48 : Int) ≤ n := by omega
    have g97 : ¬ (97 : Int) ≤ n := by omega
    have g103 : ¬ (103 : Int) ≤ n := by omega
    have l57 : ¬ (n : Int) ≤ 57 := by omega
    have l102 : (n : Int) ≤ 102 := by omega
    have l122 : (n : Int) ≤ 122 := by omega
    have q48 : decide ((48 : Int) ≤ n) = true := by exact decide_eq_true g48
    have q97 : decide ((97 : Int) ≤ n) = false := by exact decide_eq_false g97
    have q103 : decide ((103 : Int) ≤ n) = false := by exact decide_eq_false g103
    have q57 : decide ((n : Int) ≤ 57) = false := by exact decide_eq_false l57
    have q102 : decide ((n : Int) ≤ 102) = true := by exact decide_eq_true l102
    have q122 : decide ((n : Int) ≤ 122) = true := by exact decide_eq_true l122
    go_enter Tryz.func256, Tryz.ntmps256
    go_wp2
    go_ret
    refine ⟨?_, rfl⟩
    congr 2
    repeat (first | rw [if_pos (by omega)] | rw [if_neg (by omega)])
  · have e58 : ((n : Int) == 58) = false := by rw [beq_eq_false_iff_ne]; omega
    have e46 : ((n : Int) == 46) = false := by rw [beq_eq_false_iff_ne]; omega
    have e95 : ((n : Int) == 95) = false := by rw [beq_eq_false_iff_ne]; omega
    have e45 : ((n : Int) == 45) = false := by rw [beq_eq_false_iff_ne]; omega
    have g48 : (48 : Int) ≤ n := by omega
    have g97 : (97 : Int) ≤ n := by omega
    have g103 : (103 : Int) ≤ n := by omega
    have l57 : ¬ (n : Int) ≤ 57 := by omega
    have l102 : ¬ (n : Int) ≤ 102 := by omega
    have l122 : ¬ (n : Int) ≤ 122 := by omega
    have q48 : decide ((48 : Int) ≤ n) = true := by exact decide_eq_true g48
    have q97 : decide ((97 : Int) ≤ n) = true := by exact decide_eq_true g97
    have q103 : decide ((103 : Int) ≤ n) = true := by exact decide_eq_true g103
    have q57 : decide ((n : Int) ≤ 57) = false := by exact decide_eq_false l57
    have q102 : decide ((n : Int) ≤ 102) = false := by exact decide_eq_false l102
    have q122 : decide ((n : Int) ≤ 122) = false := by exact decide_eq_false l122
    go_enter Tryz.func256, Tryz.ntmps256
    go_wp2
    go_ret
    refine ⟨?_, rfl⟩
    congr 2
    repeat (first | rw [if_pos (by omega)] | rw [if_neg (by omega)])
  -- END places
def spotB : Nat → UInt8 → Bool
  | 1, x => hexB x
  | 2, x => tipB x
  | _, x => signB x
theorem spot_and (A : Nat) (h : A = 1 ∨ A = 2 ∨ A = 4) (x : UInt8) : (bits BinOp.and IntKind.i64 (placeN x) (A : Int) == 0) = !spotB A x := by
  unfold placeN
  rcases h with rfl | rfl | rfl
  · show _ = !hexB x
    cases hexB x <;> cases tipB x <;> cases signB x <;> kernel_rfl
  · show _ = !tipB x
    cases hexB x <;> cases tipB x <;> cases signB x <;> kernel_rfl
  · show _ = !signB x
    cases hexB x <;> cases tipB x <;> cases signB x <;> kernel_rfl
theorem all_no {l : List UInt8} {p : UInt8 → Bool} {k : Nat} (hk : k < l.length) (h : p (l.getD k 0) = false) : l.all p = false := by
  rw [Bool.eq_false_iff]
  intro c
  have hm : l.getD k 0 ∈ l := by
    simp only [List.getD, List.getElem?_eq_getElem hk, Option.getD_some]
    exact List.getElem_mem _
  rw [List.all_eq_true.1 c _ hm] at h
  cases h
theorem all_yes {l : List UInt8} {p : UInt8 → Bool} (h : ∀ j, j < l.length → p (l.getD j 0) = true) : l.all p = true := by
  rw [List.all_eq_true]
  intro x hx
  obtain ⟨i, hi, rfl⟩ := List.getElem_of_mem hx
  have := h i hi
  simpa [List.getD, hi] using this
set_option maxRecDepth 100000 in
theorem allC (A : Nat) (hA : A = 1 ∨ A = 2 ∨ A = 4) (l : List UInt8) (n : Nat) (w : World) (hl : l.length = n) (hm : n ≤ maxLen) :
    Calls Tryz.prog 250 #[.string (str l), .int .i64 (A : Int)] w fun e w' => e = .returned (.bool (l.all (spotB A))) ∧ w = w' := by
  have hsz : (str l).size = n := by rw [str_size, hl]
  unfold maxLen at hm
  have HL := Lib.hid hl
  clear hl
  have HP := fun x => placesC x
  have HB := fun x => spot_and A hA x
  generalize placeN = q at *
  generalize spotB A = p at *
  have HR : Hid (∀ k, k < n → p (l.getD k 0) = false → l.all p = false) := fun k hk h => all_no (by rw [HL.out]; exact hk) h
  have HY : Hid ((∀ j, j < n → p (l.getD j 0) = true) → l.all p = true) := fun h => all_yes (by rw [HL.out]; exact h)
  generalize l.all p = R at *
  go_enter Tryz.func250, Tryz.ntmps250
  go_wp2
  go_loopw [8] (fun i wr => ∃ k : Nat, k ≤ n ∧ i = .int .i64 (k : Int) ∧ Hid (∀ j, j < k → p (l.getD j 0) = true) ∧ w = wr) (fun i _ => n - (intOf i).toNat)
  case atStart => exact ⟨0, Nat.zero_le _, rfl, fun j hj => absurd hj (by omega), rfl⟩
  case round =>
    obtain ⟨k, hk, rfl, H, rfl⟩ := hrel
    by_cases hlt : k < n
    · have hlt' : (k : Int) < (n : Int) := by omega
      have hi := run_index_str (P := Tryz.prog) w 9 l .i64 k Tryz.underlying9 (by rw [HL.out]; exact hlt)
      have HN := Lib.hid (fun (hp : p (l.getD k 0) = true) => (fun j hj => by
        rcases Nat.lt_succ_iff_lt_or_eq.1 hj with h | rfl
        · exact H.out j h
        · exact hp : ∀ j, j < k + 1 → p (l.getD j 0) = true))
      have HF := Lib.hid (HR.out k hlt)
      have HC := HP (l.getD k 0)
      have hb := HB (l.getD k 0)
      clear HP HB
      generalize p (l.getD k 0) = t at *
      generalize l.getD k 0 = x at HC hi hb
      generalize q x = y at *
      cases t
      · have HF2 := Lib.hid (HF.out rfl)
        rw [Bool.not_false] at hb
        clear HN HF
        go_wp2_with (go_at_call 256; (with_reducible refine (HC _).mono ?_); rintro e w1 ⟨rfl, rfl⟩)
        go_ret
        exact ⟨by rw [HF2.out]; rfl, rfl⟩
      · have HN2 := Lib.hid (HN.out rfl)
        rw [Bool.not_true] at hb
        clear HN HF
        go_wp2_with (go_at_call 256; (with_reducible refine (HC _).mono ?_); rintro e w1 ⟨rfl, rfl⟩)
        go_roundw
        case rel => exact ⟨k + 1, by omega, by go_num, HN2.out, by first | rfl | trivial⟩
        case measure => simp [intOf]; omega
    · obtain rfl : k = n := by omega
      have HE := Lib.hid (HY.out H.out)
      clear HP HB
      go_wp2
      go_ret
      exact ⟨by rw [HE.out]; rfl, rfl⟩
theorem take_one {l : List UInt8} (h : 1 ≤ l.length) : l.take 1 = [l.getD 0 0] := by
  cases l with
  | nil => simp at h
  | cons x xs => rfl
theorem drop_last {l : List UInt8} (h : 1 ≤ l.length) : l.drop (l.length - 1) = [l.getD (l.length - 1) 0] := by
  rw [List.drop_eq_getElem_cons (by omega), List.drop_eq_nil_of_le (by omega)]
  simp [List.getD, show l.length - 1 < l.length by omega]
theorem tip_sign (x : UInt8) : tipB x = (signB x && !(x == 45)) := by
  have e : (x == 45) = decide (x.toNat = 45) := by
    rw [Bool.eq_iff_iff, decide_eq_true_iff]
    simp only [beq_iff_eq]
    exact ⟨fun h => by rw [h]; rfl, fun h => UInt8.toNat_inj.1 h⟩
  unfold tipB signB
  rw [e]
  generalize x.toNat = n
  rw [Bool.eq_iff_iff]
  simp
  omega
theorem label_parts (l : List UInt8) (h1 : 1 ≤ l.length) (h2 : l.length ≤ 63) : labelB l = (l.all signB && ((l.take 1).all tipB && (l.drop (l.length - 1)).all tipB)) := by
  unfold labelB
  rw [decide_eq_true h1, decide_eq_true h2, take_one h1, drop_last h1]
  simp only [List.all_cons, List.all_nil, Bool.and_true, Bool.true_and, tip_sign]
  have hm : ∀ k, k < l.length → l.getD k 0 ∈ l := fun k hk => by
    simp only [List.getD, List.getElem?_eq_getElem hk, Option.getD_some]
    exact List.getElem_mem _
  cases c : l.all signB with
  | false => simp
  | true =>
    rw [List.all_eq_true.1 c _ (hm 0 (by omega)), List.all_eq_true.1 c _ (hm (l.length - 1) (by omega))]
    simp
set_option maxRecDepth 100000 in
theorem isLabelC (l : List UInt8) (n : Nat) (w : World) (hl : l.length = n) (hm : n ≤ maxLen) :
    Calls Tryz.prog 251 #[.string (str l)] w fun e w' => e = .returned (.bool (labelB l)) ∧ w = w' := by
  have hsz : (str l).size = n := by rw [str_size, hl]
  have hk := str_toList l
  unfold maxLen at hm
  rcases Nat.eq_zero_or_pos n with hn | hn
  · subst hn
    obtain rfl : l = [] := List.eq_nil_of_length_eq_zero hl
    have hr : labelB [] = false := rfl
    rw [hr]
    go_enter Tryz.func251, Tryz.ntmps251
    go_wp2
    go_ret
    exact ⟨rfl, rfl⟩
  · have hbn : (l == []) = false := by
      cases l with
      | nil => simp at hl; omega
      | cons x xs => rfl
    by_cases h : 63 < n
    · have h' : (63 : Int) < (n : Int) := by omega
      have hr : labelB l = false := by unfold labelB; rw [hl, decide_eq_false (show ¬ n ≤ 63 by omega)]; simp
      rw [hr]
      clear hl
      go_enter Tryz.func251, Tryz.ntmps251
      go_wp2
      go_ret
      exact ⟨rfl, rfl⟩
    · have h' : ¬ (63 : Int) < (n : Int) := by omega
      have hx1 : (str l).extract 0 1 = str (l.take 1) := by rw [str_extract]; simp
      obtain ⟨m, rfl⟩ : ∃ m, n = m + 1 := ⟨n - 1, by omega⟩
      have hx2 : (str l).extract m (m + 1) = str (l.drop m) := by rw [str_extract, List.take_of_length_le (by simp; omega)]
      have hm1 : ((m + 1 : Nat) : Int) - 1 = (m : Int) := by omega
      have hp := label_parts l (by omega) (by omega)
      have e : l.length - 1 = m := by omega
      rw [e] at hp
      have H4 := fun w => allC 4 (by simp) l (m + 1) w hl hm
      have H1 := fun w => allC 2 (by simp) (l.take 1) 1 w (by rw [List.length_take]; omega) (by unfold maxLen; omega)
      have H2 := fun w => allC 2 (by simp) (l.drop m) 1 w (by rw [List.length_drop]; omega) (by unfold maxLen; omega)
      change ∀ w, Calls Tryz.prog 250 #[.string (str l), .int .i64 4] w fun e w' => e = .returned (.bool (l.all signB)) ∧ w = w' at H4
      change ∀ w, Calls Tryz.prog 250 #[.string (str (l.take 1)), .int .i64 2] w fun e w' => e = .returned (.bool ((l.take 1).all tipB)) ∧ w = w' at H1
      change ∀ w, Calls Tryz.prog 250 #[.string (str (l.drop m)), .int .i64 2] w fun e w' => e = .returned (.bool ((l.drop m).all tipB)) ∧ w = w' at H2
      rw [hp]
      clear hp hl e
      generalize l.all signB = a at *
      generalize (l.take 1).all tipB = b at *
      generalize (l.drop m).all tipB = c at *
      generalize l.take 1 = l1 at *
      generalize l.drop m = l2 at *
      have hms : ((m + 1 : Nat) : Int) ≤ 63 := by omega
      have hms2 : (0 : Int) ≤ (m : Int) := by omega
      generalize m + 1 = M at *
      cases a <;> cases b <;> cases c
      all_goals (
        go_enter Tryz.func251, Tryz.ntmps251
        go_wp2_with (go_at_call 250; first | ((with_reducible refine (H4 _).mono ?_); rintro e w1 ⟨rfl, rfl⟩) | ((with_reducible refine (H1 _).mono ?_); rintro e w1 ⟨rfl, rfl⟩) | ((with_reducible refine (H2 _).mono ?_); rintro e w1 ⟨rfl, rfl⟩))
        go_ret
        exact ⟨rfl, rfl⟩)
theorem splitDotC (l : List UInt8) (n : Nat) (w : World) (hl : l.length = n) (hm : n ≤ 1000000000000) :
    Calls Tryz.prog 246 #[.string (str l), .int .u8 46] w (GivesStrs (splitL l 46) w) := splitC l 46 n w hl hm
theorem str_at {w : World} {a : Option Addr} {P : List (List UInt8)} (h : Reads w a (strs P)) (k : Nat) (hk : k < P.length) : ∃ g off, a = some ⟨g, off, none⟩ ∧ w.cell? ⟨g, off + k, none⟩ = some (.string (str (P.getD k []))) :=
  h k (.string (str (P.getD k []))) (by simp [strs, List.getD, hk])
set_option maxRecDepth 100000 in
theorem isNumberC (l : List UInt8) (n : Nat) (w : World) (hl : l.length = n) (hm : n ≤ maxLen) (hT : PTab Tryz.prog w) :
    Calls Tryz.prog 247 #[.string (str l)] w fun e w' => e = .returned (.bool (octetB l)) ∧ Below w.heap.size w w' := by
  have hb := Below.refl w.heap.size w
  have HN := fun w => numberC l n w hl hm
  rw [← num_octet]
  unfold numB
  generalize numL l = q at *
  obtain ⟨v, b⟩ := q
  simp only [] at HN ⊢
  clear hl hm
  cases b with
  | false =>
    go_enter Tryz.func247, Tryz.ntmps247
    go_wp2_with (go_at_call 252; (with_reducible refine (HN _).mono ?_); rintro e w1 ⟨rfl, rfl⟩)
    go_ret
    exact ⟨rfl, hb⟩
  | true =>
    rw [Bool.true_and]
    by_cases h0 : 0 ≤ v
    · rw [decide_eq_true h0, Bool.true_and]
      by_cases h1 : v ≤ 255
      · rw [decide_eq_true h1, Bool.true_and]
        have HT := fun w (h : PTab Tryz.prog w) => textC v w (by omega) (by omega) h
        have hk := str_toList
        unfold GivesStr at HT
        generalize Lib.itoa v = t at *
        go_enter Tryz.func247, Tryz.ntmps247
        go_wp2_with (first
          | (go_at_call 252; (with_reducible refine (HN _).mono ?_); rintro e w1 ⟨rfl, rfl⟩)
          | (go_at_call 253; (with_reducible refine (HT _ hT).mono ?_); rintro e w1 ⟨rfl, hx⟩; have hb := hb.trans (hx.mono hb.size); clear hx))
        go_ret
        exact ⟨rfl, hb⟩
      · rw [decide_eq_false h1]
        go_enter Tryz.func247, Tryz.ntmps247
        go_wp2_with (go_at_call 252; (with_reducible refine (HN _).mono ?_); rintro e w1 ⟨rfl, rfl⟩)
        go_ret
        exact ⟨rfl, hb⟩
    · rw [decide_eq_false h0]
      go_enter Tryz.func247, Tryz.ntmps247
      go_wp2_with (go_at_call 252; (with_reducible refine (HN _).mono ?_); rintro e w1 ⟨rfl, rfl⟩)
      go_ret
      exact ⟨rfl, hb⟩
theorem all_no' {P : List (List UInt8)} {p : List UInt8 → Bool} {k : Nat} (hk : k < P.length) (h : p (P.getD k []) = false) : P.all p = false := by
  rw [Bool.eq_false_iff]
  intro c
  have hm : P.getD k [] ∈ P := by
    simp only [List.getD, List.getElem?_eq_getElem hk, Option.getD_some]
    exact List.getElem_mem _
  rw [List.all_eq_true.1 c _ hm] at h
  cases h
theorem all_yes' {P : List (List UInt8)} {p : List UInt8 → Bool} (h : ∀ j, j < P.length → p (P.getD j []) = true) : P.all p = true := by
  rw [List.all_eq_true]
  intro x hx
  obtain ⟨i, hi, rfl⟩ := List.getElem_of_mem hx
  have := h i hi
  simpa [List.getD, hi] using this
theorem part_le (l : List UInt8) (c : UInt8) (k : Nat) (hk : k < (splitL l c).length) : ((splitL l c).getD k []).length ≤ l.length := by
  have := mem_join_le c (splitL l c) ((splitL l c).getD k []) (by simp only [List.getD, List.getElem?_eq_getElem hk, Option.getD_some]; exact List.getElem_mem _)
  rwa [joinL_all] at this
set_option maxRecDepth 100000 in
theorem isFourC (l : List UInt8) (n : Nat) (w : World) (hl : l.length = n) (hm : n ≤ 1000000000000) (hT : PTab Tryz.prog w) :
    Calls Tryz.prog 243 #[.string (str l)] w fun e w' => e = .returned (.bool (quadB l)) ∧ Below w.heap.size w w' := by
  have HS := fun w => splitDotC l n w hl hm
  unfold GivesStrs at HS
  unfold quadB
  have hle := fun k hk => part_le l 46 k hk
  have hNn := splitL_le l 46
  rw [hl] at hle hNn
  generalize splitL l 46 = P at *
  obtain ⟨N, hN⟩ : ∃ N, P.length = N := ⟨_, rfl⟩
  rw [hN] at HS hle hNn ⊢
  obtain ⟨z, hz, hz2⟩ : ∃ z, decide (N = 4) = z ∧ ((N : Int) == 4) = z := ⟨_, rfl, by rw [Bool.eq_iff_iff]; simp; omega⟩
  rw [hz]
  clear hz
  have HP := Lib.hid hN
  have HR : Hid (∀ k, k < N → octetB (P.getD k []) = false → P.all octetB = false) := fun k hk h => all_no' (by rw [HP.out]; exact hk) h
  have HY : Hid ((∀ j, j < N → octetB (P.getD j []) = true) → P.all octetB = true) := fun h => all_yes' (by rw [HP.out]; exact h)
  generalize P.all octetB = R at *
  clear hN hl
  go_enter Tryz.func243, Tryz.ntmps243
  go_wp2_with (go_at_call 246; (with_reducible refine (HS _).mono ?_); rintro e w1 ⟨a1, c1, rfl, ho1, hx1⟩)
  have r1 := ho1.reads
  clear HS ho1
  go_loopw [10] (fun i wr => ∃ k : Nat, k ≤ N ∧ i = .int .i64 (k : Int) ∧ Hid (∀ j, j < k → octetB (P.getD j []) = true) ∧ Below w1.heap.size w1 wr) (fun i _ => N - (intOf i).toNat)
  case atStart => exact ⟨0, Nat.zero_le _, rfl, fun j hj => absurd hj (by omega), Below.refl _ _⟩
  case round =>
    obtain ⟨k, hk, rfl, H, hbr⟩ := hrel
    have hb := hx1.trans (hbr.mono hx1.size)
    by_cases hlt : k < N
    · have hlt' : (k : Int) < (N : Int) := by omega
      obtain ⟨g, off, rfl, hc⟩ := str_at (r1.below' hbr) k (by rw [HP.out]; exact hlt)
      have hlk := hle k hlt
      have HN := Lib.hid (fun (hp : octetB (P.getD k []) = true) => (fun j hj => by
        rcases Nat.lt_succ_iff_lt_or_eq.1 hj with h | rfl
        · exact H.out j h
        · exact hp : ∀ j, j < k + 1 → octetB (P.getD j []) = true))
      have HF := Lib.hid (HR.out k hlt)
      have HC := fun w => isNumberC (P.getD k []) _ w rfl (by unfold maxLen; omega)
      have hT2 := hT.below hb
      clear hle
      generalize octetB (P.getD k []) = t at *
      generalize P.getD k [] = x at hc HC
      cases t
      · have HF2 := Lib.hid (HF.out rfl)
        clear HN HF
        go_wp2_with (go_at_call 247; (with_reducible refine (HC _ hT2).mono ?_); rintro e w2 ⟨rfl, hx2⟩)
        go_ret
        exact ⟨by rw [HF2.out, Bool.and_false]; rfl, hb.trans (hx2.mono hb.size)⟩
      · have HN2 := Lib.hid (HN.out rfl)
        clear HN HF
        go_wp2_with (go_at_call 247; (with_reducible refine (HC _ hT2).mono ?_); rintro e w2 ⟨rfl, hx2⟩)
        go_roundw
        case rel => exact ⟨k + 1, by omega, by go_num, HN2.out, hbr.trans (hx2.mono hbr.size)⟩
        case measure => simp [intOf]; omega
    · obtain rfl : k = N := by omega
      have HE := Lib.hid (HY.out H.out)
      clear hle
      go_wp2
      go_ret
      exact ⟨by rw [HE.out, Bool.and_true]; rfl, hb⟩
def inB (l : List UInt8) : List UInt8 := Lib.trimSuffix (Lib.trimPrefix l [91]) [93]
def frontQ (l : List UInt8) : Bool := Lib.hasPrefix l [91]
def backQ (l : List UInt8) : Bool := Lib.hasSuffix (Lib.trimPrefix l [91]) [93]
theorem in_le (l : List UInt8) : (inB l).length ≤ l.length := by
  unfold inB Lib.trimSuffix Lib.trimPrefix
  split <;> split <;> simp <;> omega
theorem bracket_is (l : List UInt8) : bracketB l = (frontQ l && (backQ l && (decide (2 ≤ (inB l).length) && (decide ((inB l).length ≤ 45) && (inB l).all hexB)))) := by
  have hsuf : ∀ t : List UInt8, Lib.hasSuffix t [93] = true ∨ (Lib.hasSuffix t [93] = false ∧ ∀ p, t ≠ p ++ [93]) := fun t => by
    cases c : Lib.hasSuffix t [93] with
    | true => exact .inl rfl
    | false =>
      refine .inr ⟨rfl, fun p e => ?_⟩
      unfold Lib.hasSuffix at c
      have : List.isSuffixOf [93] t = true := List.isSuffixOf_iff_suffix.2 ⟨p, e.symm⟩
      rw [this] at c
      cases c
  cases l with
  | nil => rfl
  | cons x t =>
    by_cases hx : x = 91
    · subst hx
      have e1 : Lib.hasPrefix (91 :: t) [91] = true := by simp [Lib.hasPrefix]
      have e2 : Lib.trimPrefix (91 :: t) [91] = t := by unfold Lib.trimPrefix; rw [if_pos e1]; rfl
      unfold inB frontQ backQ
      rw [e1, e2, Bool.true_and]
      rcases hsuf t with h | ⟨h, hno⟩
      · have h0 := h
        unfold Lib.hasSuffix at h
        obtain ⟨p, rfl⟩ := List.isSuffixOf_iff_suffix.1 h
        have e3 : Lib.trimSuffix (p ++ [93]) [93] = p := by unfold Lib.trimSuffix; rw [if_pos h0]; simp
        rw [h0, e3, Bool.true_and]
        unfold bracketB
        have l1 : (91 :: (p ++ [93])).length = p.length + 2 := by simp
        rw [l1]
        have g1 : (91 :: (p ++ [93])).getD (p.length + 2 - 1) 0 = 93 := by simp [List.getD]
        have g2 : ((91 :: (p ++ [93])).drop 1).take (p.length + 2 - 2) = p := by simp
        have g3 : (91 :: (p ++ [93])).getD 0 0 = 91 := rfl
        rw [g1, g2, g3]
        have d1 : decide (4 ≤ p.length + 2) = decide (2 ≤ p.length) := by rw [decide_eq_decide]; omega
        have d2 : decide (p.length + 2 ≤ 47) = decide (p.length ≤ 45) := by rw [decide_eq_decide]; omega
        rw [d1, d2]
        simp
        rw [Bool.and_assoc]
      · rw [h, Bool.false_and, Bool.eq_false_iff]
        intro c
        unfold bracketB at c
        simp only [Bool.and_eq_true, decide_eq_true_iff, beq_iff_eq] at c
        obtain ⟨⟨⟨⟨c1, -⟩, -⟩, c2⟩, -⟩ := c
        refine hno (t.take (t.length - 1)) ?_
        have l1 : (91 :: t).length = t.length + 1 := by simp
        rw [l1] at c1 c2
        have := drop_last (l := t) (by omega)
        have e : t.getD (t.length - 1) 0 = 93 := by
          have e : t.length + 1 - 1 = (t.length - 1) + 1 := by omega
          rw [e] at c2
          simpa [List.getD] using c2
        rw [e] at this
        rw [← this, List.take_append_drop]
    · have e1 : Lib.hasPrefix (x :: t) [91] = false := by
        unfold Lib.hasPrefix
        rw [Bool.eq_false_iff]
        intro c
        obtain ⟨r, c⟩ := List.isPrefixOf_iff_prefix.1 c
        simp only [List.cons_append, List.nil_append, List.cons.injEq] at c
        exact hx c.1.symm
      unfold frontQ
      rw [e1, Bool.false_and]
      unfold bracketB
      have : ((x :: t).getD 0 0 == 91) = false := by rw [beq_eq_false_iff_ne]; exact hx
      rw [this]
      simp
theorem cutOpenC (l : List UInt8) (w : World) : Calls Tryz.prog 248 #[.string (str l), .string ⟨#[91]⟩] w fun e w' => e = .returned (.tuple #[.string (str (Lib.trimPrefix l [91])), .bool (frontQ l)]) ∧ w = w' := by
  refine (Tryz.strings_CutPrefix (str l) ⟨#[91]⟩ w).mono ?_
  rintro e w' ⟨rfl, rfl⟩
  rw [str_data]
  exact ⟨rfl, rfl⟩
theorem cutShutC (l : List UInt8) (w : World) (hm : (Lib.trimPrefix l [91]).length ≤ 9223372036854775807) : Calls Tryz.prog 249 #[.string (str (Lib.trimPrefix l [91])), .string ⟨#[93]⟩] w fun e w' => e = .returned (.tuple #[.string (str (inB l)), .bool (backQ l)]) ∧ w = w' := by
  refine (Tryz.strings_CutSuffix (str (Lib.trimPrefix l [91])) ⟨#[93]⟩ w (by rw [str_size]; exact hm)).mono ?_
  rintro e w' ⟨rfl, rfl⟩
  rw [str_data]
  exact ⟨rfl, rfl⟩
set_option maxRecDepth 100000 in
theorem isBracketedC (l : List UInt8) (n : Nat) (w : World) (hl : l.length = n) (hm : n ≤ maxLen) :
    Calls Tryz.prog 244 #[.string (str l)] w fun e w' => e = .returned (.bool (bracketB l)) ∧ w = w' := by
  have HC := fun w => cutOpenC l w
  have HS := fun w => cutShutC l w (by
    have : (Lib.trimPrefix l [91]).length ≤ l.length := by unfold Lib.trimPrefix; split <;> simp
    unfold maxLen at hm
    omega)
  rw [bracket_is]
  have hle := in_le l
  rw [hl] at hle
  generalize Lib.trimPrefix l [91] = o at *
  generalize frontQ l = f at *
  generalize backQ l = b at *
  generalize inB l = x at *
  obtain ⟨m, hx⟩ : ∃ m, x.length = m := ⟨_, rfl⟩
  have hsz : (str x).size = m := by rw [str_size, hx]
  have HA := fun w => allC 1 (by simp) x m w hx (by omega)
  change ∀ w, Calls Tryz.prog 250 #[.string (str x), .int .i64 1] w fun e w' => e = .returned (.bool (x.all hexB)) ∧ w = w' at HA
  rw [hx]
  generalize x.all hexB = a at *
  clear hl hx hle hm
  cases f with
  | false =>
    go_enter Tryz.func244, Tryz.ntmps244
    go_wp2_with (first
      | (go_at_call 248; (with_reducible refine (HC _).mono ?_); rintro e w2 ⟨rfl, rfl⟩)
      | (go_at_call 249; (with_reducible refine (HS _).mono ?_); rintro e w2 ⟨rfl, rfl⟩))
    go_ret
    exact ⟨rfl, rfl⟩
  | true =>
    cases b with
    | false =>
      go_enter Tryz.func244, Tryz.ntmps244
      go_wp2_with (first
        | (go_at_call 248; (with_reducible refine (HC _).mono ?_); rintro e w2 ⟨rfl, rfl⟩)
        | (go_at_call 249; (with_reducible refine (HS _).mono ?_); rintro e w2 ⟨rfl, rfl⟩))
      go_ret
      exact ⟨rfl, rfl⟩
    | true =>
      rw [Bool.true_and, Bool.true_and]
      by_cases h1 : 2 ≤ m
      · rw [decide_eq_true h1, Bool.true_and]
        have h1' : (2 : Int) ≤ (m : Int) := by omega
        by_cases h2 : m ≤ 45
        · rw [decide_eq_true h2, Bool.true_and]
          have h2' : (m : Int) ≤ 45 := by omega
          go_enter Tryz.func244, Tryz.ntmps244
          go_wp2_with (first
            | (go_at_call 248; (with_reducible refine (HC _).mono ?_); rintro e w2 ⟨rfl, rfl⟩)
            | (go_at_call 249; (with_reducible refine (HS _).mono ?_); rintro e w2 ⟨rfl, rfl⟩)
            | (go_at_call 250; (with_reducible refine (HA _).mono ?_); rintro e w2 ⟨rfl, rfl⟩))
          go_ret
          exact ⟨rfl, rfl⟩
        · rw [decide_eq_false h2, Bool.false_and]
          have h2' : ¬ (m : Int) ≤ 45 := by omega
          go_enter Tryz.func244, Tryz.ntmps244
          go_wp2_with (first
            | (go_at_call 248; (with_reducible refine (HC _).mono ?_); rintro e w2 ⟨rfl, rfl⟩)
            | (go_at_call 249; (with_reducible refine (HS _).mono ?_); rintro e w2 ⟨rfl, rfl⟩))
          go_ret
          exact ⟨rfl, rfl⟩
      · rw [decide_eq_false h1, Bool.false_and]
        have h1' : ¬ (2 : Int) ≤ (m : Int) := by omega
        go_enter Tryz.func244, Tryz.ntmps244
        go_wp2_with (first
          | (go_at_call 248; (with_reducible refine (HC _).mono ?_); rintro e w2 ⟨rfl, rfl⟩)
          | (go_at_call 249; (with_reducible refine (HS _).mono ?_); rintro e w2 ⟨rfl, rfl⟩))
        go_ret
        exact ⟨rfl, rfl⟩
set_option maxRecDepth 100000 in
theorem isNameC (l : List UInt8) (n : Nat) (w : World) (hl : l.length = n) (hm : n ≤ 1000000000000) :
    Calls Tryz.prog 245 #[.string (str l)] w fun e w' => e = .returned (.bool ((splitL l 46).all labelB)) ∧ Below w.heap.size w w' := by
  have HS := fun w => splitDotC l n w hl hm
  unfold GivesStrs at HS
  have hle := fun k hk => part_le l 46 k hk
  have hNn := splitL_le l 46
  rw [hl] at hle hNn
  generalize splitL l 46 = P at *
  obtain ⟨N, hN⟩ : ∃ N, P.length = N := ⟨_, rfl⟩
  rw [hN] at HS hle hNn
  have HP := Lib.hid hN
  have HR : Hid (∀ k, k < N → labelB (P.getD k []) = false → P.all labelB = false) := fun k hk h => all_no' (by rw [HP.out]; exact hk) h
  have HY : Hid ((∀ j, j < N → labelB (P.getD j []) = true) → P.all labelB = true) := fun h => all_yes' (by rw [HP.out]; exact h)
  generalize P.all labelB = R at *
  clear hN hl
  go_enter Tryz.func245, Tryz.ntmps245
  go_wp2_with (go_at_call 246; (with_reducible refine (HS _).mono ?_); rintro e w1 ⟨a1, c1, rfl, ho1, hx1⟩)
  have r1 := ho1.reads
  clear HS ho1
  go_loopw [8] (fun i wr => ∃ k : Nat, k ≤ N ∧ i = .int .i64 (k : Int) ∧ Hid (∀ j, j < k → labelB (P.getD j []) = true) ∧ Below w1.heap.size w1 wr) (fun i _ => N - (intOf i).toNat)
  case atStart => exact ⟨0, Nat.zero_le _, rfl, fun j hj => absurd hj (by omega), Below.refl _ _⟩
  case round =>
    obtain ⟨k, hk, rfl, H, hbr⟩ := hrel
    have hb := hx1.trans (hbr.mono hx1.size)
    by_cases hlt : k < N
    · have hlt' : (k : Int) < (N : Int) := by omega
      obtain ⟨g, off, rfl, hc⟩ := str_at (r1.below' hbr) k (by rw [HP.out]; exact hlt)
      have hlk := hle k hlt
      have HN := Lib.hid (fun (hp : labelB (P.getD k []) = true) => (fun j hj => by
        rcases Nat.lt_succ_iff_lt_or_eq.1 hj with h | rfl
        · exact H.out j h
        · exact hp : ∀ j, j < k + 1 → labelB (P.getD j []) = true))
      have HF := Lib.hid (HR.out k hlt)
      have HC := fun w => isLabelC (P.getD k []) _ w rfl (by unfold maxLen; omega)
      clear hle
      generalize labelB (P.getD k []) = t at *
      generalize P.getD k [] = x at hc HC
      cases t
      · have HF2 := Lib.hid (HF.out rfl)
        clear HN HF
        go_wp2_with (go_at_call 251; (with_reducible refine (HC _).mono ?_); rintro e w2 ⟨rfl, rfl⟩)
        go_ret
        exact ⟨by rw [HF2.out]; rfl, hb⟩
      · have HN2 := Lib.hid (HN.out rfl)
        clear HN HF
        go_wp2_with (go_at_call 251; (with_reducible refine (HC _).mono ?_); rintro e w2 ⟨rfl, rfl⟩)
        go_roundw
        case rel => exact ⟨k + 1, by omega, by go_num, HN2.out, hbr⟩
        case measure => simp [intOf]; omega
    · obtain rfl : k = N := by omega
      have HE := Lib.hid (HY.out H.out)
      clear hle
      go_wp2
      go_ret
      exact ⟨by rw [HE.out]; rfl, hb⟩
set_option maxRecDepth 100000 in
theorem kindOfC (l : List UInt8) (n : Nat) (w : World) (hl : l.length = n) (hm : n ≤ maxLen) (hT : PTab Tryz.prog w) :
    Calls Tryz.prog 240 #[.string (str l)] w fun e w' => e = .returned (.int .i64 (kindN l : Int)) ∧ Below w.heap.size w w' := by
  have hb := Below.refl w.heap.size w
  have hsz : (str l).size = n := by rw [str_size, hl]
  unfold kindN addrB
  rw [hl]
  by_cases h : 256 < n
  · rw [if_pos h]
    have h' : (256 : Int) < (n : Int) := by omega
    clear hl
    go_enter Tryz.func240, Tryz.ntmps240
    go_wp2
    go_ret
    exact ⟨rfl, hb⟩
  · rw [if_neg h]
    have h' : ¬ (256 : Int) < (n : Int) := by omega
    have HF := fun w (h : PTab Tryz.prog w) => isFourC l n w hl (by omega) h
    have HB := fun w => isBracketedC l n w hl hm
    have HN := fun w => isNameC l n w hl (by omega)
    generalize quadB l = q at *
    generalize bracketB l = b at *
    generalize (splitL l 46).all labelB = m at *
    clear hl
    cases q <;> cases b <;> cases m
    all_goals (
      go_enter Tryz.func240, Tryz.ntmps240
      go_wp2_with (first
        | (go_at_call 243; (with_reducible refine (HF _ (hT.below hb)).mono ?_); rintro e w1 ⟨rfl, hx⟩; have hb := hb.trans (hx.mono hb.size); clear hx)
        | (go_at_call 244; (with_reducible refine (HB _).mono ?_); rintro e w1 ⟨rfl, rfl⟩)
        | (go_at_call 245; (with_reducible refine (HN _).mono ?_); rintro e w1 ⟨rfl, hx⟩; have hb := hb.trans (hx.mono hb.size); clear hx))
      go_ret
      exact ⟨rfl, hb⟩)
theorem kind_cases (l : List UInt8) : (kindN l = 0 ∧ canonB l = false ∧ nameB l = false ∧ addrB l = false) ∨ (kindN l = 1 ∧ canonB l = true ∧ nameB l = true ∧ addrB l = false) ∨ (kindN l = 2 ∧ canonB l = true ∧ nameB l = false ∧ addrB l = true) := by
  have h0 := kind_zero l
  have h1 := kind_one l
  have h2 := kind_two l
  rw [← h1, ← h2]
  have h3 := kind_le l
  generalize kindN l = k at *
  rcases (show k = 0 ∨ k = 1 ∨ k = 2 by omega) with rfl | rfl | rfl
  · refine .inl ⟨rfl, ?_, rfl, rfl⟩
    cases c : canonB l with
    | false => rfl
    | true => rw [c] at h0; cases h0
  · refine .inr (.inl ⟨rfl, ?_, rfl, rfl⟩)
    cases c : canonB l with
    | true => rfl
    | false => rw [c] at h0; cases h0
  · refine .inr (.inr ⟨rfl, ?_, rfl, rfl⟩)
    cases c : canonB l with
    | true => rfl
    | false => rw [c] at h0; cases h0
theorem canon_len {l : List UInt8} (h : canonB l = true) : l.length ≤ 256 := by
  unfold canonB at h
  rw [Bool.and_eq_true, decide_eq_true_iff] at h
  exact h.1
def CanonIs (l : List UInt8) (w : World) (e : Ending) (w' : World) : Prop :=
  e = .returned (if 256 < l.length then .tuple #[.string (str []), .int .i64 3] else if canonB (l.map low) = true then .tuple #[.string (str (l.map low)), .int .i64 0] else .tuple #[.string (str []), .int .i64 1]) ∧ Below w.heap.size w w'
set_option maxRecDepth 100000 in
theorem canonC (l : List UInt8) (n : Nat) (w : World) (hl : l.length = n) (hm : n ≤ maxLen) (hT : PTab Tryz.prog w) :
    Calls Tryz.prog 230 #[.string (str l)] w (CanonIs l w) := by
  have hb := Below.refl w.heap.size w
  have hsz : (str l).size = n := by rw [str_size, hl]
  unfold CanonIs
  rw [hl]
  have HL := fun w => lowerC l n w hl hm
  unfold GivesStr at HL
  have HK := fun w (h : PTab Tryz.prog w) => kindOfC (l.map low) n w (by rw [List.length_map]; exact hl) hm h
  clear hl
  by_cases h : 256 < n
  · rw [if_pos h]
    have h' : (256 : Int) < (n : Int) := by omega
    go_enter Tryz.func230, Tryz.ntmps230
    go_wp2
    go_ret2
    exact ⟨rfl, hb⟩
  · rw [if_neg h]
    have h' : ¬ (256 : Int) < (n : Int) := by omega
    have hc := kind_cases (l.map low)
    generalize l.map low = x at *
    rcases hc with ⟨k, c, -, -⟩ | ⟨k, c, -, -⟩ | ⟨k, c, -, -⟩
    all_goals (
      rw [k] at HK
      rw [c]
      clear k c
      go_enter Tryz.func230, Tryz.ntmps230
      go_wp2_with (first
        | (go_at_call 239; (with_reducible refine (HL _).mono ?_); rintro e w1 ⟨rfl, hx⟩; have hb := hb.trans (hx.mono hb.size); clear hx)
        | (go_at_call 240; (with_reducible refine (HK _ (hT.below hb)).mono ?_); rintro e w1 ⟨rfl, hx⟩; have hb := hb.trans (hx.mono hb.size); clear hx))
      go_ret2
      exact ⟨rfl, hb⟩)
def sameI (x y : ItemL) : Bool := x.name == y.name && (x.dom == y.dom && (x.path == y.path && (x.val == y.val && (x.host == y.host && (x.sec == y.sec && (x.http == y.http && (x.pers == y.pers && (x.exp == y.exp && (x.made == y.made && (x.used == y.used))))))))))
theorem sameI_iff {x y : ItemL} : sameI x y = true ↔ x = y := by
  unfold sameI
  simp only [Bool.and_eq_true, beq_iff_eq]
  constructor
  · rintro ⟨h1, h2, h3, h4, h5, h6, h7, h8, h9, h10, h11⟩
    cases x; cases y
    simp only at h1 h2 h3 h4 h5 h6 h7 h8 h9 h10 h11
    subst h1 h2 h3 h4 h5 h6 h7 h8 h9 h10 h11
    rfl
  · rintro rfl
    exact ⟨rfl, rfl, rfl, rfl, rfl, rfl, rfl, rfl, rfl, rfl, rfl⟩
set_option maxHeartbeats 4000000 in
theorem eqItem2 (x y : ItemL) (w : World) :
    Sem.run Tryz.prog (Op.equalIn 10000 156 (.agg #[.string (str x.name), .string (str x.dom), .string (str x.path), .string (str x.val), .bool x.host, .bool x.sec, .bool x.http, .bool x.pers, .int .i64 x.exp, .int .i64 x.made, .int .i64 x.used]) (.agg #[.string (str y.name), .string (str y.dom), .string (str y.path), .string (str y.val), .bool y.host, .bool y.sec, .bool y.http, .bool y.pers, .int .i64 y.exp, .int .i64 y.made, .int .i64 y.used])) w = Result.ok (sameI x y) w := by
  have hk := str_toList
  unfold sameI
  cases h0 : (x.name == y.name) with
  | false => simp [go_sem, hk, h0]
  | true =>
  cases h1 : (x.dom == y.dom) with
  | false => simp [go_sem, hk, h0, h1]
  | true =>
  cases h2 : (x.path == y.path) with
  | false => simp [go_sem, hk, h0, h1, h2]
  | true =>
  cases h3 : (x.val == y.val) with
  | false => simp [go_sem, hk, h0, h1, h2, h3]
  | true =>
  cases h4 : (x.host == y.host) with
  | false => simp [go_sem, hk, h0, h1, h2, h3, h4]
  | true =>
  cases h5 : (x.sec == y.sec) with
  | false => simp [go_sem, hk, h0, h1, h2, h3, h4, h5]
  | true =>
  cases h6 : (x.http == y.http) with
  | false => simp [go_sem, hk, h0, h1, h2, h3, h4, h5, h6]
  | true =>
  cases h7 : (x.pers == y.pers) with
  | false => simp [go_sem, hk, h0, h1, h2, h3, h4, h5, h6, h7]
  | true =>
  cases h8 : (x.exp == y.exp) with
  | false => simp [go_sem, hk, h0, h1, h2, h3, h4, h5, h6, h7, h8]
  | true =>
  cases h9 : (x.made == y.made) with
  | false => simp [go_sem, hk, h0, h1, h2, h3, h4, h5, h6, h7, h8, h9]
  | true =>
  cases h10 : (x.used == y.used) with
  | false => simp [go_sem, hk, h0, h1, h2, h3, h4, h5, h6, h7, h8, h9, h10]
  | true =>
  simp [go_sem, hk, h0, h1, h2, h3, h4, h5, h6, h7, h8, h9, h10]
theorem Keeps.ofGrownBy {w w' : World} {row : Option Nat} (h : w.grownBy w' row) : Keeps (fun k => row = some k) w w' :=
  ⟨h.os, h.tape, h.output, h.size, fun k hk hF => h.block k hk fun e => hF e.symm⟩
theorem Keeps.grownBy {F : Nat → Prop} {w w' : World} (h : Keeps F w w') {b : Nat} (hb : ¬ F b) : ∀ {H : Type} {P : Program} {k : TypeId} {R : Value → Option (DataW H × List MemPlace)} {n : Nat} {D : DataW H}, w.ownsMap P k R b n D → w'.ownsMap P k R b n D := by
  intro H P k R n D hm
  obtain ⟨es, clock, h1, h2⟩ := hm
  exact ⟨es, clock, (h.block b (Array.getElem?_eq_some_iff.1 h1).1 hb).trans h1, h2⟩
def NumAt (D : DataW Unit) (kl : Lit) (c : Int) : Prop := D.atKey kl (.lit (.int .i64 0)) = .lit (.int .i64 c)
theorem NumAt.one {D : DataW Unit} {kl : Lit} {a b : Int} (h : NumAt D kl a) (h2 : NumAt D kl b) : a = b := by
  unfold NumAt at *
  rw [h] at h2
  simpa using h2
theorem NumAt.empty (kl : Lit) : NumAt (.map []) kl 0 := rfl
theorem NumAt.put {D : DataW Unit} {kl : Lit} (hD : Go.Maps.IsMap D) (hk : WideAt.IsKeyLit kl) (c : Int) : NumAt (D.put kl (.lit (.int .i64 c))) kl c := Go.Maps.atKey_put_same hD hk _ _
theorem NumAt.other {D : DataW Unit} {kl kl' : Lit} {c : Int} (h : NumAt D kl' c) (hne : kl' ≠ kl) (d : DataW Unit) : NumAt (D.put kl d) kl' c := (Go.Maps.atKey_put_other hne _ _).trans h
end Go.Proofs.YtaodjnkjjmhecaaGreatDoor
namespace Go.Proofs.YtaodjnkjjmhecaaGreatDoor
open Go.ChangeShapes Go.WideShapes Go.ChangeAt Go.RowKit
set_option linter.unusedVariables false
instance : Inhabited DotN := ⟨⟨0, 0, 0⟩⟩
theorem wf_is64 {n : Int} (h : (Lit.int .i64 n).wf = true) : is64 n := by
  have h2 : IntKind.i64.min ≤ n ∧ n ≤ IntKind.i64.max := by simpa [Lit.wf] using h
  exact h2
theorem leaves_dot {l : List Value} (q0 : leavesOk [.num .i64, .num .i64, .num .i64] l) : ∃ x : DotN, l = encD x ∧ FitD x := by
  obtain ⟨v0, l0, e0, ⟨a, rfl, z0⟩, q1⟩ := leaves_cons q0
  obtain ⟨v1, l1, e1, ⟨b, rfl, z1⟩, q2⟩ := leaves_cons q1
  obtain ⟨v2, l2, e2, ⟨c, rfl, z2⟩, q3⟩ := leaves_cons q2
  have e3 := leaves_nil q3
  subst e3 e2 e1 e0
  exact ⟨⟨a, b, c⟩, rfl, wf_is64 z0, wf_is64 z1, wf_is64 z2⟩
end Go.Proofs.YtaodjnkjjmhecaaGreatDoor
namespace Go.Proofs.YtaodjnkjjmhecaaGreatDoor
open Go.RowKit Go.WideMaps
set_option linter.unusedVariables false
theorem laidOutK : laidOutB Tryz.prog = true := by kernel_rfl
theorem lawDot : KeyLaw Tryz.prog 35 := deep_law_laid laidOutK (m := 4) (by omega) (of_decide_eq_true (by kernel_rfl)) (by kernel_rfl) (by kernel_rfl)
theorem keyedDot : Go.Maps.Keyed Tryz.prog 35 := Go.Maps.Keyed.of_law lawDot
def keyD (x : DotN) : Lit := .string (keyBytes [.int .i64 x.dev, .int .i64 x.inc, .int .i64 x.seq])
theorem fit_wf {n : Int} (h : is64 n) : (Lit.int .i64 n).wf = true := by
  have h2 : IntKind.i64.min ≤ n ∧ n ≤ IntKind.i64.max := h
  simp only [Lit.wf, Bool.and_eq_true, decide_eq_true_eq]
  exact h2
set_option maxRecDepth 100000 in
theorem key_dot {x : DotN} (hx : FitD x) : keyOf Tryz.prog 35 (.agg #[.int .i64 x.dev, .int .i64 x.inc, .int .i64 x.seq]) = some (keyD x) := by
  have w1 := fit_wf hx.dev
  have w2 := fit_wf hx.inc
  have w3 := fit_wf hx.seq
  have hk : Tryz.prog.keyType 35 = true := by kernel_rfl
  obtain ⟨m, hm⟩ : ∃ m, Tryz.prog.types.size = m + 2 := ⟨Tryz.prog.types.size - 2, by kernel_rfl⟩
  have hc : Tryz.prog.cellsOf 35 = 3 := by kernel_rfl
  have hc2 : Tryz.prog.cellsOf 33 = 2 := by kernel_rfl
  have hc3 : Tryz.prog.cellsOf 3 = 1 := by kernel_rfl
  have hf : (Value.agg #[.int .i64 x.dev, .int .i64 x.inc, .int .i64 x.seq]).formed Tryz.prog 35 = true := by simp [Value.formed, Tryz.underlying35, hc]
  have hl : Tryz.prog.keyLits (Tryz.prog.types.size + 1) 35 [.int .i64 x.dev, .int .i64 x.inc, .int .i64 x.seq] = some [.int .i64 x.dev, .int .i64 x.inc, .int .i64 x.seq] := by
    rw [hm]
    simp [Program.keyLits, Tryz.underlying35, Tryz.underlying33, Tryz.underlying3, hc, hc2, hc3, w1, w2, w3]
    rw [if_pos (by decide)]
    rfl
  unfold keyOf
  rw [Tryz.underlying35]
  simp only [hk, hf]
  show Option.map _ (Tryz.prog.keyLits _ _ [.int .i64 x.dev, .int .i64 x.inc, .int .i64 x.seq]) = _
  rw [hl]
  rfl
theorem keyD_inj {x y : DotN} (hx : FitD x) (hy : FitD y) (h : keyD x = keyD y) : x = y := by
  have e := keyedDot.inj (key_dot hx) (h ▸ key_dot hy)
  simp only [Value.agg.injEq, Array.mk.injEq, List.cons.injEq, Value.int.injEq, true_and, and_true] at e
  exact DotN.ext' e.1 e.2.1 e.2.2
end Go.Proofs.YtaodjnkjjmhecaaGreatDoor
namespace Go.Proofs.YtaodjnkjjmhecaaGreatDoor
open Go.RowKit
set_option linter.unusedVariables false
theorem ordV_most : ∀ (l : List DotN) (lo : Int), OrdV l → (∀ x ∈ l, rightD x = true) → (∀ x ∈ l, lo ≤ x.dev * 1048576 + x.inc - 1) → lo ≤ 67108864 → lo + (l.length : Int) ≤ 67108864
  | [], lo, _, _, _, h => by simpa using h
  | x :: t, lo, ho, hr, hl, h => by
    obtain ⟨h1, h2⟩ := List.pairwise_cons.1 ho
    have hx := right_range (hr x (List.mem_cons_self ..))
    have hlx := hl x (List.mem_cons_self ..)
    have := ordV_most t (x.dev * 1048576 + x.inc) h2 (fun y hy => hr y (List.mem_cons_of_mem _ hy)) (fun y hy => by
      have a := h1 y hy
      have hy := right_range (hr y (List.mem_cons_of_mem _ hy))
      rw [aheadD_iff] at a
      omega) (by omega)
    rw [List.length_cons]
    omega
theorem OkV.most {l : List DotN} (h : OkV l) : l.length ≤ 67108864 := by
  have := ordV_most l 0 h.ord h.right (fun x hx => by have := right_range (h.right x hx); omega) (by omega)
  omega
theorem set_count {l : List DotN} (h : OkV l) (x : DotN) : l.length + (if getV l x.dev x.inc = 0 then 1 else 0) ≤ (setV l x).length := by
  rw [set_is h.ord]
  have key : ∀ (l : List DotN), OkV l → l.length + (if getV l x.dev x.inc = 0 then 1 else 0) ≤ (l.filter (fun y => aheadD y x)).length + (l.filter (fun y => aheadD x y)).length + 1 := by
    intro l
    induction l with
    | nil => intro _; simp [getV]
    | cons y t ih =>
      intro h
      obtain ⟨h1, h2⟩ := List.pairwise_cons.1 h.ord
      have hy := right_range (h.right y (List.mem_cons_self ..))
      have := ih ⟨h2, fun z hz => h.right z (List.mem_cons_of_mem _ hz)⟩
      unfold getV
      by_cases c : y.dev = x.dev ∧ y.inc = x.inc
      · have e : getV t x.dev x.inc = 0 := getV_none fun z hz c2 => by
          have := h1 z hz
          rw [aheadD_iff] at this
          omega
        have a1 : aheadD y x = false := by rw [aheadD_no]; omega
        have a2 : aheadD x y = false := by rw [aheadD_no]; omega
        rw [if_pos c, if_neg (by omega), List.filter_cons_of_neg (by simp [a1]), List.filter_cons_of_neg (by simp [a2]), List.length_cons]
        rw [e, if_pos rfl] at this
        omega
      · rw [if_neg c, List.length_cons]
        by_cases a1 : aheadD y x = true
        · have e1 : (y :: t).filter (fun y => aheadD y x) = y :: t.filter (fun y => aheadD y x) := List.filter_cons_of_pos a1
          have : (t.filter (fun y => aheadD x y)).length ≤ ((y :: t).filter (fun y => aheadD x y)).length := by
            rw [List.filter_cons]; split
            · exact Nat.le_succ _
            · exact Nat.le_refl _
          rw [e1, List.length_cons]
          omega
        · have a2 : aheadD x y = true := by
            rw [Bool.not_eq_true, aheadD_no] at a1
            rw [aheadD_iff]
            omega
          have e1 : (y :: t).filter (fun y => aheadD y x) = t.filter (fun y => aheadD y x) := List.filter_cons_of_neg (by simpa using a1)
          have e2 : (y :: t).filter (fun y => aheadD x y) = y :: t.filter (fun y => aheadD x y) := List.filter_cons_of_pos a2
          rw [e1, e2, List.length_cons]
          omega
  have := key l h
  rw [List.length_append, List.length_cons]
  omega
theorem join_le {l R : List DotN} : OkV l → OkV (joinV l R) ∧ ∀ n d i, n ≤ getV (joinV l R) d i ↔ n ≤ getV l d i ∨ ∃ x ∈ R, rightD x = true ∧ x.dev = d ∧ x.inc = i ∧ n ≤ x.seq := by
  induction R generalizing l with
  | nil => exact fun h => ⟨h, fun n d i => by simp [joinV]⟩
  | cons y t ih =>
    intro h
    obtain ⟨h1, h2⟩ := ih (raise_ok h y)
    have e : joinV l (y :: t) = joinV (raiseV l y).1 t := rfl
    rw [e]
    refine ⟨h1, fun n d i => ?_⟩
    rw [h2]
    have hr : n ≤ getV (raiseV l y).1 d i ↔ n ≤ getV l d i ∨ (rightD y = true ∧ y.dev = d ∧ y.inc = i ∧ n ≤ y.seq) := by
      by_cases c : rightD y = true
      · rw [getV_raise h c]
        split
        · rename_i q
          simp only [c, q.1, q.2, true_and]
          omega
        · rename_i q
          constructor
          · exact .inl
          · rintro (a | ⟨_, b1, b2, _⟩)
            · exact a
            · exact absurd ⟨b1, b2⟩ q
      · have e2 : raiseV l y = (l, false) := by unfold raiseV; rw [if_neg (fun c2 => c c2.1)]
        rw [e2]
        simp [c]
    rw [hr]
    constructor
    · rintro ((a | a) | ⟨x, hx, a⟩)
      · exact .inl a
      · exact .inr ⟨y, List.mem_cons_self .., a⟩
      · exact .inr ⟨x, List.mem_cons_of_mem _ hx, a⟩
    · rintro (a | ⟨x, hx, a⟩)
      · exact .inl (.inl a)
      · rcases List.mem_cons.1 hx with rfl | hx
        · exact .inl (.inr a)
        · exact .inr ⟨x, hx, a⟩
theorem join_any {l R m : List DotN} (h : OkV l) (hp : ∀ x, x ∈ R ↔ x ∈ m) : joinV l R = joinV l m := by
  obtain ⟨h1, h2⟩ := join_le (R := R) h
  obtain ⟨h3, h4⟩ := join_le (R := m) h
  refine okV_ext h1 h3 fun d i => ?_
  have key : ∀ n, n ≤ getV (joinV l R) d i ↔ n ≤ getV (joinV l m) d i := fun n => by rw [h2, h4]; simp only [hp]
  have a := (key _).1 (Int.le_refl _)
  have b := (key _).2 (Int.le_refl _)
  omega
theorem join_nil {l : List DotN} (h : OkV l) : joinV [] l = l := by
  obtain ⟨h1, h2⟩ := join_all nil_ok h
  refine okV_ext h1 h fun d i => ?_
  rw [h2]
  have := getV_range h d i
  show max 0 _ = _
  omega
theorem joinV_snoc (l R : List DotN) (x : DotN) : joinV l (R ++ [x]) = (raiseV (joinV l R) x).1 := by unfold joinV; rw [List.foldl_append]; rfl
end Go.Proofs.YtaodjnkjjmhecaaGreatDoor
namespace Go.Proofs.YtaodjnkjjmhecaaGreatDoor
set_option linter.unusedVariables false
theorem filter_out {E : List DotN} (hE : E.Nodup) {y : DotN} (hy : y ∈ E) : (E.filter fun z => !sameD z y).length + 1 = E.length := by
  induction E with
  | nil => cases hy
  | cons z t ih =>
    rw [List.nodup_cons] at hE
    by_cases e : z = y
    · subst e
      have h1 : (!sameD z z) = false := by rw [sameD_iff.2 rfl]; rfl
      rw [List.filter_cons_of_neg (p := fun a => !sameD a z) (by rw [h1]; decide), List.length_cons, List.filter_eq_self.2]
      intro a ha
      have : sameD a z = false := Bool.eq_false_iff.2 fun c => hE.1 (sameD_iff.1 c ▸ ha)
      rw [this]
      rfl
    · have h1 : (!sameD z y) = true := by rw [Bool.eq_false_iff.2 fun c => e (sameD_iff.1 c)]; rfl
      rw [List.filter_cons_of_pos (p := fun z => !sameD z y) h1, List.length_cons, List.length_cons, ih hE.2 (by
        rcases List.mem_cons.1 hy with c | c
        · exact absurd c.symm e
        · exact c)]
end Go.Proofs.YtaodjnkjjmhecaaGreatDoor
namespace Go.Proofs.YtaodjnkjjmhecaaGreatDoor
open Go.RowKit
set_option linter.unusedVariables false
abbrev KeyT := List UInt8 × List UInt8 × List UInt8
def kOf (x : ItemL) : KeyT := (x.name, x.dom, x.path)
def aliveB (D : List DotN) (e : EventN) : Bool := e.kind == 1 && !hasD D e.dot
def dotsK (K : List EventN) (D : List DotN) (k : KeyT) : List DotN := (K.filter fun e => aliveB D e && decide (kOf e.item = k)).map (·.dot)
theorem mem_dotsK {K : List EventN} {D : List DotN} {k : KeyT} {d : DotN} : d ∈ dotsK K D k ↔ ∃ e ∈ K, e.dot = d ∧ aliveB D e = true ∧ kOf e.item = k := by
  unfold dotsK
  rw [List.mem_map]
  constructor
  · rintro ⟨e, he, rfl⟩
    obtain ⟨h1, h2⟩ := List.mem_filter.1 he
    rw [Bool.and_eq_true, decide_eq_true_eq] at h2
    exact ⟨e, h1, rfl, h2.1, h2.2⟩
  · rintro ⟨e, h1, rfl, h2, h3⟩
    exact ⟨e, List.mem_filter.2 ⟨h1, by rw [h2, decide_eq_true h3]; rfl⟩, rfl⟩
theorem sortedE_dots {K : List EventN} (h : SortedE K) : SortedD (K.map (·.dot)) := List.pairwise_map.2 h
theorem dotsK_sorted {K : List EventN} (h : SortedE K) (D : List DotN) (k : KeyT) : SortedD (dotsK K D k) :=
  List.pairwise_map.2 (List.Pairwise.sublist List.filter_sublist h)
theorem sortedD_nodup {l : List DotN} (h : SortedD l) : l.Nodup := List.Pairwise.imp (fun {x y} hxy e => by subst e; rw [lessD_irrefl] at hxy; cases hxy) h
theorem dotsK_nodup {K : List EventN} (h : SortedE K) (D : List DotN) (k : KeyT) : (dotsK K D k).Nodup := sortedD_nodup (dotsK_sorted h D k)
theorem dotsK_few (K : List EventN) (D : List DotN) (k : KeyT) : (dotsK K D k).length ≤ K.length := by
  unfold dotsK
  rw [List.length_map]
  exact List.length_filter_le _ _
theorem insE_perm (K : List EventN) (e : EventN) : (insE K e).Perm (e :: K) := by
  unfold insE
  refine List.perm_middle.trans ?_
  rw [List.take_append_drop]
theorem dotsK_put (K : List EventN) (D : List DotN) (e : EventN) (k : KeyT) : (dotsK (insE K e) D k).Perm (if aliveB D e = true ∧ kOf e.item = k then e.dot :: dotsK K D k else dotsK K D k) := by
  unfold dotsK
  have h := ((insE_perm K e).filter fun e => aliveB D e && decide (kOf e.item = k)).map (·.dot)
  rw [List.filter_cons] at h
  by_cases c : aliveB D e = true ∧ kOf e.item = k
  · rw [if_pos c]
    rw [if_pos (by rw [c.1, decide_eq_true c.2]; rfl), List.map_cons] at h
    exact h
  · rw [if_neg c]
    rw [if_neg (by rw [Bool.and_eq_true, decide_eq_true_eq]; exact c)] at h
    exact h
theorem dotsK_kill (K : List EventN) {D D' : List DotN} {d : DotN} (hD : ∀ y, hasD D' y = (hasD D y || sameD y d)) (k : KeyT) : dotsK K D' k = (dotsK K D k).filter fun y => !sameD y d := by
  unfold dotsK
  induction K with
  | nil => rfl
  | cons e t ih =>
    rw [List.filter_cons, List.filter_cons]
    have h1 : aliveB D' e = (aliveB D e && !sameD e.dot d) := by
      unfold aliveB
      rw [hD]
      cases e.kind == 1 <;> cases hasD D e.dot <;> cases sameD e.dot d <;> rfl
    rw [h1]
    cases h2 : aliveB D e with
    | false => simpa using ih
    | true =>
      cases h3 : decide (kOf e.item = k) with
      | false => simpa using ih
      | true =>
        cases h4 : sameD e.dot d with
        | true =>
          simp only [Bool.not_true, Bool.and_false, Bool.false_and, Bool.false_eq_true, if_false, Bool.and_self, if_true, List.map_cons, List.filter_cons, h4]
          exact ih
        | false =>
          simp only [Bool.not_false, Bool.and_self, if_true, List.map_cons, List.filter_cons, h4]
          rw [ih]
theorem dotsK_out {K : List EventN} {D : List DotN} {d : DotN} {k : KeyT} (h : d ∉ dotsK K D k) : (dotsK K D k).filter (fun y => !sameD y d) = dotsK K D k :=
  List.filter_eq_self.2 fun y hy => by
    rw [Bool.not_eq_true', Bool.eq_false_iff]
    intro c
    exact h (sameD_iff.1 c ▸ hy)
theorem out_hasD (E : List DotN) (x y : DotN) : hasD (E.filter fun z => !sameD z x) y = (hasD E y && !sameD y x) := by
  rw [Bool.eq_iff_iff, hasD_iff, List.mem_filter, Bool.and_eq_true, hasD_iff]
structure SetD (D : DataW Unit) (E : List DotN) : Prop where
  size : Go.Maps.size D = E.length
  has : ∀ x, FitD x → Go.Maps.has D (keyD x) = hasD E x
theorem SetD.empty : SetD (.map []) [] := ⟨rfl, fun _ _ => rfl⟩
theorem hasD_same {E E' : List DotN} (h : ∀ x, x ∈ E ↔ x ∈ E') (x : DotN) : hasD E x = hasD E' x := by
  rw [Bool.eq_iff_iff, hasD_iff, hasD_iff]
  exact h x
theorem SetD.perm {D : DataW Unit} {E E' : List DotN} (h : SetD D E) (hp : E.Perm E') : SetD D E' :=
  ⟨h.size.trans hp.length_eq, fun x hx => (h.has x hx).trans (hasD_same (fun y => hp.mem_iff) x)⟩
theorem SetD.put {D : DataW Unit} {E : List DotN} (h : SetD D E) (hT : Go.Maps.Tidy D) {x : DotN} (hx : FitD x) (hn : x ∉ E) : SetD (D.put (keyD x) (.agg [])) (x :: E) := by
  refine ⟨?_, fun y hy => ?_⟩
  · rw [Go.Maps.size_put hT, h.has x hx, hasD_no.2 hn, if_neg (by decide), h.size, List.length_cons]
  · by_cases e : y = x
    · subst e
      rw [Go.Maps.has_put_same hT.isMap (keyedDot.key (key_dot hy)), hasD_iff.2 List.mem_cons_self]
    · rw [Go.Maps.has_put_other (fun c => e (keyD_inj hy hx c)), h.has y hy, Bool.eq_iff_iff, hasD_iff, hasD_iff, List.mem_cons]
      exact ⟨.inr, fun c => c.resolve_left e⟩
theorem SetD.again {D : DataW Unit} {E : List DotN} (h : SetD D E) (hT : Go.Maps.Tidy D) {x : DotN} (hx : FitD x) (hm : x ∈ E) : SetD (D.put (keyD x) (.agg [])) E := by
  refine ⟨?_, fun y hy => ?_⟩
  · rw [Go.Maps.size_put hT, h.has x hx, hasD_iff.2 hm, if_pos rfl, h.size]
  · by_cases e : y = x
    · subst e
      rw [Go.Maps.has_put_same hT.isMap (keyedDot.key (key_dot hy)), hasD_iff.2 hm]
    · rw [Go.Maps.has_put_other (fun c => e (keyD_inj hy hx c)), h.has y hy]
theorem SetD.del {D : DataW Unit} {E : List DotN} (h : SetD D E) (hT : Go.Maps.Tidy D) (hE : E.Nodup) {x : DotN} (hx : FitD x) : SetD (D.del (keyD x)) (E.filter fun z => !sameD z x) := by
  refine ⟨?_, fun y hy => ?_⟩
  · have h1 := Go.Maps.size_del (k := keyD x) hT
    rw [h.has x hx, h.size] at h1
    by_cases hm : x ∈ E
    · have h2 := filter_out hE hm
      rw [hasD_iff.2 hm, if_pos rfl] at h1
      omega
    · rw [hasD_no.2 hm, if_neg (by decide)] at h1
      rw [List.filter_eq_self.2 fun y hy => by
        rw [Bool.not_eq_true', Bool.eq_false_iff]
        intro c
        exact hm (sameD_iff.1 c ▸ hy)]
      omega
  · rw [out_hasD, ← h.has y hy]
    by_cases e : y = x
    · subst e
      rw [Go.Maps.has_del_same, sameD_iff.2 rfl, Bool.not_true, Bool.and_false]
    · rw [Go.Maps.has_del_other (fun c => e (keyD_inj hy hx c)), Bool.eq_false_iff.2 fun c => e (sameD_iff.1 c), Bool.not_false, Bool.and_true]
def lookR (rs : List EvR) (d : DotN) : Option EvR := rs.find? fun r => sameD r.e.dot d
theorem lookR_some {rs : List EvR} {d : DotN} {r : EvR} (h : lookR rs d = some r) : r ∈ rs ∧ r.e.dot = d :=
  ⟨List.mem_of_find?_eq_some h, sameD_iff.1 (List.find?_some (p := fun q : EvR => sameD q.e.dot d) h)⟩
theorem lookR_none {rs : List EvR} {d : DotN} (h : lookR rs d = none) : ∀ r ∈ rs, r.e.dot ≠ d := fun r hr c => by
  have := List.find?_eq_none.1 h r hr
  exact this (sameD_iff.2 c)
theorem lookR_mem {rs : List EvR} (hs : SortedE (rs.map (·.e))) {r : EvR} (hr : r ∈ rs) : lookR rs r.e.dot = some r := by
  cases h : lookR rs r.e.dot with
  | none => exact absurd rfl (lookR_none h r hr)
  | some q =>
    obtain ⟨h1, h2⟩ := lookR_some h
    have hn := sortedD_nodup (sortedE_dots hs)
    rw [List.map_map] at hn
    obtain ⟨i, hi, rfl⟩ := List.mem_iff_getElem.1 h1
    obtain ⟨j, hj, rfl⟩ := List.mem_iff_getElem.1 hr
    have e1 : (rs.map ((fun x : EventN => x.dot) ∘ fun x : EvR => x.e))[i]'(by simpa using hi) = (rs.map ((fun x : EventN => x.dot) ∘ fun x : EvR => x.e))[j]'(by simpa using hj) := by simpa using h2
    have := (List.getElem_inj hn).1 e1
    subst this
    rfl
structure KeptD (D : DataW Value) (rs : List EvR) : Prop where
  size : Go.Maps.size D = rs.length
  at_ : ∀ d, FitD d → HeldAt D (keyD d) ((lookR rs d).map fun r => .agg (encE r).toArray)
theorem KeptD.empty : KeptD (.map []) [] := ⟨rfl, fun _ _ => HeldAt.empty _⟩
theorem KeptD.put {D : DataW Value} {rs : List EvR} (h : KeptD D rs) (hT : Go.Maps.Tidy D) {r : EvR} (hx : FitD r.e.dot) (hn : ∀ q ∈ rs, q.e.dot ≠ r.e.dot) (hs : SortedE ((insR rs r).map (·.e))) : KeptD (D.put (keyD r.e.dot) (.held (.agg (encE r).toArray))) (insR rs r) := by
  have h0 := h.at_ _ hx
  have hno : lookR rs r.e.dot = none := by
    cases e : lookR rs r.e.dot with
    | none => rfl
    | some q => exact absurd (lookR_some e).2 (hn q (lookR_some e).1)
  rw [hno] at h0
  have hmem : ∀ q, q ∈ insR rs r ↔ q = r ∨ q ∈ rs := fun q => by
    unfold insR
    rw [List.mem_append, List.mem_cons]
    constructor
    · rintro (c | c | c)
      · exact .inr (List.mem_of_mem_take c)
      · exact .inl c
      · exact .inr (List.mem_of_mem_drop c)
    · rintro (c | c)
      · exact .inr (.inl c)
      · rw [← List.take_append_drop (frontR rs r.e.dot) rs, List.mem_append] at c
        exact c.imp id .inr
  refine ⟨?_, fun d hd => ?_⟩
  · have h1 := h0.has
    rw [Go.Maps.size_put hT, h1, if_neg (by simp), h.size, insR_len]
  · by_cases e : d = r.e.dot
    · subst e
      rw [lookR_mem hs ((hmem r).2 (.inl rfl))]
      exact HeldAt.put hT.isMap (keyedDot.key (key_dot hd)) _
    · have e1 : lookR (insR rs r) d = lookR rs d := by
        cases h1 : lookR (insR rs r) d with
        | none =>
          cases h2 : lookR rs d with
          | none => rfl
          | some q => exact absurd (lookR_some h2).2 (lookR_none h1 q ((hmem q).2 (.inr (lookR_some h2).1)))
        | some q =>
          obtain ⟨h3, h4⟩ := lookR_some h1
          rcases (hmem q).1 h3 with rfl | h5
          · exact absurd h4.symm e
          · cases h2 : lookR rs d with
            | none => exact absurd h4 (lookR_none h2 q h5)
            | some p =>
              obtain ⟨h6, h7⟩ := lookR_some h2
              have h8 := lookR_mem hs h3
              have h9 := lookR_mem hs ((hmem p).2 (.inr h6))
              rw [h4] at h8
              rw [h7] at h9
              rw [h8] at h9
              cases h9
              rfl
      rw [e1]
      exact (h.at_ d hd).other (fun c => e (keyD_inj hd hx c)) _
structure VecD (D : DataW Unit) (l : List DotN) : Prop where
  size : Go.Maps.size D ≤ l.length
  num : ∀ d i, is64 d → is64 i → NumAt D (keyA d i) (getV l d i)
  has : ∀ d i, is64 d → is64 i → Go.Maps.has D (keyA d i) = !(getV l d i == 0)
theorem VecD.empty : VecD (.map []) [] := ⟨Nat.le_refl _, fun _ _ _ _ => NumAt.empty _, fun _ _ _ _ => rfl⟩
theorem right_fit {x : DotN} (h : rightD x = true) : is64 x.dev ∧ is64 x.inc := by
  have := right_range h
  unfold is64
  omega
theorem VecD.put {D : DataW Unit} {l : List DotN} (h : VecD D l) (hD : Go.Maps.Tidy D) (hl : OkV l) {x : DotN} (hx : rightD x = true) : VecD (D.put (keyA x.dev x.inc) (.lit (.int .i64 x.seq))) (setV l x) := by
  obtain ⟨f1, f2⟩ := right_fit hx
  have hk := keyedActor.key (key_actor f1 f2)
  have hr := right_range hx
  refine ⟨?_, fun d i hd hi => ?_, fun d i hd hi => ?_⟩
  · rw [Go.Maps.size_put hD]
    have h1 := set_count hl x
    have h2 := h.size
    have h3 := h.has x.dev x.inc f1 f2
    by_cases c : getV l x.dev x.inc = 0
    · rw [if_pos c] at h1
      split <;> omega
    · have e : (getV l x.dev x.inc == 0) = false := by simpa using c
      rw [e] at h3
      rw [if_pos (by rw [h3]; rfl)]
      rw [if_neg c] at h1
      omega
  · rw [getV_set hl.ord]
    by_cases c : x.dev = d ∧ x.inc = i
    · obtain ⟨rfl, rfl⟩ := c
      rw [if_pos ⟨rfl, rfl⟩]
      exact NumAt.put hD.isMap hk _
    · rw [if_neg c]
      exact (h.num d i hd hi).other (fun e => c (keyA_inj f1 f2 hd hi e.symm)) _
  · rw [getV_set hl.ord]
    by_cases c : x.dev = d ∧ x.inc = i
    · obtain ⟨rfl, rfl⟩ := c
      rw [if_pos ⟨rfl, rfl⟩, Go.Maps.has_put_same hD.isMap hk]
      have : (x.seq == 0) = false := by
        rw [beq_eq_false_iff_ne]
        omega
      rw [this]
      rfl
    · rw [if_neg c, Go.Maps.has_put_other (fun e => c (keyA_inj f1 f2 hd hi e.symm))]
      exact h.has d i hd hi
structure MetV (l : List DotN) (left : Lit → Bool) (R : List DotN) : Prop where
  nodup : R.Nodup
  mem : ∀ x, x ∈ R ↔ x ∈ l ∧ left (keyA x.dev x.inc) = false
theorem MetV.start {D : DataW Unit} {l : List DotN} (h : VecD D l) (hl : OkV l) : MetV l (Go.Maps.has D) [] := by
  refine ⟨List.nodup_nil, fun x => Iff.intro (fun c => absurd c List.not_mem_nil) (fun c => ?_)⟩
  obtain ⟨c1, c2⟩ := c
  have hr := right_range (hl.right x c1)
  obtain ⟨f1, f2⟩ := right_fit (hl.right x c1)
  rw [h.has _ _ f1 f2, getV_mem hl.ord c1] at c2
  simp only [Bool.not_eq_false', beq_iff_eq] at c2
  omega
theorem MetV.step {D : DataW Unit} {l R : List DotN} {left : Lit → Bool} (h : MetV l left R) (hD : VecD D l) (hl : OkV l) {d i c : Int} (hd : is64 d) (hi : is64 i) (hlk : left (keyA d i) = true) (hat : ∀ zd, D.atKey (keyA d i) zd = .lit (.int .i64 c)) :
    (⟨d, i, c⟩ : DotN) ∈ l ∧ MetV l (fun z => left z && !z.sameKey (keyA d i)) (R ++ [⟨d, i, c⟩]) := by
  have hc : c = getV l d i := (show NumAt D (keyA d i) c from hat _).one (hD.num d i hd hi)
  have hh := Go.Maps.has_true_of_atKey hat
  rw [hD.has d i hd hi] at hh
  have hne : getV l d i ≠ 0 := by simpa using hh
  obtain ⟨y, hy, rfl, rfl, e⟩ := getV_some hne
  have ey : (⟨y.dev, y.inc, c⟩ : DotN) = y := DotN.ext' rfl rfl (by show c = y.seq; omega)
  rw [ey]
  refine ⟨hy, List.nodup_append.2 ⟨h.nodup, by simp, fun a ha b hb => ?_⟩, fun x => ?_⟩
  · rw [List.mem_singleton] at hb
    subst hb
    rintro rfl
    have := ((h.mem a).1 ha).2
    rw [hlk] at this
    cases this
  · rw [List.mem_append, h.mem, List.mem_singleton]
    have hk := keyedActor.key (key_actor hd hi)
    constructor
    · rintro (⟨a, b⟩ | rfl)
      · exact ⟨a, by rw [b]; rfl⟩
      · refine ⟨hy, ?_⟩
        rw [WideAt.sameKey_self hk]
        simp
    · rintro ⟨a, b⟩
      by_cases q : x = y
      · exact .inr q
      · refine .inl ⟨a, ?_⟩
        obtain ⟨f1, f2⟩ := right_fit (hl.right x a)
        have hq : keyA x.dev x.inc ≠ keyA y.dev y.inc := fun e2 => by
          obtain ⟨e3, e4⟩ := keyA_inj f1 f2 hd hi e2
          have g1 := getV_mem hl.ord a
          have g2 := getV_mem hl.ord hy
          rw [e3, e4, g2] at g1
          exact q (DotN.ext' e3 e4 g1.symm)
        rw [Go.Maps.sameKey_ne hq] at b
        simpa using b
theorem MetV.all {l R : List DotN} {left : Lit → Bool} (h : MetV l left R) (h0 : ∀ kl, left kl = false) : ∀ x, x ∈ R ↔ x ∈ l := fun x => by rw [h.mem, h0]; simp
theorem Keeps.ranges {F : Nat → Prop} {w w' : World} (h : Keeps F w w') {b r : Nat} (hb : ¬ F b) (hr : ¬ F r) : ∀ {H : Type} {P : Program} {k : TypeId} {R : Value → Option (DataW H × List MemPlace)} {n : Nat} {D : DataW H} {left : Lit → Bool} {cnt : Nat}, w.ranges P k R b r n D left cnt → w'.ranges P k R b r n D left cnt := by
  intro H P k R n D left cnt hm
  obtain ⟨es, clock, since, seen, c0, h1, h2, h3, h4, h5, h6⟩ := hm
  exact ⟨es, clock, since, seen, c0, (h.block b (Array.getElem?_eq_some_iff.1 h1).1 hb).trans h1, h2, h3, h4, (h.block r (Array.getElem?_eq_some_iff.1 h5).1 hr).trans h5, h6⟩
theorem grown_below_at {w w' : World} {r B : Nat} (h : w.grownBy w' (some r)) (hB : B ≤ r) (hw : B ≤ w.heap.size) : Below B w w' := (Keeps.ofGrownBy h).below hw fun k _ e => by cases e; exact hB
theorem elemA {v : Value} {y : DataW Unit × List MemPlace} (h : plainElem Tryz.prog 3 v = some y) : ∃ c, v = .int .i64 c ∧ y = (.lit (.int .i64 c), []) ∧ (Lit.int .i64 c).wf = true := plainElem_int_inv Tryz.underlying3 h
theorem wpList_next_actors {P : Program} (hP : P = Tryz.prog) {w : World} {ops : Array Oper} {rest : List Oper} {o : Oper} {a : Act} {Q : Exit → Act → World → Prop} (hg : o.guard = none) (it : Operand) (hop : o.op = Op.next it false) (b r n : Nat) (D : DataW Unit) (left : Lit → Bool) (cnt : Nat)
    (hit : a.eval it = .pointer (some ⟨r, 0, none⟩)) (h : w.ranges P 33 (plainElem P 3) b r n D left cnt)
    (hDone : cnt = 0 → (∀ kl, left kl = false) → wpList P ops Q rest (a.put o.dst (.tuple #[.bool false])) w)
    (hMore : ∀ (d i c : Int) (w' : World) (cnt' : Nat), is64 d → is64 i → left (keyA d i) = true → (∀ zd, D.atKey (keyA d i) zd = .lit (.int .i64 c)) → w'.ranges P 33 (plainElem P 3) b r n D (fun z => left z && !z.sameKey (keyA d i)) cnt' → cnt' < cnt →
      w.grownBy w' (some r) → w'.heap.size = w.heap.size → (Instr.entry (.pointer (some ⟨r, 0, none⟩))).run P w' = .ok (.tuple #[.agg #[.int .i64 d, .int .i64 i], .int .i64 c]) w' → wpList P ops Q rest (a.put o.dst (.tuple #[.bool true, .agg #[.int .i64 d, .int .i64 i], .int .i64 c])) w') :
    wpList P ops Q (o :: rest) a w := by
  subst hP
  refine wpList_next_ranges (α := Int × Int) (β := Int) w hg it hop 33 keyedActor (plainElem Tryz.prog 3) (fun x => .agg #[.int .i64 x.1, .int .i64 x.2]) (Value.int .i64) (fun key kl hkey => ?_) (fun v y hv => ?_) b r n D left cnt hit h hDone (fun x c kl y w' cnt' hkey hlk hv hat hrg hlt hgr hsz hen => ?_)
  · obtain ⟨d, i, _, _, e, _⟩ := key_actor_inv hkey
    exact ⟨(d, i), e⟩
  · obtain ⟨c, e, _, _⟩ := elemA hv
    exact ⟨c, e⟩
  · obtain ⟨d, i, hd, hi, e, rfl⟩ := key_actor_inv hkey
    obtain ⟨c', e2, rfl, _⟩ := elemA hv
    simp only [Value.agg.injEq, Array.mk.injEq, List.cons.injEq, Value.int.injEq, true_and, and_true] at e
    cases e2
    obtain ⟨x1, x2⟩ := x
    obtain ⟨rfl, rfl⟩ := e
    exact hMore _ _ _ w' cnt' hd hi hlk hat hrg hlt hgr hsz hen
theorem zeroInt (w : World) : (zeroValue 3).run Tryz.prog w = .ok (.int .i64 0) w := by kernel_rfl
end Go.Proofs.YtaodjnkjjmhecaaGreatDoor
namespace Go.Proofs.YtaodjnkjjmhecaaGreatDoor
open Go.RowKit Go.Sort
set_option linter.unusedVariables false
def Grows (w w' : World) : Prop := ∃ q os, w' = grow (w.drewN q) os
theorem Grows.alloc (w : World) (o : Obj) : Grows w (w.alloc o) := ⟨0, #[o], by rw [alloc_eq_grow]; rfl⟩
theorem Grows.trans {a b c : World} (h : Grows a b) (k : Grows b c) : Grows a c := by
  obtain ⟨q, os, rfl⟩ := h
  obtain ⟨r, os', rfl⟩ := k
  refine ⟨q + r, os ++ os', ?_⟩
  have e : (grow (a.drewN q) os).drewN r = grow ((a.drewN q).drewN r) os := rfl
  rw [e, grow_grow, World.drewN_drewN]
theorem Grows.below {w w' : World} (h : Grows w w') : Below w.heap.size w w' := by
  obtain ⟨q, os, rfl⟩ := h
  exact ⟨rfl, rfl, rfl, by simp [grow], fun k hk => by simp [grow, Array.getElem?_append, hk]⟩
end Go.Proofs.YtaodjnkjjmhecaaGreatDoor
namespace Go.Proofs.YtaodjnkjjmhecaaGreatDoor
open Go.RowKit
set_option linter.unusedVariables false
def cmpN (a b : Int) : Int := if a < b then -1 else if b < a then 1 else 0
theorem isNaNC (a : Int) (w : World) : Calls Tryz.prog 192 #[.int .i64 a] w fun e w' => e = .returned (.bool false) ∧ w = w' := by
  go_enter Tryz.func192, Tryz.ntmps192
  go_wp2
  go_ret
  exact ⟨by simp, rfl⟩
theorem cmpIntC (a b : Int) (w : World) : Calls Tryz.prog 154 #[.int .i64 a, .int .i64 b] w fun e w' => e = .returned (.int .i64 (cmpN a b)) ∧ w = w' := by
  have H := fun x w => isNaNC x w
  unfold cmpN
  by_cases h1 : a < b
  · rw [if_pos h1]
    go_enter Tryz.func154, Tryz.ntmps154
    go_wp2_with (go_at_call 192; (with_reducible refine (H _ _).mono ?_); rintro e w1 ⟨rfl, rfl⟩)
    go_ret
    exact ⟨rfl, rfl⟩
  · rw [if_neg h1]
    by_cases h2 : b < a
    · rw [if_pos h2]
      go_enter Tryz.func154, Tryz.ntmps154
      go_wp2_with (go_at_call 192; (with_reducible refine (H _ _).mono ?_); rintro e w1 ⟨rfl, rfl⟩)
      go_ret
      exact ⟨rfl, rfl⟩
    · rw [if_neg h2]
      go_enter Tryz.func154, Tryz.ntmps154
      go_wp2_with (go_at_call 192; (with_reducible refine (H _ _).mono ?_); rintro e w1 ⟨rfl, rfl⟩)
      go_ret
      exact ⟨rfl, rfl⟩
def seenB (x : UInt8) : Bool := decide (33 ≤ x.toNat) && decide (x.toNat ≤ 126)
def findS (l signs : List UInt8) : Nat := l.findIdx fun x => signs.contains x
theorem findS_le (l s : List UInt8) : findS l s ≤ l.length := List.findIdx_le_length
end Go.Proofs.YtaodjnkjjmhecaaGreatDoor
