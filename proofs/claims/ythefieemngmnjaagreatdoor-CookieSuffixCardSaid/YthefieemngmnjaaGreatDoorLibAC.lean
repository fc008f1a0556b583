/- Contracts and plain words that the laws' proofs stand on, put together. -/
import Derived.Test.YthefieemngmnjaaGreatDoorAscii
import Derived.Below
import Derived.Test.YthefieemngmnjaaGreatDoorLibAA
import Derived.Test.YthefieemngmnjaaGreatDoorShelf
import Derived.Test.YthefieemngmnjaaGreatDoorLibAB
/- Contracts of layer 6: texts. -/
namespace Go.Proofs.YthefieemngmnjaaGreatDoor
open Go.RowKit
set_option linter.unusedVariables false

/-- A text is answered; what was there is as it was. -/
def GivesStr (l : List UInt8) (w : World) (e : Ending) (w' : World) : Prop := e = .returned (.string (str l)) ∧ Below w.heap.size w w'

set_option maxRecDepth 100000 in
theorem lowerC (l : List UInt8) (n : Nat) (w : World) (hl : l.length = n) (hm : n ≤ maxLen) :
    Calls Tryz.prog 77 #[.string (str l)] w (GivesStr (l.map low) w) := by
  have hsz : (str l).size = n := by rw [str_size, hl]
  have hcv := fun w : World => Lib.run_convert_string_bytes (P := Tryz.prog) w 9 112 5 (str l) Tryz.underlying9 Tryz.underlying112 Tryz.underlying5
  have hB0 := BRow.new w 5 l
  have hb0 : Below w.heap.size w (Lib.bytesWorld w 5 (str l)) := ⟨rfl, rfl, rfl, by rw [Lib.bytesWorld_size]; omega, fun k hk => Lib.bytesWorld_at_old w 5 (str l) k hk⟩
  unfold maxLen at hm
  have HL := Lib.hid hl
  clear hl
  go_enter Tryz.func77, Tryz.ntmps77
  go_wp2
  generalize Lib.bytesWorld w 5 (str l) = w1 at *
  go_loopw [9] (fun i wr => ∃ k : Nat, k ≤ n ∧ i = .int .i64 (k : Int) ∧ BRow wr w.heap.size ((l.take k).map low ++ l.drop k) ∧ Below w.heap.size w wr) (fun i _ => n - (intOf i).toNat)
  case atStart => exact ⟨0, Nat.zero_le _, rfl, by simpa using hB0, hb0⟩
  case round =>
    obtain ⟨k, hk, rfl, H, hb⟩ := hrel
    clear hcv hB0 hb0
    have hlen : ((l.take k).map low ++ l.drop k).length = n := by have := HL.out; simp; omega
    by_cases hlt : k < n
    · have hlt' : (k : Int) < (n : Int) := by omega
      have hi := run_index_str (P := Tryz.prog) wr 9 l .i64 k Tryz.underlying9 (by rw [HL.out]; exact hlt)
      have HS := Lib.hid (set_low (f := low) (l := l) (k := k) (by rw [HL.out]; exact hlt))
      have HN := Lib.hid (H.set k (low (l.getD k 0)))
      have hc := H.cell k (by omega)
      have hf := H.free k (by omega)
      have hlt2 : w.heap.size < wr.heap.size := H.lt
      have HC := fun w => smallC (l.getD k 0) w
      have HB := Lib.hid hb
      generalize ((List.take k l).map low ++ List.drop k l).getD k 0 = y at hc
      clear H hb
      generalize l.getD k 0 = x at *
      go_wp2_with (go_at_call 114; (with_reducible refine (HC _).mono ?_); rintro e w2 ⟨rfl, rfl⟩)
      go_roundw
      case rel => exact ⟨k + 1, by omega, by go_num, by rw [← HS.out]; exact HN.out, HB.out.setCell (Nat.le_refl _) _⟩
      case measure => simp [intOf]; omega
    · obtain rfl : k = n := by omega
      have e1 : (l.take k).map low ++ l.drop k = l.map low := by rw [← HL.out]; simp
      rw [e1] at H hlen
      have hbk := fun cap => H.back (P := Tryz.prog) 112 9 5 k cap Tryz.underlying112 Tryz.underlying5 Tryz.underlying9 hlen
      have HB := Lib.hid hb
      clear H hb e1
      go_wp2
      go_ret
      exact ⟨rfl, HB.out⟩

theorem sameC (a b : List UInt8) (n m : Nat) (w : World) (hl : a.length = n) (hm : n ≤ maxLen) (hl2 : b.length = m) (hm2 : m ≤ maxLen) :
    Calls Tryz.prog 155 #[.string (str a), .string (str b)] w fun e w' => e = .returned (.bool (a.map low == b.map low)) ∧ Below w.heap.size w w' := by
  have H1 := fun w => lowerC a n w hl hm
  have H2 := fun w => lowerC b m w hl2 hm2
  unfold GivesStr at H1 H2
  have hk := str_toList
  go_enter Tryz.func155, Tryz.ntmps155
  go_wp2_with (go_at_call 77; first | ((with_reducible refine (H1 _).mono ?_); rintro e1 w1 ⟨rfl, hb1⟩) | ((with_reducible refine (H2 _).mono ?_); rintro e2 w2 ⟨rfl, hb2⟩))
  go_ret
  exact ⟨rfl, hb1.trans (hb2.mono hb1.size)⟩

set_option maxRecDepth 100000 in
theorem trimC (l : List UInt8) (n : Nat) (w : World) (hl : l.length = n) (hm : n ≤ maxLen) :
    Calls Tryz.prog 50 #[.string (str l)] w fun e w' => e = .returned (.string (str (trimL l))) ∧ w = w' := by
  have hsz : (str l).size = n := by rw [str_size, hl]
  unfold maxLen at hm
  have HL := Lib.hid hl
  clear hl
  go_enter Tryz.func50, Tryz.ntmps50
  go_wp2
  go_loopw [3, 8] (fun v i wr => ∃ k : Nat, k ≤ n ∧ v = .int .i64 (endB l k : Int) ∧ i = .int .i64 (k : Int) ∧ w = wr) (fun _ i _ => n - (intOf i).toNat)
  case atStart => exact ⟨0, Nat.zero_le _, rfl, rfl, rfl⟩
  case round =>
    obtain ⟨k, hk, rfl, rfl, rfl⟩ := hrel
    by_cases hlt : k < n
    · have hlt' : (k : Int) < (n : Int) := by omega
      have hi := run_index_str (P := Tryz.prog) w 9 l .i64 k Tryz.underlying9 (by rw [HL.out]; exact hlt)
      have HC := fun w => isBlankC (l.getD k 0) w
      have HE : Hid (endB l (k + 1) = if blank (l.getD k 0) = true then endB l k else k + 1) := rfl
      generalize blank (l.getD k 0) = t at HC HE
      generalize l.getD k 0 = x at HC hi
      cases t
      · go_wp2_with (go_at_call 85; (with_reducible refine (HC _).mono ?_); rintro e w2 ⟨rfl, rfl⟩)
        go_roundw
        case rel => exact ⟨k + 1, by omega, by rw [HE.out]; simp, by go_num, by first | rfl | trivial⟩
        case measure => simp [intOf]; omega
      · go_wp2_with (go_at_call 85; (with_reducible refine (HC _).mono ?_); rintro e w2 ⟨rfl, rfl⟩)
        go_roundw
        case rel => exact ⟨k + 1, by omega, by rw [HE.out]; simp, by go_num, by first | rfl | trivial⟩
        case measure => simp [intOf]; omega
    · obtain rfl : k = n := by omega
      have he := endB_le l k
      have hf := frontB_le l
      have hx : (str l).extract 0 (endB l k) = str (l.take (endB l k)) := by rw [str_extract]; simp
      have hx2 : (str l).extract (frontB l) (endB l k) = str (trimL l) := by rw [str_extract]; unfold trimL; rw [HL.out]
      have HF := fun w => firstTrimC (fun x => !blank x) (l.take (endB l k)) (endB l k) w (fun x => trimFnC x w) (by rw [List.length_take, HL.out]; omega) (by unfold maxLen; omega)
      have e1 : (l.take (endB l k)).findIdx (fun x => !blank x) = frontB l := by unfold frontB; rw [HL.out]
      rw [HL.out] at hf
      simp only [e1] at HF
      clear e1
      obtain ⟨tl, htl⟩ : ∃ tl, trimL l = tl := ⟨_, rfl⟩
      rw [htl] at hx2
      have HT := Lib.hid htl
      clear htl
      generalize frontB l = f at *
      generalize endB l k = e at *
      generalize l.take e = l2 at *
      go_wp2_with (go_at_call 82; (with_reducible refine (HF _).mono ?_); rintro e w2 ⟨rfl, rfl⟩)
      go_ret
      exact ⟨by rw [HT.out]; rfl, rfl⟩

theorem controlC (l : List UInt8) (n : Nat) (w : World) (hl : l.length = n) (hm : n ≤ maxLen) :
    Calls Tryz.prog 47 #[.string (str l)] w fun e w' => e = .returned (.bool (l.any ctl)) ∧ w = w' := by
  have hsz : (str l).size = n := by rw [str_size, hl]
  have HF := fun w => firstCtlC ctl l n w (fun x => isControlC x w) hl hm
  have e1 : l.any ctl = decide (l.findIdx ctl < n) := by
    rw [Bool.eq_iff_iff, List.any_eq_true, decide_eq_true_iff, ← hl]
    exact (List.findIdx_lt_length (xs := l) (p := ctl)).symm
  rw [e1]
  clear e1
  unfold maxLen at hm
  generalize l.findIdx ctl = f at *
  clear hl
  go_enter Tryz.func47, Tryz.ntmps47
  go_wp2_with (go_at_call 82; (with_reducible refine (HF _).mono ?_); rintro e w2 ⟨rfl, rfl⟩)
  go_ret
  exact ⟨rfl, rfl⟩

theorem digitsC (l : List UInt8) (n : Nat) (w : World) (hl : l.length = n) (hm : n ≤ maxLen) :
    Calls Tryz.prog 121 #[.string (str l)] w fun e w' => e = .returned (.int .i64 (l.findIdx (fun x => !digit x) : Int)) ∧ w = w' := by
  have HF := fun w => firstDigitC (fun x => !digit x) l n w (fun x => digitFnC x w) hl hm
  generalize l.findIdx (fun x => !digit x) = f at *
  clear hl
  go_enter Tryz.func121, Tryz.ntmps121
  go_wp2_with (go_at_call 82; (with_reducible refine (HF _).mono ?_); rintro e w2 ⟨rfl, rfl⟩)
  go_ret
  exact ⟨rfl, rfl⟩

/-- What is ahead of the first byte c, what is behind it, and whether there is one. -/
def cutL (l : List UInt8) (c : UInt8) : List UInt8 × List UInt8 × Bool :=
  if l.findIdx (· == c) = l.length then (l, [], false) else (l.take (l.findIdx (· == c)), l.drop (l.findIdx (· == c) + 1), true)

theorem cutC (l : List UInt8) (c : UInt8) (n : Nat) (w : World) (hl : l.length = n) (hm : n ≤ maxLen) :
    Calls Tryz.prog 49 #[.string (str l), .int .u8 (c.toNat : Int)] w fun e w' => e = .returned (.tuple #[.string (str (cutL l c).1), .string (str (cutL l c).2.1), .bool (cutL l c).2.2]) ∧ Below w.heap.size w w' := by
  have hsz : (str l).size = n := by rw [str_size, hl]
  have hf : l.findIdx (· == c) ≤ n := by rw [← hl]; exact List.findIdx_le_length
  have hcell : (w.alloc (.cells #[.int .u8 (c.toNat : Int)] 5)).cell? ⟨w.heap.size, 0, none⟩ = some (.int .u8 (c.toNat : Int)) := by simp
  have hb := below_alloc w (.cells #[.int .u8 (c.toNat : Int)] 5)
  have hmf : ∀ (fn : Fn) (first cap : Array Value) (w : World), (Instr.makeFunc fn first cap).run Tryz.prog w = .ok (.func fn first cap) w := fun _ _ _ _ => rfl
  have HF := fun w b hc => firstCutC (· == c) l n b w (fun x => cutFnC x c b w hc) hl hm
  unfold cutL
  rw [hl]
  have hx1 : ∀ f, (str l).extract 0 f = str (l.take f) := fun f => by rw [str_extract]; simp
  have hx2 : ∀ f, (str l).extract f n = str (l.drop f) := fun f => by rw [str_extract, ← hl, List.take_of_length_le (by simp)]
  obtain ⟨f, hff⟩ : ∃ f, l.findIdx (· == c) = f := ⟨_, rfl⟩
  simp only [hff] at *
  clear hff hl
  unfold maxLen at hm
  by_cases he : f = n
  · rw [if_pos he]
    go_enter Tryz.func49, Tryz.ntmps49
    go_wp2_with (go_at_call 82; (with_reducible refine (HF _ w.heap.size hcell).mono ?_); rintro e w2 ⟨rfl, rfl⟩)
    go_ret3
    exact ⟨rfl, hb⟩
  · rw [if_neg he]
    have b1 : (f : Int) ≤ (n : Int) := by omega
    have b2 : (f : Int) + 1 ≤ (n : Int) := by omega
    have b3 : ¬ (f : Int) = (n : Int) := by omega
    go_enter Tryz.func49, Tryz.ntmps49
    go_wp2_with (go_at_call 82; (with_reducible refine (HF _ w.heap.size hcell).mono ?_); rintro e w2 ⟨rfl, rfl⟩)
    go_quiet (fail)
    go_wp2
    go_ret3
    exact ⟨rfl, hb.os, hb.tape, hb.output, hb.size, hb.block⟩
end Go.Proofs.YthefieemngmnjaaGreatDoor

/- Contracts of layer 6: numbers. -/
namespace Go.Proofs.YthefieemngmnjaaGreatDoor
open Go.RowKit
set_option linter.unusedVariables false

theorem cutDashC (l : List UInt8) (w : World) : Calls Tryz.prog 71 #[.string (str l), .string ⟨#[45]⟩] w fun e w' => e = .returned (.tuple #[.string (str (body l)), .bool (signed l)]) ∧ w = w' := by
  refine (Tryz.strings_CutPrefix (str l) ⟨#[45]⟩ w).mono ?_
  rintro e w' ⟨rfl, rfl⟩
  rw [str_data]
  exact ⟨rfl, rfl⟩

set_option maxRecDepth 100000 in
theorem numberC (l : List UInt8) (n : Nat) (w : World) (hl : l.length = n) (hm : n ≤ maxLen) :
    Calls Tryz.prog 89 #[.string (str l)] w fun e w' => e = .returned (.tuple #[.int .i64 (numL l).1, .bool (numL l).2]) ∧ w = w' := by
  have HC := cutDashC l
  have hle := body_le l
  unfold numL
  generalize body l = b at *
  generalize signed l = g at *
  obtain ⟨m, hb⟩ : ∃ m, b.length = m := ⟨_, rfl⟩
  have hsz : (str b).size = m := by rw [str_size, hb]
  have HD := fun w => digitsC b m w hb (by omega)
  have hd : lead b ≤ m := by rw [← hb]; exact lead_le b
  have hal := fun h => lead_all (l := b) h
  rw [hb] at hle hal ⊢
  rw [hl] at hle
  clear hl
  change ∀ w, Calls Tryz.prog 121 #[.string (str b)] w fun e w' => e = .returned (.int .i64 (lead b : Int)) ∧ w = w' at HD
  have hk := str_toList b
  have HB := Lib.hid hb
  unfold maxLen at hm
  rcases Nat.eq_zero_or_pos m with hm0 | hm0
  · rw [if_pos (.inl hm0)]
    have : b = [] := List.eq_nil_of_length_eq_zero (hb.trans hm0)
    subst this
    clear hb HB hal HD hd
    go_enter Tryz.func89, Tryz.ntmps89
    go_wp2_with (go_at_call 71; (with_reducible refine (HC _).mono ?_); rintro e w2 ⟨rfl, rfl⟩)
    go_ret2
    exact ⟨rfl, rfl⟩
  · have hbn : (b == []) = false := by
      cases b with
      | nil => simp at hb; omega
      | cons x xs => rfl
    clear hb
    generalize lead b = d at *
    by_cases hlt : d < m
    · rw [if_pos (.inr hlt)]
      have hlt' : (d : Int) < (m : Int) := by omega
      go_enter Tryz.func89, Tryz.ntmps89
      go_wp2_with (first | (go_at_call 71; (with_reducible refine (HC _).mono ?_); rintro e w2 ⟨rfl, rfl⟩) | (go_at_call 121; (with_reducible refine (HD _).mono ?_); rintro e w2 ⟨rfl, rfl⟩))
      go_ret2
      exact ⟨rfl, rfl⟩
    · rw [if_neg (by omega)]
      obtain rfl : d = m := by omega
      have hge : ¬ ((d : Int) < (d : Int)) := by omega
      have HA := Lib.hid (hal rfl)
      clear hal hlt
      go_enter Tryz.func89, Tryz.ntmps89
      go_wp2_with (first | (go_at_call 71; (with_reducible refine (HC _).mono ?_); rintro e w2 ⟨rfl, rfl⟩) | (go_at_call 121; (with_reducible refine (HD _).mono ?_); rintro e w2 ⟨rfl, rfl⟩))
      go_loopw [6, 24] (fun v i wr => ∃ k : Nat, k ≤ d ∧ v = .int .i64 (numV (b.take k) : Int) ∧ i = .int .i64 (k : Int) ∧ w = wr) (fun _ i _ => d - (intOf i).toNat)
      case atStart => exact ⟨0, Nat.zero_le _, rfl, rfl, rfl⟩
      case round =>
        obtain ⟨k, hk2, rfl, rfl, rfl⟩ := hrel
        clear HC HD
        by_cases hlt : k < d
        · have hlt' : (k : Int) < (d : Int) := by omega
          have hi := run_index_str (P := Tryz.prog) w 9 b .i64 k Tryz.underlying9 (by rw [HB.out]; exact hlt)
          obtain ⟨d1, d2⟩ := HA.out k hlt
          have HV := Lib.hid (numV_take (l := b) (k := k) (by rw [HB.out]; exact hlt))
          have hv := numV_le (b.take k)
          generalize numV (b.take k) = V at *
          generalize (b.getD k 0).toNat = x at *
          obtain ⟨y, rfl⟩ : ∃ y, x = y + 48 := ⟨x - 48, by omega⟩
          go_wp2
          go_roundw
          case rel => exact ⟨k + 1, by omega, by rw [HV.out]; congr 1; omega, by go_num, by first | rfl | trivial⟩
          case measure => simp [intOf]; omega
        · obtain rfl : k = d := by omega
          have hv := numV_le b
          have e1 : b.take k = b := List.take_of_length_le (by rw [HB.out]; omega)
          rw [e1]
          obtain ⟨V, hV⟩ : ∃ V, numV b = V := ⟨_, rfl⟩
          rw [hV] at hv ⊢
          have HV := Lib.hid hV
          clear hV e1
          cases g
          · go_wp2
            go_ret2
            exact ⟨by rw [HV.out]; rfl, rfl⟩
          · go_wp2
            go_ret2
            exact ⟨by rw [HV.out]; simp, rfl⟩
end Go.Proofs.YthefieemngmnjaaGreatDoor

/- Contracts of layer 6: parts; the reference's. -/
namespace Go.Proofs.YthefieemngmnjaaGreatDoor
open Go.RowKit
set_option linter.unusedVariables false

theorem infoStr : (Tryz.prog.info? 9).map (fun i => (i.zero, i.size, i.bytes)) = some (some (.string ⟨#[]⟩), 1, 16) := by kernel_rfl
/-- Strings of these bytes. -/
def strs (p : List (List UInt8)) : List Value := p.map fun l => Value.string (str l)
theorem strs_length (p : List (List UInt8)) : (strs p).length = p.length := by unfold strs; rw [List.length_map]
theorem strs_snoc (p : List (List UInt8)) (x : List UInt8) : strs p ++ [.string (str x)] = strs (p ++ [x]) := by unfold strs; rw [List.map_append]; rfl

/-- Texts in new memory. -/
def GivesStrs (p : List (List UInt8)) (w : World) (en : Ending) (w' : World) : Prop :=
  ∃ a c, en = .returned (.slice a p.length c) ∧ Owned w.heap.size 9 a p.length c (strs p) w' ∧ Below w.heap.size w w'

set_option maxRecDepth 100000 in
theorem splitC (l : List UInt8) (c : UInt8) (n : Nat) (w : World) (hl : l.length = n) (hm : n ≤ 1000000000000) :
    Calls Tryz.prog 48 #[.string (str l), .int .u8 (c.toNat : Int)] w (GivesStrs (splitL l c) w) := by
  have hsz : (str l).size = n := by rw [str_size, hl]
  have hx := str_extract l
  obtain ⟨i0, hi, hz0, hz1, hz2⟩ := info_parts infoStr
  have ht : (List.drop (splitK l c n).2 l).take (n - (splitK l c n).2) = l.drop (splitK l c n).2 := by rw [← hl, List.take_of_length_le (by simp)]
  have HT := Lib.hid ht
  have HS : Hid (splitL l c = (splitK l c n).1 ++ [l.drop (splitK l c n).2]) := by unfold splitL; rw [hl]; rfl
  have hown0 : Owned w.heap.size 9 none 0 0 [] w := ⟨World.ownsRow_nil w _ _ _, Reads.nil _ _, fun _ => rfl, Nat.le_refl _, Nat.zero_le _, rfl⟩
  have hbel0 := Below.refl w.heap.size w
  have HL := Lib.hid hl
  clear hl ht
  go_enter Tryz.func48, Tryz.ntmps48
  go_wp2
  go_loopw [5, 6, 10] (fun v s i wr => ∃ (k N : Nat) (a : Option Addr) (C : Nat), k ≤ n ∧ N ≤ k ∧ v = .slice a N C ∧ s = .int .i64 ((splitK l c k).2 : Int) ∧ i = .int .i64 (k : Int) ∧ Owned w.heap.size 9 a N C (strs (splitK l c k).1) wr ∧ Below w.heap.size w wr) (fun _ _ i _ => n - (intOf i).toNat)
  case atStart => exact ⟨0, 0, _, _, Nat.zero_le _, Nat.le_refl _, rfl, rfl, rfl, hown0, hbel0⟩
  case round =>
    clear hown0 hbel0
    obtain ⟨k, N, a, C, hk, hN, rfl, rfl, rfl, ho, hb⟩ := hrel
    have hle := (splitK_le l c k).2
    by_cases hlt : k < n
    · have hlt' : (k : Int) < (n : Int) := by omega
      have hix := run_index_str (P := Tryz.prog) wr 9 l .i64 k Tryz.underlying9 (by rw [HL.out]; exact hlt)
      have HK : Hid (splitK l c (k + 1) = if (l.getD k 0 == c) = true then ((splitK l c k).1 ++ [(l.drop (splitK l c k).2).take (k - (splitK l c k).2)], k + 1) else splitK l c k) := rfl
      have hcmp : (l.getD k 0 == c) = decide ((l.getD k 0).toNat = c.toNat) := by
        rw [Bool.eq_iff_iff, decide_eq_true_iff]
        simp only [beq_iff_eq]
        exact ⟨fun h => by rw [h], fun h => UInt8.toNat_inj.1 h⟩
      rw [hcmp] at HK
      clear hcmp
      have hcl := u8_lt c
      have hxl := u8_lt (l.getD k 0)
      generalize (l.getD k 0).toNat = x at *
      generalize splitK l c k = q at HK ho hle
      obtain ⟨p, s⟩ := q
      simp only [] at ho hle
      have HO := Lib.hid ho
      have hbs := hb.size
      have HB := Lib.hid hb
      clear ho hb
      by_cases hxc : x = c.toNat
      · have HK2 : Hid (splitK l c (k + 1) = (p ++ [(l.drop s).take (k - s)], k + 1)) := by have := HK.out; rw [if_pos (by simpa using hxc)] at this; exact this
        have hxc' : (x : Int) = (c.toNat : Int) := by omega
        have hxs := hx s k
        have hs' : (s : Int) ≤ (k : Int) := by omega
        have hkn : (k : Int) ≤ (n : Int) := by omega
        clear hx HK
        generalize (l.drop s).take (k - s) = y at HK2 hxs
        generalize c.toNat = cc at *
        subst hxc
        have hO := HO.out
        go_wp2_with (at_builtin; refine wpList_append_one rfl (.tmp 18) (.tmp 23) 22 rfl 9 i0 (.string ⟨#[]⟩) 16 Tryz.underlying22 hi hz0 hz1 hz2 rfl hO.1 rfl rfl rfl (by unfold maxLen; omega) (by omega) hbs ?_; intro v2 w2 ho2 hb2; obtain ⟨a2, c2, rfl, ho3⟩ := Owned.of ho2)
        rw [strs_snoc] at ho3
        go_roundw
        case rel => exact ⟨k + 1, N + 1, a2, c2, by omega, by omega, rfl, by rw [HK2.out]; go_num, by go_num, by rw [HK2.out]; exact ho3, HB.out.trans hb2⟩
        case measure => simp [intOf]; omega
      · have HK2 : Hid (splitK l c (k + 1) = (p, s)) := by have := HK.out; rw [if_neg (by simpa using hxc)] at this; exact this
        have hxc' : ¬ (x : Int) = (c.toNat : Int) := by omega
        clear HK
        generalize c.toNat = cc at *
        go_wp2
        go_roundw
        case rel => exact ⟨k + 1, N, a, C, by omega, by omega, rfl, by rw [HK2.out], by go_num, by rw [HK2.out]; exact HO.out, HB.out⟩
        case measure => simp [intOf]; omega
    · obtain rfl : k = n := by omega
      have HO := Lib.hid ho
      have hbs := hb.size
      have HB := Lib.hid hb
      have hT := HT.out
      clear ho hb HT
      generalize splitK l c k = q at *
      obtain ⟨p, s⟩ := q
      simp only [] at *
      have hxs := hx s k
      rw [hT] at hxs
      have hs' : (s : Int) ≤ (k : Int) := by omega
      have hO := HO.out
      clear hx hT
      generalize l.drop s = y at *
      go_wp2_with (at_builtin; refine wpList_append_one rfl (.tmp 28) (.tmp 32) 22 rfl 9 i0 (.string ⟨#[]⟩) 16 Tryz.underlying22 hi hz0 hz1 hz2 rfl hO.1 rfl rfl rfl (by unfold maxLen; omega) (by omega) hbs ?_; intro v2 w2 ho2 hb2; obtain ⟨a2, c2, rfl, ho3⟩ := Owned.of ho2)
      rw [strs_snoc] at ho3
      go_ret
      have hN : N + 1 = (splitL l c).length := by rw [HS.out, ← strs_length, ← ho3.len]
      rw [← HS.out] at ho3
      refine ⟨a2, c2, ?_, ?_, HB.out.trans hb2⟩
      · rw [← hN]; rfl
      · rw [← hN]; exact ho3

set_option maxRecDepth 100000 in
theorem refSplitC (l : List UInt8) (c : UInt8) (n : Nat) (w : World) (hl : l.length = n) (hm : n ≤ 1000000000000) :
    Calls Tryz.prog 59 #[.string (str l), .int .u8 (c.toNat : Int)] w (GivesStrs (splitL l c) w) := by
  have hsz : (str l).size = n := by rw [str_size, hl]
  have hx := str_extract l
  obtain ⟨i0, hi, hz0, hz1, hz2⟩ := info_parts infoStr
  have ht : (List.drop (splitK l c n).2 l).take (n - (splitK l c n).2) = l.drop (splitK l c n).2 := by rw [← hl, List.take_of_length_le (by simp)]
  have HT := Lib.hid ht
  have HS : Hid (splitL l c = (splitK l c n).1 ++ [l.drop (splitK l c n).2]) := by unfold splitL; rw [hl]; rfl
  have hown0 := owned_lit w 9
  have hbel0 := below_alloc w (.cells #[] 9)
  have HL := Lib.hid hl
  clear hl ht
  go_enter Tryz.func59, Tryz.ntmps59
  go_wp2
  go_loopw [5, 6, 7] (fun v s i wr => ∃ (k N : Nat) (a : Option Addr) (C : Nat), k ≤ n ∧ N ≤ k ∧ v = .slice a N C ∧ s = .int .i64 ((splitK l c k).2 : Int) ∧ i = .int .i64 (k : Int) ∧ Owned w.heap.size 9 a N C (strs (splitK l c k).1) wr ∧ Below w.heap.size w wr) (fun _ _ i _ => n - (intOf i).toNat)
  case atStart => exact ⟨0, 0, _, _, Nat.zero_le _, Nat.le_refl _, rfl, rfl, rfl, hown0, hbel0⟩
  case round =>
    clear hown0 hbel0
    obtain ⟨k, N, a, C, hk, hN, rfl, rfl, rfl, ho, hb⟩ := hrel
    have hle := (splitK_le l c k).2
    by_cases hlt : k < n
    · have hlt' : (k : Int) < (n : Int) := by omega
      have hix := run_index_str (P := Tryz.prog) wr 9 l .i64 k Tryz.underlying9 (by rw [HL.out]; exact hlt)
      have HK : Hid (splitK l c (k + 1) = if (l.getD k 0 == c) = true then ((splitK l c k).1 ++ [(l.drop (splitK l c k).2).take (k - (splitK l c k).2)], k + 1) else splitK l c k) := rfl
      have hcmp : (l.getD k 0 == c) = decide ((l.getD k 0).toNat = c.toNat) := by
        rw [Bool.eq_iff_iff, decide_eq_true_iff]
        simp only [beq_iff_eq]
        exact ⟨fun h => by rw [h], fun h => UInt8.toNat_inj.1 h⟩
      rw [hcmp] at HK
      clear hcmp
      have hcl := u8_lt c
      have hxl := u8_lt (l.getD k 0)
      generalize (l.getD k 0).toNat = x at *
      generalize splitK l c k = q at HK ho hle
      obtain ⟨p, s⟩ := q
      simp only [] at ho hle
      have HO := Lib.hid ho
      have hbs := hb.size
      have HB := Lib.hid hb
      clear ho hb
      by_cases hxc : x = c.toNat
      · have HK2 : Hid (splitK l c (k + 1) = (p ++ [(l.drop s).take (k - s)], k + 1)) := by have := HK.out; rw [if_pos (by simpa using hxc)] at this; exact this
        have hxc' : (x : Int) = (c.toNat : Int) := by omega
        have hxs := hx s k
        have hs' : (s : Int) ≤ (k : Int) := by omega
        have hkn : (k : Int) ≤ (n : Int) := by omega
        clear hx HK
        generalize (l.drop s).take (k - s) = y at HK2 hxs
        generalize c.toNat = cc at *
        subst hxc
        have hO := HO.out
        go_wp2_with (at_builtin; refine wpList_append_one rfl (.tmp 20) (.tmp 25) 22 rfl 9 i0 (.string ⟨#[]⟩) 16 Tryz.underlying22 hi hz0 hz1 hz2 rfl hO.1 rfl rfl rfl (by unfold maxLen; omega) (by omega) hbs ?_; intro v2 w2 ho2 hb2; obtain ⟨a2, c2, rfl, ho3⟩ := Owned.of ho2)
        rw [strs_snoc] at ho3
        go_roundw
        case rel => exact ⟨k + 1, N + 1, a2, c2, by omega, by omega, rfl, by rw [HK2.out]; go_num, by go_num, by rw [HK2.out]; exact ho3, HB.out.trans hb2⟩
        case measure => simp [intOf]; omega
      · have HK2 : Hid (splitK l c (k + 1) = (p, s)) := by have := HK.out; rw [if_neg (by simpa using hxc)] at this; exact this
        have hxc' : ¬ (x : Int) = (c.toNat : Int) := by omega
        clear HK
        generalize c.toNat = cc at *
        go_wp2
        go_roundw
        case rel => exact ⟨k + 1, N, a, C, by omega, by omega, rfl, by rw [HK2.out], by go_num, by rw [HK2.out]; exact HO.out, HB.out⟩
        case measure => simp [intOf]; omega
    · obtain rfl : k = n := by omega
      have HO := Lib.hid ho
      have hbs := hb.size
      have HB := Lib.hid hb
      have hT := HT.out
      clear ho hb HT
      generalize splitK l c k = q at *
      obtain ⟨p, s⟩ := q
      simp only [] at *
      have hxs := hx s k
      rw [hT] at hxs
      have hs' : (s : Int) ≤ (k : Int) := by omega
      have hO := HO.out
      clear hx hT
      generalize l.drop s = y at *
      go_wp2_with (at_builtin; refine wpList_append_one rfl (.tmp 29) (.tmp 33) 22 rfl 9 i0 (.string ⟨#[]⟩) 16 Tryz.underlying22 hi hz0 hz1 hz2 rfl hO.1 rfl rfl rfl (by unfold maxLen; omega) (by omega) hbs ?_; intro v2 w2 ho2 hb2; obtain ⟨a2, c2, rfl, ho3⟩ := Owned.of ho2)
      rw [strs_snoc] at ho3
      go_ret
      have hN : N + 1 = (splitL l c).length := by rw [HS.out, ← strs_length, ← ho3.len]
      rw [← HS.out] at ho3
      refine ⟨a2, c2, ?_, ?_, HB.out.trans hb2⟩
      · rw [← hN]; rfl
      · rw [← hN]; exact ho3

end Go.Proofs.YthefieemngmnjaaGreatDoor

/- Contracts of the reference of layer 6. -/
namespace Go.Proofs.YthefieemngmnjaaGreatDoor
open Go.RowKit
set_option linter.unusedVariables false

set_option maxRecDepth 100000 in
theorem refLowerC (l : List UInt8) (n : Nat) (w : World) (hl : l.length = n) (hm : n ≤ maxLen) :
    Calls Tryz.prog 61 #[.string (str l)] w (GivesStr (l.map low) w) := by
  have hsz : (str l).size = n := by rw [str_size, hl]
  have hx := str_extract l
  unfold maxLen at hm
  have HL := Lib.hid hl
  clear hl
  go_enter Tryz.func61, Tryz.ntmps61
  go_wp2
  go_loopw [3, 4] (fun v i wr => ∃ k : Nat, k ≤ n ∧ v = .string (str ((l.take k).map low)) ∧ i = .int .i64 (k : Int) ∧ Below w.heap.size w wr) (fun _ i _ => n - (intOf i).toNat)
  case atStart => exact ⟨0, Nat.zero_le _, rfl, rfl, Below.refl _ _⟩
  case round =>
    obtain ⟨k, hk, rfl, rfl, hb⟩ := hrel
    have HB := Lib.hid hb
    have hbs := hb.size
    clear hb
    by_cases hlt : k < n
    · have hlt' : (k : Int) < (n : Int) := by omega
      have hkl : k < l.length := by rw [HL.out]; exact hlt
      have hi := run_index_str (P := Tryz.prog) wr 9 l .i64 k Tryz.underlying9 hkl
      have hxk := hx k (k + 1)
      rw [cut_one hkl] at hxk
      have hmap : Hid ((l.take (k + 1)).map low = (l.take k).map low ++ [low (l.getD k 0)]) := by unfold Hid; rw [take_snoc hkl, List.map_append]; rfl
      have hlen : ((l.take k).map low).length = k := by simp; omega
      have ha := fun (w : World) (y : UInt8) => run_add_str (P := Tryz.prog) w ((l.take k).map low) [y] (by rw [hlen]; simp; omega)
      have hone := fun (w : World) v (hv : v = ((low (l.getD k 0)).toNat : Int)) => one_back (P := Tryz.prog) w 112 9 5 (low (l.getD k 0)) v hv Tryz.underlying112 Tryz.underlying5 Tryz.underlying9
      have hb0 := u8_lt (l.getD k 0)
      clear hx hkl
      by_cases h : 65 ≤ (l.getD k 0).toNat ∧ (l.getD k 0).toNat ≤ 90
      · have h1 := hone wr (((l.getD k 0).toNat : Int) + 32) (by rw [low_up h]; push_cast; rfl)
        obtain ⟨h2, h3⟩ := h
        clear hone hxk
        generalize low (l.getD k 0) = y at *
        have ha1 := fun w => ha w y
        clear ha hlen
        generalize (l.take k).map low = z at *
        generalize (l.getD k 0).toNat = x at *
        have h2' : (65 : Int) ≤ (x : Int) := by omega
        have h3' : (x : Int) ≤ 90 := by omega
        go_wp2
        go_roundw
        case rel => exact ⟨k + 1, by omega, by rw [hmap.out], by go_num, HB.out.alloc hbs _⟩
        case measure => simp [intOf]; omega
      · have e := low_not h
        rw [e] at hmap
        have ha1 := fun w => ha w (l.getD k 0)
        clear hone e ha hlen
        generalize (l.take k).map low = z at *
        generalize l.getD k 0 = y at *
        generalize y.toNat = x at *
        go_wp2
        all_goals (go_roundw; (case rel => exact ⟨k + 1, by omega, by rw [hmap.out], by go_num, HB.out⟩); (case measure => simp [intOf]; omega))
    · obtain rfl : k = n := by omega
      have e1 : l.take k = l := List.take_of_length_le (by rw [HL.out]; omega)
      rw [e1]
      go_wp2
      go_ret
      exact ⟨rfl, HB.out⟩
/-- BEGIN trim -/
theorem refBegin : True := trivial

set_option maxRecDepth 100000 in
theorem refTrimC (l : List UInt8) (n : Nat) (w : World) (hl : l.length = n) (hm : n ≤ maxLen) :
    Calls Tryz.prog 68 #[.string (str l)] w fun e w' => e = .returned (.string (str (trimL l))) ∧ w = w' := by
  have hcut : (str l).extract (nb l) (max (nb l) (endB l n)) = str (trimL l) := by rw [str_extract, ← hl, trimL_max]
  have hsz : (str l).size = n := by rw [str_size, hl]
  unfold maxLen at hm
  have HL := Lib.hid hl
  have hF : nb l ≤ n := by rw [← hl]; exact nb_le l
  have HB := Lib.hid (fun k => @nb_lt l k)
  have HA := Lib.hid (@nb_at l)
  clear hl
  obtain ⟨tl, htl⟩ : ∃ tl, trimL l = tl := ⟨_, rfl⟩
  rw [htl] at hcut
  have HT := Lib.hid htl
  clear htl
  generalize nb l = F at *
  go_enter Tryz.func68, Tryz.ntmps68
  go_wp2
  go_loopw [3] (fun i wr => ∃ k : Nat, k ≤ F ∧ i = .int .i64 (k : Int) ∧ w = wr) (fun i _ => n - (intOf i).toNat)
  case atStart => exact ⟨0, Nat.zero_le _, rfl, rfl⟩
  case round =>
    obtain ⟨k, hk, rfl, rfl⟩ := hrel
    rcases (show k < F ∨ (k = F ∧ F < n) ∨ (k = F ∧ F = n) by omega) with hlt | ⟨rfl, hlt⟩ | ⟨rfl, rfl⟩
    · have hlt' : (k : Int) < (n : Int) := by omega
      have hi := run_index_str (P := Tryz.prog) w 9 l .i64 k Tryz.underlying9 (by rw [HL.out]; omega)
      have hbb := HB.out k hlt
      unfold blank at hbb
      simp only [Bool.or_eq_true, decide_eq_true_iff] at hbb
      clear hcut
      generalize (l.getD k 0).toNat = x at *
      rcases hbb with rfl | rfl
      · go_wp2
        go_roundw
        case rel => exact ⟨k + 1, by omega, by go_num, by first | rfl | trivial⟩
        case measure => simp [intOf]; omega
      · go_wp2
        go_roundw
        case rel => exact ⟨k + 1, by omega, by go_num, by first | rfl | trivial⟩
        case measure => simp [intOf]; omega
    · obtain ⟨F, hFk⟩ : ∃ F, k = F := ⟨_, rfl⟩
      subst hFk
      have hlt' : (k : Int) < (n : Int) := by omega
      have hi := run_index_str (P := Tryz.prog) w 9 l .i64 k Tryz.underlying9 (by rw [HL.out]; omega)
      have hbf := HA.out (by rw [HL.out]; exact hlt)
      have hbb := hbf
      unfold blank at hbb
      simp only [Bool.or_eq_false_iff, decide_eq_false_iff_not] at hbb
      obtain ⟨n1, n2⟩ := hbb
      clear HA HB hbf
      generalize (l.getD k 0).toNat = x at *
      have n1' : ((x : Int) == 32) = false := by simp; omega
      have n2' : ((x : Int) == 9) = false := by simp; omega
      clear n1 n2
      go_wp2
      go_loopw [4] (fun i wr => ∃ t : Nat, k ≤ t ∧ t ≤ n ∧ i = .int .i64 (t : Int) ∧ Hid (max k (endB l n) = max k (endB l t)) ∧ w = wr) (fun i _ => (intOf i).toNat)
      case atStart => exact ⟨n, by omega, Nat.le_refl _, rfl, rfl, rfl⟩
      case round =>
        obtain ⟨t, ht1, ht2, rfl, HM, rfl⟩ := hrel
        by_cases htf : k < t
        · obtain ⟨u, rfl⟩ : ∃ u, t = u + 1 := ⟨t - 1, by omega⟩
          have htf' : (k : Int) < (u : Int) + 1 := by omega
          have hiu := run_index_str (P := Tryz.prog) w 9 l .i64 u Tryz.underlying9 (by rw [HL.out]; omega)
          have hiu0 : ((u : Int) + 1) - 1 = (u : Int) := by omega
          have hyes := fun h => endB_step (l := l) (t := u) h
          have hno := fun h => endB_stop (l := l) (t := u) h
          by_cases hb : blank (l.getD u 0) = true
          · have HM2 : Hid (max k (endB l n) = max k (endB l u)) := by have := HM.out; rw [hyes hb] at this; exact this
            have hbb := hb
            unfold blank at hbb
            simp only [Bool.or_eq_true, decide_eq_true_iff] at hbb
            clear hyes hno hb HM
            generalize (l.getD u 0).toNat = x at *
            rcases hbb with rfl | rfl
            · go_wp2
              go_roundw
              case rel => exact ⟨u, by omega, by omega, by go_num, HM2.out, by first | rfl | trivial⟩
              case measure => simp [intOf]
            · go_wp2
              go_roundw
              case rel => exact ⟨u, by omega, by omega, by go_num, HM2.out, by first | rfl | trivial⟩
              case measure => simp [intOf]
          · have hbf : blank (l.getD u 0) = false := by simpa using hb
            have hend : max k (endB l n) = u + 1 := by rw [HM.out, hno hbf]; omega
            unfold blank at hb
            simp only [Bool.or_eq_true, decide_eq_true_iff] at hb
            clear hyes hno hbf HM
            rw [hend] at hcut
            generalize (l.getD u 0).toNat = x at *
            have n1 : ((x : Int) == 32) = false := by simp; omega
            have n2 : ((x : Int) == 9) = false := by simp; omega
            have hux : (u : Int) + 1 ≤ (n : Int) := by omega
            have hkx : (k : Int) ≤ (u : Int) + 1 := by omega
            clear hend
            go_wp2
            go_ret
            exact ⟨by rw [HT.out]; rfl, rfl⟩
        · obtain rfl : k = t := by omega
          have hend : max k (endB l n) = k := by rw [HM.out]; exact Nat.max_eq_left (endB_le l k)
          rw [hend, str_extract, Nat.sub_self, List.take_zero] at hcut
          have hnil := (str_inj hcut).symm
          subst hnil
          have hux : (k : Int) ≤ (n : Int) := by omega
          clear hend HM hcut
          go_wp2
          go_ret
          exact ⟨by rw [HT.out]; rfl, rfl⟩
    · clear HA HB
      have hnil : tl = [] := by
        rw [str_extract] at hcut
        have e0 : max k (endB l k) - k = 0 := by have := endB_le l k; omega
        rw [e0, List.take_zero] at hcut
        exact (str_inj hcut).symm
      subst hnil
      clear hcut
      go_wp2
      go_loopw [4] (fun i wr => i = .int .i64 (k : Int) ∧ w = wr) (fun _ _ => 0)
      case atStart => exact ⟨rfl, rfl⟩
      case round =>
        obtain ⟨rfl, rfl⟩ := hrel
        go_wp2
        go_ret
        exact ⟨by rw [HT.out]; rfl, rfl⟩
end Go.Proofs.YthefieemngmnjaaGreatDoor

/- Contracts of the reference of layer 6: places, digits, controls, numbers. -/
namespace Go.Proofs.YthefieemngmnjaaGreatDoor
open Go.RowKit
set_option linter.unusedVariables false

/-- Where the first byte c stands; -1: nowhere. -/
def findL (l : List UInt8) (c : UInt8) : Int := if l.findIdx (· == c) = l.length then -1 else (l.findIdx (· == c) : Int)

set_option maxRecDepth 100000 in
theorem refFindC (l : List UInt8) (c : UInt8) (n : Nat) (w : World) (hl : l.length = n) (hm : n ≤ maxLen) :
    Calls Tryz.prog 35 #[.string (str l), .int .u8 (c.toNat : Int)] w fun e w' => e = .returned (.int .i64 (findL l c)) ∧ w = w' := by
  have hsz : (str l).size = n := by rw [str_size, hl]
  unfold maxLen at hm
  have HL := Lib.hid hl
  clear hl
  go_enter Tryz.func35, Tryz.ntmps35
  go_wp2
  go_loopw [5] (fun i wr => ∃ k : Nat, k ≤ n ∧ i = .int .i64 (k : Int) ∧ Hid (∀ j, j < k → (l.getD j 0 == c) = false) ∧ w = wr) (fun i _ => n - (intOf i).toNat)
  case atStart => exact ⟨0, Nat.zero_le _, rfl, fun j hj => absurd hj (by omega), rfl⟩
  case round =>
    obtain ⟨k, hk, rfl, H, rfl⟩ := hrel
    by_cases hlt : k < n
    · have hlt' : (k : Int) < (n : Int) := by omega
      have hi := run_index_str (P := Tryz.prog) w 9 l .i64 k Tryz.underlying9 (by rw [HL.out]; omega)
      have hc := u8_lt c
      by_cases hx : l.getD k 0 = c
      · have HF := Lib.hid (findIdx_at (l := l) (p := (· == c)) H.out (by rw [HL.out]; exact hlt) (by simpa using hx))
        rw [hx] at hi
        generalize c.toNat = x at *
        go_wp2
        go_ret
        refine ⟨?_, rfl⟩
        unfold findL
        rw [HF.out, HL.out, if_neg (by omega)]
        rfl
      · have HN : Hid (∀ j, j < k + 1 → (l.getD j 0 == c) = false) := fun j hj => by
          rcases Nat.lt_succ_iff_lt_or_eq.1 hj with h | rfl
          · exact H.out j h
          · simpa using hx
        have hne : ((((l.getD k 0).toNat : Nat) : Int) == (c.toNat : Int)) = false := by
          simp only [beq_eq_false_iff_ne, ne_eq]
          intro h
          exact hx (UInt8.toNat_inj.1 (by omega))
        clear H hx
        generalize c.toNat = y at *
        generalize (l.getD k 0).toNat = x at *
        go_wp2
        go_roundw
        case rel => exact ⟨k + 1, by omega, by go_num, HN.out, by first | rfl | trivial⟩
        case measure => simp [intOf]; omega
    · obtain rfl : k = n := by omega
      have HE := Lib.hid (findIdx_end (l := l) (p := (· == c)) (by rw [HL.out]; exact H.out))
      go_wp2
      go_ret
      refine ⟨?_, rfl⟩
      unfold findL
      rw [HE.out, if_pos rfl]
      rfl

set_option maxRecDepth 100000 in
theorem refDigitsC (l : List UInt8) (n : Nat) (w : World) (hl : l.length = n) (hm : n ≤ maxLen) :
    Calls Tryz.prog 107 #[.string (str l)] w fun e w' => e = .returned (.int .i64 (lead l : Int)) ∧ w = w' := by
  have hsz : (str l).size = n := by rw [str_size, hl]
  unfold maxLen at hm
  have HL := Lib.hid hl
  have hle := lead_le l
  have HB := Lib.hid (fun k => @lead_lt l k)
  have HA := Lib.hid (@lead_at l)
  rw [hl] at hle
  clear hl
  obtain ⟨D, hD⟩ : ∃ D, lead l = D := ⟨_, rfl⟩
  rw [hD] at hle HB HA ⊢
  clear hD
  go_enter Tryz.func107, Tryz.ntmps107
  go_wp2
  go_loopw [3, 4] (fun v i wr => ∃ k : Nat, k ≤ n ∧ v = .int .i64 ((min k D : Nat) : Int) ∧ i = .int .i64 (k : Int) ∧ w = wr) (fun _ i _ => n - (intOf i).toNat)
  case atStart => exact ⟨0, Nat.zero_le _, by simp, rfl, rfl⟩
  case round =>
    obtain ⟨k, hk, rfl, rfl, rfl⟩ := hrel
    rcases (show k < D ∨ (k = D ∧ D < n) ∨ (D < k ∧ k < n) ∨ k = n by omega) with hlt | ⟨rfl, hlt⟩ | ⟨hgt, hlt⟩ | rfl
    · have hlt' : (k : Int) < (n : Int) := by omega
      have hi := run_index_str (P := Tryz.prog) w 9 l .i64 k Tryz.underlying9 (by rw [HL.out]; omega)
      obtain ⟨d1, d2⟩ := HB.out k hlt
      have e1 : min k D = k := by omega
      rw [e1]
      clear HA HB
      generalize (l.getD k 0).toNat = x at *
      have d1' : (48 : Int) ≤ (x : Int) := by omega
      have d2' : (x : Int) ≤ 57 := by omega
      go_wp2
      go_roundw
      case rel => exact ⟨k + 1, by omega, by rw [show min (k + 1) D = k + 1 by omega]; go_num, by go_num, by first | rfl | trivial⟩
      case measure => simp [intOf]; omega
    · have hlt' : (k : Int) < (n : Int) := by omega
      have hi := run_index_str (P := Tryz.prog) w 9 l .i64 k Tryz.underlying9 (by rw [HL.out]; omega)
      have hd := HA.out (by rw [HL.out]; exact hlt)
      rw [Nat.min_self]
      clear HA HB
      generalize (l.getD k 0).toNat = x at *
      by_cases d1 : 48 ≤ x
      · have d2 : ¬ (x : Int) ≤ 57 := by omega
        have d1' : (48 : Int) ≤ (x : Int) := by omega
        clear hd
        go_wp2
        go_roundw
        case rel => exact ⟨k + 1, by omega, by rw [show min (k + 1) k = k by omega], by go_num, by first | rfl | trivial⟩
        case measure => simp [intOf]; omega
      · have d1' : ¬ (48 : Int) ≤ (x : Int) := by omega
        clear hd
        go_wp2
        go_roundw
        case rel => exact ⟨k + 1, by omega, by rw [show min (k + 1) k = k by omega], by go_num, by first | rfl | trivial⟩
        case measure => simp [intOf]; omega
    · have hlt' : (k : Int) < (n : Int) := by omega
      have e1 : min k D = D := by omega
      rw [e1]
      have hne : ¬ (D : Int) = (k : Int) := by omega
      have hne2 : ((D : Int) == (k : Int)) = false := by simp; omega
      clear HA HB
      go_wp2
      go_roundw
      case rel => exact ⟨k + 1, by omega, by rw [show min (k + 1) D = D by omega], by go_num, by first | rfl | trivial⟩
      case measure => simp [intOf]; omega
    · have e1 : min k D = D := by omega
      rw [e1]
      go_wp2
      go_ret
      exact ⟨rfl, rfl⟩

set_option maxRecDepth 100000 in
theorem refControlC (l : List UInt8) (n : Nat) (w : World) (hl : l.length = n) (hm : n ≤ maxLen) :
    Calls Tryz.prog 58 #[.string (str l)] w fun e w' => e = .returned (.bool (l.any ctl)) ∧ w = w' := by
  have hsz : (str l).size = n := by rw [str_size, hl]
  unfold maxLen at hm
  have HL := Lib.hid hl
  clear hl
  obtain ⟨A, hA⟩ : ∃ A : Nat → Bool, ∀ k, A k = (l.take k).any ctl := ⟨fun k => (l.take k).any ctl, fun _ => rfl⟩
  have HA := Lib.hid hA
  have HR : Hid (l.any ctl = A n) := by unfold Hid; rw [hA, ← HL.out, List.take_of_length_le (Nat.le_refl _)]
  have h0 : A 0 = false := by rw [hA]; rfl
  clear hA
  go_enter Tryz.func58, Tryz.ntmps58
  go_wp2
  go_loopw [3, 4] (fun v i wr => ∃ k : Nat, k ≤ n ∧ v = .bool (A k) ∧ i = .int .i64 (k : Int) ∧ w = wr) (fun _ i _ => n - (intOf i).toNat)
  case atStart => exact ⟨0, Nat.zero_le _, by rw [h0], rfl, rfl⟩
  case round =>
    obtain ⟨k, hk, rfl, rfl, rfl⟩ := hrel
    by_cases hlt : k < n
    · have hlt' : (k : Int) < (n : Int) := by omega
      have hi := run_index_str (P := Tryz.prog) w 9 l .i64 k Tryz.underlying9 (by rw [HL.out]; omega)
      have HS : Hid (A (k + 1) = (A k || ctl (l.getD k 0))) := by
        unfold Hid
        rw [HA.out, HA.out, take_snoc (by rw [HL.out]; exact hlt), List.any_append]
        simp
      unfold ctl at HS
      clear HA
      generalize A k = t at *
      generalize (l.getD k 0).toNat = x at *
      rcases (show t = true ∨ (t = false ∧ x < 32 ∧ x ≠ 9) ∨ (t = false ∧ x = 9) ∨ (t = false ∧ 32 ≤ x ∧ x ≠ 127) ∨ (t = false ∧ x = 127) by cases t <;> simp <;> omega) with rfl | ⟨rfl, x1, x2⟩ | ⟨rfl, rfl⟩ | ⟨rfl, x1, x2⟩ | ⟨rfl, rfl⟩
      · have HS2 : Hid (A (k + 1) = true) := Lib.hid (by have := HS.out; simpa using this)
        clear HS
        go_wp2
        go_roundw
        case rel => exact ⟨k + 1, by omega, by rw [HS2.out], by go_num, by first | rfl | trivial⟩
        case measure => simp [intOf]; omega
      · have HS2 : Hid (A (k + 1) = true) := Lib.hid (by have := HS.out; rw [show decide (x < 32) = true by simpa using x1, show decide (x = 9) = false by simpa using x2] at this; simpa using this)
        have y1 : (x : Int) < 32 := by omega
        have y2 : ((x : Int) == 9) = false := by simp; omega
        have y3 : ¬ (x : Int) = 9 := by omega
        clear HS
        go_wp2
        go_roundw
        case rel => exact ⟨k + 1, by omega, by rw [HS2.out], by go_num, by first | rfl | trivial⟩
        case measure => simp [intOf]; omega
      · have HS2 : Hid (A (k + 1) = false) := Lib.hid (by have := HS.out; simpa using this)
        clear HS
        go_wp2
        go_roundw
        case rel => exact ⟨k + 1, by omega, by rw [HS2.out], by go_num, by first | rfl | trivial⟩
        case measure => simp [intOf]; omega
      · have HS2 : Hid (A (k + 1) = false) := Lib.hid (by have := HS.out; rw [show decide (x < 32) = false by simp; omega, show decide (x = 127) = false by simpa using x2] at this; simpa using this)
        have y1 : ¬ (x : Int) < 32 := by omega
        have y2 : ((x : Int) == 127) = false := by simp; omega
        clear HS
        go_wp2
        go_roundw
        case rel => exact ⟨k + 1, by omega, by rw [HS2.out], by go_num, by first | rfl | trivial⟩
        case measure => simp [intOf]; omega
      · have HS2 : Hid (A (k + 1) = true) := Lib.hid (by have := HS.out; simpa using this)
        clear HS
        go_wp2
        go_roundw
        case rel => exact ⟨k + 1, by omega, by rw [HS2.out], by go_num, by first | rfl | trivial⟩
        case measure => simp [intOf]; omega
    · obtain rfl : k = n := by omega
      go_wp2
      go_ret
      exact ⟨by rw [HR.out]; rfl, rfl⟩
end Go.Proofs.YthefieemngmnjaaGreatDoor

/- The reference's numbers. -/
namespace Go.Proofs.YthefieemngmnjaaGreatDoor
open Go.RowKit
set_option linter.unusedVariables false

theorem getD_drop (l : List UInt8) (F j : Nat) : (l.drop F).getD j 0 = l.getD (F + j) 0 := by simp [List.getD]

set_option maxRecDepth 100000 in
theorem refNumberC (l : List UInt8) (n : Nat) (w : World) (hl : l.length = n) (hm : n ≤ maxLen) :
    Calls Tryz.prog 63 #[.string (str l)] w fun e w' => e = .returned (.tuple #[.int .i64 (numL l).1, .bool (numL l).2]) ∧ w = w' := by
  have hsz : (str l).size = n := by rw [str_size, hl]
  have HL := Lib.hid hl
  unfold maxLen at hm
  unfold numL
  obtain ⟨b, hbb⟩ : ∃ b, body l = b := ⟨_, rfl⟩
  rw [hbb]
  obtain ⟨g, hg⟩ : ∃ g, signed l = g := ⟨_, rfl⟩
  cases g
  · rw [hg]
    obtain ⟨h0, h1⟩ := signed_no hg
    rw [hbb] at h1
    subst h1
    clear hg hbb hl
    obtain ⟨m, hmn⟩ : ∃ m, m = n := ⟨n, rfl⟩
    subst hmn
    have HB := HL
    have hb := HB.out
    have hex : (str b).extract 0 m = str b := by rw [str_extract, ← hb]; simp
    clear hb
    have hd := lead_le b
    rw [HB.out] at hd ⊢
    have HD := fun w => refDigitsC b m w HB.out (by unfold maxLen; omega)
    have hal := fun h => lead_all (l := b) h
    rw [HB.out] at hal
    rcases Nat.eq_zero_or_pos m with hm0 | hm0
    · rw [if_pos (.inl hm0)]
      subst hm0
      clear HD hal hd
      go_enter Tryz.func63, Tryz.ntmps63
      go_wp2
      go_ret2
      exact ⟨rfl, rfl⟩
    · skip
      have hi0 : (Instr.index 9 (.string (str b)) (.int .i64 0)).run Tryz.prog w = .ok (.int .u8 ((b.getD 0 0).toNat : Int)) w := run_index_str (P := Tryz.prog) w 9 b .i64 0 Tryz.underlying9 (by rw [HB.out]; omega)
      have hne0 : (b.getD 0 0).toNat ≠ 45 := by rcases h0 with h | h; exact absurd h (by rw [HB.out]; omega); exact h
      generalize (b.getD 0 0).toNat = x0 at hi0 hne0
      have hne1 : ((x0 : Int) == 45) = false := by simp; omega
      have hm1 : (0 : Int) < (m : Int) := by omega
      clear hne0 h0
      have hmne : ((m : Nat) : Int) ≠ 0 := by omega
      have hmne2 : (((m : Nat) : Int) == 0) = false := by simp; omega
      push_cast at hmne2
      generalize lead b = d at *
      by_cases hlt : d < m
      · rw [if_pos (.inr hlt)]
        have hlt' : (d : Int) < (m : Int) := by omega
        clear hal hmne
        go_enter Tryz.func63, Tryz.ntmps63
        go_wp2_with (go_at_call 107; (with_reducible refine (HD _).mono ?_); rintro e w2 ⟨rfl, rfl⟩)
        go_ret2
        exact ⟨rfl, rfl⟩
      · rw [if_neg (by omega)]
        obtain rfl : d = m := by omega
        have HA := Lib.hid (hal rfl)
        clear hal hlt hmne
        go_enter Tryz.func63, Tryz.ntmps63
        go_wp2_with (go_at_call 107; (with_reducible refine (HD _).mono ?_); rintro e w2 ⟨rfl, rfl⟩)
        go_loopw [5, 6] (fun v i wr => ∃ j : Nat, j ≤ d ∧ v = .int .i64 (numV (b.take j) : Int) ∧ i = .int .i64 (j : Int) ∧ w = wr) (fun _ i _ => d - (intOf i).toNat)
        case atStart => exact ⟨0, Nat.zero_le _, rfl, by simp, rfl⟩
        case round =>
          obtain ⟨j, hj, rfl, rfl, rfl⟩ := hrel
          clear HD
          by_cases hlt : j < d
          · have hlt' : (j : Int) < (d : Int) := by omega
            have hi : (Instr.index 9 (.string (str b)) (.int .i64 (j : Int))).run Tryz.prog w = .ok (.int .u8 ((b.getD j 0).toNat : Int)) w := run_index_str (P := Tryz.prog) w 9 b .i64 j Tryz.underlying9 (by rw [HL.out]; omega)
            obtain ⟨d1, d2⟩ := HA.out j hlt
            have HV := Lib.hid (numV_take (l := b) (k := j) (by rw [HB.out]; exact hlt))
            have hv := numV_le (b.take j)
            generalize numV (b.take j) = V at *
            generalize (b.getD j 0).toNat = x at *
            by_cases hc : V * 10 + x - 48 ≤ 1099511627776
            · have hc' : ¬ (1099511627776 : Int) < (V : Int) * 10 + (x : Int) - 48 := by omega
              go_wp2
              go_roundw
              case rel => exact ⟨j + 1, by omega, by rw [HV.out]; congr 1; omega, by go_num, by first | rfl | trivial⟩
              case measure => simp [intOf]; omega
            · have hc' : (1099511627776 : Int) < (V : Int) * 10 + (x : Int) - 48 := by omega
              go_wp2
              go_roundw
              case rel => exact ⟨j + 1, by omega, by rw [HV.out]; congr 1; omega, by go_num, by first | rfl | trivial⟩
              case measure => simp [intOf]; omega
          · obtain rfl : j = d := by omega
            have hv := numV_le b
            have e1 : b.take j = b := List.take_of_length_le (by rw [HB.out]; omega)
            rw [e1]
            obtain ⟨V, hV⟩ : ∃ V, numV b = V := ⟨_, rfl⟩
            rw [hV] at hv ⊢
            have HV := Lib.hid hV
            clear hV e1
            go_wp2
            go_ret2
            exact ⟨by rw [HV.out]; simp, rfl⟩
  · rw [hg]
    obtain ⟨h0, h1, h2⟩ := signed_yes hg
    rw [hbb] at h2
    subst h2
    obtain ⟨m, rfl⟩ : ∃ m, n = m + 1 := ⟨n - 1, by omega⟩
    have hex : (str l).extract 1 (m + 1) = str (l.drop 1) := by rw [str_extract, List.take_of_length_le]; simp; omega
    have hb : (l.drop 1).length = m := by simp; omega
    have HB := Lib.hid hb
    have HG : Hid (∀ j, (l.drop 1).getD j 0 = l.getD (j + 1) 0) := fun j => by rw [getD_drop, Nat.add_comm]
    have hi0 : (Instr.index 9 (.string (str l)) (.int .i64 0)).run Tryz.prog w = .ok (.int .u8 ((l.getD 0 0).toNat : Int)) w := run_index_str (P := Tryz.prog) w 9 l .i64 0 Tryz.underlying9 (by rw [HL.out]; omega)
    rw [h1] at hi0
    have hm1 : (0 : Int) < (m : Int) + 1 := by omega
    clear hl h0 hbb hg h1
    generalize l.drop 1 = b at *
    clear hb
    have hd := lead_le b
    rw [HB.out] at hd ⊢
    have HD := fun w => refDigitsC b m w HB.out (by unfold maxLen; omega)
    have hal := fun h => lead_all (l := b) h
    rw [HB.out] at hal
    rcases Nat.eq_zero_or_pos m with hm0 | hm0
    · rw [if_pos (.inl hm0)]
      subst hm0
      clear HD hal hd
      go_enter Tryz.func63, Tryz.ntmps63
      go_wp2
      go_ret2
      exact ⟨rfl, rfl⟩
    · skip
      have hmne : ((m + 1 : Nat) : Int) ≠ 1 := by omega
      have hmne2 : (((m + 1 : Nat) : Int) == 1) = false := by simp; omega
      push_cast at hmne2
      generalize lead b = d at *
      by_cases hlt : d < m
      · rw [if_pos (.inr hlt)]
        have hlt' : (d : Int) < (m : Int) := by omega
        clear hal hmne
        go_enter Tryz.func63, Tryz.ntmps63
        go_wp2_with (go_at_call 107; (with_reducible refine (HD _).mono ?_); rintro e w2 ⟨rfl, rfl⟩)
        go_ret2
        exact ⟨rfl, rfl⟩
      · rw [if_neg (by omega)]
        obtain rfl : d = m := by omega
        have HA := Lib.hid (hal rfl)
        clear hal hlt hmne
        go_enter Tryz.func63, Tryz.ntmps63
        go_wp2_with (go_at_call 107; (with_reducible refine (HD _).mono ?_); rintro e w2 ⟨rfl, rfl⟩)
        go_loopw [5, 6] (fun v i wr => ∃ j : Nat, j ≤ d ∧ v = .int .i64 (numV (b.take j) : Int) ∧ i = .int .i64 ((j : Int) + 1) ∧ w = wr) (fun _ i _ => d + 1 - (intOf i).toNat)
        case atStart => exact ⟨0, Nat.zero_le _, rfl, by simp, rfl⟩
        case round =>
          obtain ⟨j, hj, rfl, rfl, rfl⟩ := hrel
          clear HD
          by_cases hlt : j < d
          · have hlt' : (j : Int) < (d : Int) := by omega
            have hi : (Instr.index 9 (.string (str l)) (.int .i64 ((j : Int) + 1))).run Tryz.prog w = .ok (.int .u8 ((l.getD (j + 1) 0).toNat : Int)) w := run_index_str (P := Tryz.prog) w 9 l .i64 (j + 1) Tryz.underlying9 (by rw [HL.out]; omega)
            rw [← HG.out j] at hi
            obtain ⟨d1, d2⟩ := HA.out j hlt
            have HV := Lib.hid (numV_take (l := b) (k := j) (by rw [HB.out]; exact hlt))
            have hv := numV_le (b.take j)
            generalize numV (b.take j) = V at *
            generalize (b.getD j 0).toNat = x at *
            by_cases hc : V * 10 + x - 48 ≤ 1099511627776
            · have hc' : ¬ (1099511627776 : Int) < (V : Int) * 10 + (x : Int) - 48 := by omega
              go_wp2
              go_roundw
              case rel => exact ⟨j + 1, by omega, by rw [HV.out]; congr 1; omega, by go_num, by first | rfl | trivial⟩
              case measure => simp [intOf]; omega
            · have hc' : (1099511627776 : Int) < (V : Int) * 10 + (x : Int) - 48 := by omega
              go_wp2
              go_roundw
              case rel => exact ⟨j + 1, by omega, by rw [HV.out]; congr 1; omega, by go_num, by first | rfl | trivial⟩
              case measure => simp [intOf]; omega
          · obtain rfl : j = d := by omega
            have hv := numV_le b
            have e1 : b.take j = b := List.take_of_length_le (by rw [HB.out]; omega)
            rw [e1]
            obtain ⟨V, hV⟩ : ∃ V, numV b = V := ⟨_, rfl⟩
            rw [hV] at hv ⊢
            have HV := Lib.hid hV
            clear hV e1
            go_wp2
            go_ret2
            exact ⟨by rw [HV.out]; simp, rfl⟩
end Go.Proofs.YthefieemngmnjaaGreatDoor

/- Contracts of layer 6: a number's digits. -/
namespace Go.Proofs.YthefieemngmnjaaGreatDoor
open Go.RowKit
set_option linter.unusedVariables false

theorem textC (n : Int) (w : World) (h0 : -9223372036854775808 ≤ n) (h1 : n ≤ 9223372036854775807) (hT : PTab Tryz.prog w) :
    Calls Tryz.prog 150 #[.int .i64 n] w (GivesStr (Lib.itoa n) w) := by
  have HI := Tryz.strconv_Itoa n h0 h1 w hT.tab
  go_enter Tryz.func150, Tryz.ntmps150
  go_wp2_with (go_at_call 160; (with_reducible refine HI.mono ?_); rintro e w1 ⟨rfl, k, os, rfl⟩)
  go_ret
  exact ⟨rfl, Lib.below_grow _ w (Nat.le_refl _) k os⟩

set_option maxRecDepth 100000 in
theorem refTextNat (N : Nat) (w : World) (h1 : N ≤ 9223372036854775807) :
    Calls Tryz.prog 109 #[.int .i64 (N : Int)] w (GivesStr (Lib.decDigits N) w) := by
  have hlen := Lib.nDigits_le20 N (by omega)
  rw [← Lib.decDigits_length] at hlen
  have hn : ¬ (N : Int) < 0 := by omega
  go_enter Tryz.func109, Tryz.ntmps109
  go_wp2
  go_loopw [0, 3] (fun v s wr => ∃ (M : Nat) (l : List UInt8), M ≤ 9223372036854775807 ∧ v = .int .i64 (M : Int) ∧ s = .string (str l) ∧ Hid (Lib.decDigits N = Lib.decDigits M ++ l) ∧ Below w.heap.size w wr) (fun v _ _ => (intOf v).toNat)
  case atStart => exact ⟨N, [], h1, rfl, rfl, by unfold Hid; simp, Below.refl _ _⟩
  case round =>
    obtain ⟨M, l, hM, rfl, rfl, H, hb⟩ := hrel
    have HB := Lib.hid hb
    have hbs := hb.size
    clear hb
    have hll : l.length ≤ 20 := by have := congrArg List.length H.out; simp at this; omega
    by_cases h : M < 10
    · have hd := digit_toNat M h
      have hone := fun (w : World) v (hv : v = ((UInt8.ofNat (48 + M)).toNat : Int)) => one_back (P := Tryz.prog) w 112 9 5 (UInt8.ofNat (48 + M)) v hv Tryz.underlying112 Tryz.underlying5 Tryz.underlying9
      have h2 := hone wr (48 + (M : Int)) (by rw [hd]; push_cast; rfl)
      have ha := fun (w : World) (y : UInt8) => run_add_str (P := Tryz.prog) w [y] l (by simp; omega)
      have h' : ¬ (9 : Int) < (M : Int) := by omega
      have HH := Lib.hid H.out
      rw [Lib.decDigits_one h] at HH
      generalize UInt8.ofNat (48 + M) = y at *
      clear hone H
      have ha2 := fun w => ha w y
      clear ha
      go_wp2
      go_ret
      exact ⟨by rw [HH.out]; rfl, HB.out.alloc hbs _⟩
    · have hd := digit_toNat (M % 10) (by omega)
      have hone := fun (w : World) v (hv : v = ((UInt8.ofNat (48 + M % 10)).toNat : Int)) => one_back (P := Tryz.prog) w 112 9 5 (UInt8.ofNat (48 + M % 10)) v hv Tryz.underlying112 Tryz.underlying5 Tryz.underlying9
      have h2 := hone wr (48 + (M : Int) % 10) (by rw [hd]; push_cast; rfl)
      have ha := fun (w : World) (y : UInt8) => run_add_str (P := Tryz.prog) w [y] l (by simp; omega)
      have h' : (9 : Int) < (M : Int) := by omega
      have HH := Lib.hid H.out
      have hM2 : M / 10 ≤ 9223372036854775807 := by omega
      have hM3 : M / 10 < M := by omega
      rw [decDigits_snoc M h] at HH
      generalize UInt8.ofNat (48 + M % 10) = y at *
      clear hone H
      have ha2 := fun w => ha w y
      clear ha
      go_wp2
      go_roundw
      case rel => exact ⟨M / 10, [y] ++ l, hM2, by push_cast; rfl, rfl, by unfold Hid; rw [HH.out, List.append_assoc], HB.out.alloc hbs _⟩
      case measure => simp [intOf]; omega

theorem refTextOne (n : Int) (w : World) (h0 : n < 0) (h1 : -10 < n) :
    Calls Tryz.prog 109 #[.int .i64 n] w (GivesStr (Lib.itoa n) w) := by
  have HN := fun (w : World) (v : Int) (hv : v = (n.natAbs : Int)) => hv ▸ refTextNat n.natAbs w (by omega)
  have hi : Lib.itoa n = [45] ++ Lib.decDigits n.natAbs := by unfold Lib.itoa; rw [if_pos h0]; rfl
  have hlen := Lib.nDigits_le20 n.natAbs (by omega)
  rw [← Lib.decDigits_length] at hlen
  rw [hi]
  unfold GivesStr at *
  have hd : ({ data := #[45] } : ByteArray) = str [45] := rfl
  generalize Lib.decDigits n.natAbs = t at *
  have ha := fun (w : World) => run_add_str (P := Tryz.prog) w [45] t (by simp; omega)
  rw [← hd] at ha
  clear hd hi
  go_enter Tryz.func109, Tryz.ntmps109
  go_wp2_with (go_at_call 109; (with_reducible refine (HN _ _ (by omega)).mono ?_); rintro e w1 ⟨rfl, hb⟩)
  go_ret
  exact ⟨rfl, hb⟩

theorem refTextMany (n : Int) (w : World) (h0 : n ≤ -10) (h1 : -9223372036854775808 ≤ n)
    (ih : ∀ w, Calls Tryz.prog 109 #[.int .i64 (-((n.natAbs / 10 : Nat) : Int))] w (GivesStr (Lib.itoa (-((n.natAbs / 10 : Nat) : Int))) w)) :
    Calls Tryz.prog 109 #[.int .i64 n] w (GivesStr (Lib.itoa n) w) := by
  obtain ⟨a, rfl, ha⟩ : ∃ a : Nat, n = -(a : Int) ∧ 10 ≤ a := ⟨n.natAbs, by omega, by omega⟩
  have hna : (-(a : Int)).natAbs = a := by omega
  rw [hna] at ih
  have HD := fun (w : World) => refTextNat (a % 10) w (by omega)
  have hi : Lib.itoa (-(a : Int)) = Lib.itoa (-((a / 10 : Nat) : Int)) ++ Lib.decDigits (a % 10) := by
    unfold Lib.itoa
    rw [if_pos (by omega), if_pos (by omega), hna, decDigits_snoc a (by omega), Lib.decDigits_one (by omega : a % 10 < 10)]
    have : (-((a / 10 : Nat) : Int)).natAbs = a / 10 := by omega
    rw [this]
    rfl
  have hlen := Lib.itoa_length_le (-((a / 10 : Nat) : Int)) (by omega) (by omega)
  have hlen2 : (Lib.decDigits (a % 10)).length ≤ 1 := by rw [Lib.decDigits_one (by omega)]; simp
  rw [hi]
  unfold GivesStr at *
  generalize Lib.itoa (-((a / 10 : Nat) : Int)) = t at *
  generalize Lib.decDigits (a % 10) = u at *
  have hadd := fun (w : World) => run_add_str (P := Tryz.prog) w t u (by omega)
  clear hi hna
  push_cast at ih HD
  have b1 : -(a : Int) < 0 := by omega
  have b2 : ¬ -10 < -(a : Int) := by omega
  go_enter Tryz.func109, Tryz.ntmps109
  go_wp2_with (go_at_call 109; first | ((with_reducible refine (ih _).mono ?_); rintro e1 w1 ⟨rfl, hb1⟩) | ((with_reducible refine (HD _).mono ?_); rintro e2 w2 ⟨rfl, hb2⟩))
  go_ret
  exact ⟨rfl, hb1.trans (hb2.mono hb1.size)⟩

/-- The reference's digits are the library's. -/
theorem refTextC (n : Int) (h0 : -9223372036854775808 ≤ n) (h1 : n ≤ 9223372036854775807) (w : World) :
    Calls Tryz.prog 109 #[.int .i64 n] w (GivesStr (Lib.itoa n) w) := by
  obtain ⟨k, hk⟩ : ∃ k, n.natAbs = k := ⟨_, rfl⟩
  induction k using Nat.strongRecOn generalizing n w with
  | ind k ih =>
    by_cases hn : 0 ≤ n
    · obtain ⟨N, rfl⟩ := Int.eq_ofNat_of_zero_le hn
      have := refTextNat N w (by omega)
      have e : Lib.itoa (N : Int) = Lib.decDigits N := by unfold Lib.itoa; rw [if_neg (by omega)]; rfl
      rw [e]
      exact this
    · by_cases h10 : -10 < n
      · exact refTextOne n w (by omega) h10
      · exact refTextMany n w (by omega) h0 fun w => ih (n.natAbs / 10) (by omega) _ (by omega) (by omega) w (by omega)
end Go.Proofs.YthefieemngmnjaaGreatDoor
