/- Contracts and plain words that the laws' proofs stand on, put together. -/
import Derived.Test.YthefieemngmnjaaGreatDoorLibAD
import Derived.Test.YthefieemngmnjaaGreatDoorLibAC
import Derived.Test.YthefieemngmnjaaGreatDoorShelf
import Derived.BigQuiet
/- Paths in plain words: directories, which path fits which. No program in it. -/
namespace Go.Proofs.YthefieemngmnjaaGreatDoor
open Go.RowKit
set_option linter.unusedVariables false

/-- The place behind the last slash of the first so many bytes; 0: there is none. -/
def lastS (l : List UInt8) : Nat → Nat
  | 0 => 0
  | k + 1 => if (l.getD k 0 == 47) = true then k + 1 else lastS l k

theorem lastS_le (l : List UInt8) : ∀ k, lastS l k ≤ k
  | 0 => Nat.le_refl _
  | k + 1 => by
    unfold lastS
    split
    · exact Nat.le_refl _
    · exact Nat.le_succ_of_le (lastS_le l k)

/-- A path's directory. -/
def defaultL (l : List UInt8) : List UInt8 := if lastS l l.length ≤ 1 ∨ l.getD 0 0 ≠ 47 then [47] else l.take (lastS l l.length - 1)
/-- Does a path fit a cookie's? -/
def fitP (p c : List UInt8) : Bool := decide (c.length ≤ p.length) && (p.take c.length == c && (decide (p.length = c.length) || (decide (0 < c.length) && c.getD (c.length - 1) 0 == 47 || p.getD c.length 0 == 47)))
def slashN (l : List UInt8) : Nat := l.countP (· == 47)

theorem getD_take {l : List UInt8} {n k : Nat} (h : k < n) : (l.take n).getD k 0 = l.getD k 0 := by
  simp only [List.getD, List.getElem?_take]
  rw [if_pos h]

theorem default_head (l : List UInt8) : (defaultL l).getD 0 0 = 47 ∧ 1 ≤ (defaultL l).length := by
  unfold defaultL
  split
  · exact ⟨rfl, by simp⟩
  · rename_i h
    have hle := lastS_le l l.length
    have h1 : 1 < lastS l l.length := by
      by_cases c : lastS l l.length ≤ 1
      · exact absurd (.inl c) h
      · omega
    have h2 : l.getD 0 0 = 47 := by
      by_cases c : l.getD 0 0 = 47
      · exact c
      · exact absurd (.inr c) h
    refine ⟨by rw [getD_take (by omega)]; exact h2, ?_⟩
    rw [List.length_take]
    omega

end Go.Proofs.YthefieemngmnjaaGreatDoor

/- Contracts of the reference of layer 11. -/
namespace Go.Proofs.YthefieemngmnjaaGreatDoor
open Go.RowKit
set_option linter.unusedVariables false

theorem first_slash {l : List UInt8} (hl : 0 < l.length) : (((l.getD 0 0).toNat : Int) == 47) = decide (l.getD 0 0 = 47) := by
  have := u8_is (l.getD 0 0) 47 (by omega)
  rw [Bool.eq_iff_iff, decide_eq_true_iff]
  have e : (((l.getD 0 0).toNat : Int) == 47) = (l.getD 0 0 == 47) := this.symm
  rw [e, beq_iff_eq]

set_option maxRecDepth 100000 in
theorem refDefaultC (l : List UInt8) (n : Nat) (w : World) (hl : l.length = n) (hm : n ≤ maxLen) :
    Calls Tryz.prog 30 #[.string (str l)] w fun e w' => e = .returned (.string (str (defaultL l))) ∧ w = w' := by
  have hsz : (str l).size = n := by rw [str_size, hl]
  unfold maxLen at hm
  have hx : ∀ k, (str l).extract 0 k = str (l.take k) := fun k => by rw [str_extract]; simp
  have HL := Lib.hid hl
  obtain ⟨G, hG⟩ : ∃ G, defaultL l = G := ⟨_, rfl⟩
  rw [hG]
  have HG := Lib.hid hG
  clear hl hG
  go_enter Tryz.func30, Tryz.ntmps30
  go_wp2
  go_loopw [3, 4] (fun v i wr => ∃ k : Nat, k ≤ n ∧ v = .int .i64 ((lastS l k : Int) - 1) ∧ i = .int .i64 (k : Int) ∧ w = wr) (fun _ i _ => n - (intOf i).toNat)
  case atStart => exact ⟨0, Nat.zero_le _, rfl, rfl, rfl⟩
  case round =>
    obtain ⟨k, hk, rfl, rfl, rfl⟩ := hrel
    have hle := lastS_le l k
    by_cases hlt : k < n
    · have hlt' : (k : Int) < (n : Int) := by omega
      have hi := run_index_str (P := Tryz.prog) w 9 l .i64 k Tryz.underlying9 (by rw [HL.out]; exact hlt)
      have HS : Hid (lastS l (k + 1) = if (l.getD k 0 == 47) = true then k + 1 else lastS l k) := rfl
      have e0 := u8_is (l.getD k 0) 47 (by omega)
      obtain ⟨b, hb1, hb2⟩ : ∃ b, (l.getD k 0 == 47) = b ∧ (((l.getD k 0).toNat : Int) == 47) = b := ⟨_, rfl, e0.symm⟩
      rw [hb1] at HS
      clear e0 hb1
      generalize (l.getD k 0).toNat = x at *
      generalize lastS l k = q at *
      cases b
      · have HS2 : Hid (lastS l (k + 1) = q) := by unfold Hid; rw [HS.out]; rfl
        clear HS
        go_wp2
        go_roundw
        case rel => exact ⟨k + 1, by omega, by rw [HS2.out], by go_num, by first | rfl | trivial⟩
        case measure => simp [intOf]; omega
      · have HS2 : Hid (lastS l (k + 1) = k + 1) := by unfold Hid; rw [HS.out]; rfl
        clear HS
        go_wp2
        go_roundw
        case rel => exact ⟨k + 1, by omega, by rw [HS2.out]; congr 1; omega, by go_num, by first | rfl | trivial⟩
        case measure => simp [intOf]; omega
    · obtain rfl : k = n := by omega
      have HG2 := Lib.hid HG.out
      unfold defaultL at HG2
      rw [HL.out] at HG2
      generalize lastS l k = q at *
      by_cases hq : q ≤ 1
      · have hq' : (q : Int) - 1 ≤ 0 := by omega
        have HE : Hid (G = [47]) := by unfold Hid; rw [← HG2.out, if_pos (.inl hq)]
        clear HG HG2
        go_wp2
        go_ret
        exact ⟨by rw [HE.out]; rfl, rfl⟩
      · have hq' : ¬ (q : Int) - 1 ≤ 0 := by omega
        have i0 := first_str (P := Tryz.prog) w 9 l Tryz.underlying9 (by rw [HL.out]; omega)
        have e0 := first_slash (l := l) (by rw [HL.out]; omega)
        obtain ⟨m, rfl⟩ : ∃ m, q = m + 1 := ⟨q - 1, by omega⟩
        have hm1 : ((m + 1 : Nat) : Int) - 1 = (m : Int) := by omega
        have hx1 := hx m
        by_cases h47 : l.getD 0 0 = 47
        · have HE : Hid (G = l.take m) := by
            unfold Hid
            rw [← HG2.out, if_neg (by rintro (c | c) <;> contradiction)]
            rfl
          rw [decide_eq_true h47] at e0
          have e1 : (((l.getD 0 0).toNat : Int) != 47) = false := by rw [bne, e0]; rfl
          have hm2 : (m : Int) ≤ (k : Int) := by omega
          have hm3 : (0 : Int) ≤ (m : Int) := by omega
          generalize (l.getD 0 0).toNat = x at *
          clear HG HG2 h47 hx
          go_wp2
          go_ret
          exact ⟨by rw [HE.out, ← hx1]; rfl, rfl⟩
        · have HE : Hid (G = [47]) := by unfold Hid; rw [← HG2.out, if_pos (.inr h47)]
          rw [decide_eq_false h47] at e0
          have e1 : (((l.getD 0 0).toNat : Int) != 47) = true := by rw [bne, e0]; rfl
          generalize (l.getD 0 0).toNat = x at *
          clear HG HG2 h47 hx
          go_wp2
          go_ret
          exact ⟨by rw [HE.out]; rfl, rfl⟩
end Go.Proofs.YthefieemngmnjaaGreatDoor

/- Contracts of the reference of layer 11: which path fits which. -/
namespace Go.Proofs.YthefieemngmnjaaGreatDoor
open Go.RowKit
set_option linter.unusedVariables false

set_option maxHeartbeats 1000000 in
set_option maxRecDepth 100000 in
theorem refFitC (p c : List UInt8) (n m : Nat) (w : World) (hl : p.length = n) (hm : n ≤ maxLen) (hl2 : c.length = m) (hm2 : m ≤ maxLen) :
    Calls Tryz.prog 15 #[.string (str p), .string (str c)] w fun e w' => e = .returned (.bool (fitP p c)) ∧ w = w' := by
  have s1 : (str p).size = n := by rw [str_size, hl]
  have s2 : (str c).size = m := by rw [str_size, hl2]
  unfold maxLen at hm hm2
  have hk := str_toList
  have hx : (str p).extract 0 m = str (p.take m) := by rw [str_extract]; simp
  rcases Nat.eq_zero_or_pos m with h3 | h3
  · subst h3
    obtain rfl : c = [] := List.eq_nil_of_length_eq_zero hl2
    have hf : fitP p [] = (decide (n = 0) || p.getD 0 0 == 47) := by
      unfold fitP
      rw [hl]
      simp
    rw [hf]
    have hn0 : ¬ (n : Int) < 0 := by omega
    rcases Nat.eq_zero_or_pos n with h0 | h0
    · subst h0
      obtain rfl : p = [] := List.eq_nil_of_length_eq_zero hl
      clear hl hl2 hf
      go_enter Tryz.func15, Tryz.ntmps15
      go_wp2
      go_ret
      exact ⟨rfl, rfl⟩
    · have i0 := first_str (P := Tryz.prog) w 9 p Tryz.underlying9 (by omega)
      have e2 := u8_is (p.getD 0 0) 47 (by omega)
      obtain ⟨b2, f1, f2⟩ : ∃ b, (p.getD 0 0 == 47) = b ∧ (((p.getD 0 0).toNat : Int) == 47) = b := ⟨_, rfl, e2.symm⟩
      rw [f1, decide_eq_false (by omega), Bool.false_or]
      have n0 : ((n : Int) == 0) = false := by rw [beq_eq_false_iff_ne]; omega
      clear e2 f1 hl hl2 hf
      generalize (p.getD 0 0).toNat = x2 at *
      go_enter Tryz.func15, Tryz.ntmps15
      go_wp2
      go_ret
      exact ⟨rfl, rfl⟩
  unfold fitP
  rw [hl, hl2]
  by_cases h1 : m ≤ n
  · have h1' : ¬ (n : Int) < (m : Int) := by omega
    have h1'' : (m : Int) ≤ (n : Int) := by omega
    rw [decide_eq_true h1, Bool.true_and]
    cases hq : (p.take m == c) with
    | false =>
      have hq2 : (p.take m != c) = true := by rw [bne, hq]; rfl
      generalize p.take m = y at *
      clear hl hl2
      go_enter Tryz.func15, Tryz.ntmps15
      go_wp2
      go_ret
      exact ⟨rfl, rfl⟩
    | true =>
      have hq2 : (p.take m != c) = false := by rw [bne, hq]; rfl
      rw [Bool.true_and]
      generalize hy : p.take m = y at *
      by_cases h2 : n = m
      · have h2' : ((n : Int) == (m : Int)) = true := by rw [beq_iff_eq]; omega
        rw [decide_eq_true h2, Bool.true_or]
        clear hl hl2
        go_enter Tryz.func15, Tryz.ntmps15
        go_wp2
        all_goals (go_ret; exact ⟨rfl, rfl⟩)
      · have h2' : ((n : Int) == (m : Int)) = false := by rw [beq_eq_false_iff_ne]; omega
        rw [decide_eq_false h2, Bool.false_or]
        have hi2 := run_index_str (P := Tryz.prog) w 9 p .i64 m Tryz.underlying9 (by omega)
        have e2 := u8_is (p.getD m 0) 47 (by omega)
        obtain ⟨b2, f1, f2⟩ : ∃ b, (p.getD m 0 == 47) = b ∧ (((p.getD m 0).toNat : Int) == 47) = b := ⟨_, rfl, e2.symm⟩
        rw [f1]
        have hlt : (m : Int) < (n : Int) := by omega
        clear e2 f1
        generalize (p.getD m 0).toNat = x2 at *
        rw [decide_eq_true h3, Bool.true_and]
        have h3' : (0 : Int) < (m : Int) := by omega
        obtain ⟨j, rfl⟩ : ∃ j, m = j + 1 := ⟨m - 1, by omega⟩
        have hj : ((j + 1 : Nat) : Int) - 1 = (j : Int) := by omega
        have hj2 : (j : Int) < ((j + 1 : Nat) : Int) := by omega
        have hj3 : (0 : Int) ≤ (j : Int) := by omega
        have hi1 := run_index_str (P := Tryz.prog) w 9 c .i64 j Tryz.underlying9 (by omega)
        have e1 := u8_is (c.getD j 0) 47 (by omega)
        obtain ⟨b1, g1, g2⟩ : ∃ b, (c.getD j 0 == 47) = b ∧ (((c.getD j 0).toNat : Int) == 47) = b := ⟨_, rfl, e1.symm⟩
        have ej : j + 1 - 1 = j := rfl
        rw [ej, g1]
        clear e1 g1 ej
        generalize (c.getD j 0).toNat = x1 at *
        generalize j + 1 = J at *
        clear hl hl2 hy
        cases b1
        all_goals (
          go_enter Tryz.func15, Tryz.ntmps15
          go_wp2
          go_ret
          first | exact ⟨rfl, rfl⟩ | exact ⟨by simp, rfl⟩)
  · have h1' : (n : Int) < (m : Int) := by omega
    rw [decide_eq_false h1]
    clear hl hl2
    go_enter Tryz.func15, Tryz.ntmps15
    go_wp2
    go_ret
    exact ⟨rfl, rfl⟩
end Go.Proofs.YthefieemngmnjaaGreatDoor

/- Contracts of layer 11: the program's own functions. -/
namespace Go.Proofs.YthefieemngmnjaaGreatDoor
open Go.RowKit
set_option linter.unusedVariables false

theorem byte_bang {l : List UInt8} {k : Nat} (hk : k < l.length) : ((str l).data[k]!).toNat = (l.getD k 0).toNat := by
  have : (str l).data = l.toArray := rfl
  rw [this]
  simp [hk]

theorem last_slash {l : List UInt8} : ∀ k, k ≤ l.length → Lib.lastIdx (str l) 47 k = (lastS l k : Int) - 1
  | 0, _ => rfl
  | k + 1, hk => by
    unfold Lib.lastIdx lastS
    have hg := byte_bang (l := l) (k := k) (by omega)
    have e0 : (l.getD k 0 == 47) = (((l.getD k 0).toNat : Int) == 47) := u8_is (l.getD k 0) 47 (by omega)
    rw [hg, e0]
    by_cases h : ((l.getD k 0).toNat : Int) = 47
    · rw [if_pos h, if_pos (by rw [beq_iff_eq]; exact h)]
      omega
    · rw [if_neg h, if_neg (by rw [beq_iff_eq]; exact h)]
      exact last_slash k (by omega)

theorem lastS_pos {l : List UInt8} (h : l.getD 0 0 = 47) : ∀ k, 1 ≤ k → 1 ≤ lastS l k
  | 0, h1 => absurd h1 (by omega)
  | k + 1, _ => by
    unfold lastS
    split
    · omega
    · rename_i h1
      rcases Nat.eq_zero_or_pos k with rfl | hk
      · exact absurd (by rw [h]; rfl) h1
      · exact lastS_pos h k hk

theorem slash_head (l : List UInt8) : Lib.hasPrefix l [47] = decide (l.getD 0 0 = 47) := by
  cases l with
  | nil => rfl
  | cons x t =>
    show ((47 : UInt8) == x && true) = decide (x = 47)
    rw [Bool.and_true, Bool.eq_iff_iff, decide_eq_true_iff, beq_iff_eq]
    exact eq_comm

theorem slash_tail (l : List UInt8) : Lib.hasSuffix l [47] = (decide (0 < l.length) && (l.getD (l.length - 1) 0 == 47)) := by
  rcases List.eq_nil_or_concat l with rfl | ⟨i, x, rfl⟩
  · rfl
  · have h1 : Lib.hasSuffix (i.concat x) [47] = (x == 47) := by
      unfold Lib.hasSuffix
      rw [Bool.eq_iff_iff, List.isSuffixOf_iff_suffix, beq_iff_eq, List.concat_eq_append]
      constructor
      · rintro ⟨t, ht⟩
        have h := (List.append_inj' ht rfl).2
        simpa using h.symm
      · rintro rfl
        exact ⟨i, rfl⟩
    rw [h1, List.concat_eq_append]
    simp

theorem ahead_is (p c : List UInt8) : Lib.hasPrefix p c = (decide (c.length ≤ p.length) && (p.take c.length == c)) := by
  unfold Lib.hasPrefix
  rw [Bool.eq_iff_iff, List.isPrefixOf_iff_prefix, Bool.and_eq_true, decide_eq_true_iff, beq_iff_eq]
  constructor
  · intro h
    exact ⟨h.length_le, (List.prefix_iff_eq_take.1 h).symm⟩
  · rintro ⟨_, h⟩
    exact List.prefix_iff_eq_take.2 h.symm

theorem fit_is (p c : List UInt8) : fitP p c = (Lib.hasPrefix p c && ((Lib.trimPrefix p c == []) || (Lib.hasSuffix c [47] || Lib.hasPrefix (Lib.trimPrefix p c) [47]))) := by
  unfold Lib.trimPrefix
  cases h : Lib.hasPrefix p c with
  | false =>
    rw [ahead_is] at h
    unfold fitP
    rw [Bool.false_and]
    cases h1 : decide (c.length ≤ p.length) with
    | false => rfl
    | true =>
      rw [h1, Bool.true_and] at h
      rw [h]
      rfl
  | true =>
    rw [ahead_is, Bool.and_eq_true, decide_eq_true_iff] at h
    obtain ⟨h1, h2⟩ := h
    unfold fitP
    rw [if_pos rfl, slash_tail, slash_head, h2, decide_eq_true h1, Bool.true_and, Bool.true_and, Bool.true_and]
    have e1 : (p.drop c.length == []) = decide (p.length = c.length) := by
      rw [Bool.eq_iff_iff, beq_iff_eq, decide_eq_true_iff, List.drop_eq_nil_iff]
      omega
    have e2 : decide ((p.drop c.length).getD 0 0 = 47) = (p.getD c.length 0 == 47) := by
      rw [Bool.eq_iff_iff, beq_iff_eq, decide_eq_true_iff]
      simp [List.getD]
    rw [e1, e2]

theorem lastSlashC (l : List UInt8) (n : Nat) (w : World) (hl : l.length = n) (hm : n ≤ 100000) :
    Calls Tryz.prog 99 #[.string (str l), .string ⟨#[47]⟩] w fun e w' => e = .returned (.int .i64 ((lastS l n : Int) - 1)) ∧ w = w' := by
  refine (Tryz.strings_LastIndex_one (str l) ⟨#[47]⟩ rfl (by rw [str_size]; omega) w).mono ?_
  rintro e w' ⟨rfl, rfl⟩
  have h := last_slash (l := l) l.length (Nat.le_refl _)
  refine ⟨?_, rfl⟩
  show Ending.returned (.int .i64 (Lib.lastIdx (str l) 47 (str l).size)) = _
  rw [str_size, h, hl]

theorem headSlashC (l : List UInt8) (w : World) :
    Calls Tryz.prog 44 #[.string (str l), .string ⟨#[47]⟩] w fun e w' => e = .returned (.bool (decide (l.getD 0 0 = 47))) ∧ w = w' := by
  refine (Tryz.strings_HasPrefix (str l) ⟨#[47]⟩ w).mono ?_
  rintro e w' ⟨rfl, rfl⟩
  rw [str_data, ← slash_head]
  exact ⟨rfl, rfl⟩

theorem tailSlashC (l : List UInt8) (w : World) (hm : l.length ≤ 100000) :
    Calls Tryz.prog 72 #[.string (str l), .string ⟨#[47]⟩] w fun e w' => e = .returned (.bool (Lib.hasSuffix l [47])) ∧ w = w' := by
  refine (Tryz.strings_HasSuffix (str l) ⟨#[47]⟩ w (by rw [str_size]; omega)).mono ?_
  rintro e w' ⟨rfl, rfl⟩
  rw [str_data]
  exact ⟨rfl, rfl⟩

theorem cutPathC (l c : List UInt8) (w : World) :
    Calls Tryz.prog 71 #[.string (str l), .string (str c)] w fun e w' => e = .returned (.tuple #[.string (str (Lib.trimPrefix l c)), .bool (Lib.hasPrefix l c)]) ∧ w = w' := by
  refine (Tryz.strings_CutPrefix (str l) (str c) w).mono ?_
  rintro e w' ⟨rfl, rfl⟩
  rw [str_data, str_data]
  exact ⟨rfl, rfl⟩

set_option maxRecDepth 100000 in
theorem pathDefaultC (l : List UInt8) (n : Nat) (w : World) (hl : l.length = n) (hm : n ≤ 100000) :
    Calls Tryz.prog 54 #[.string (str l)] w fun e w' => e = .returned (.string (str (defaultL l))) ∧ Below w.heap.size w w' := by
  have hsz : (str l).size = n := by rw [str_size, hl]
  have HL := fun w => lastSlashC l n w hl hm
  have HH := fun w => headSlashC l w
  have hx : ∀ k, (str l).extract 0 k = str (l.take k) := fun k => by rw [str_extract]; simp
  have hle := lastS_le l n
  have hb := Below.refl w.heap.size w
  unfold defaultL
  rw [hl]
  by_cases h47 : l.getD 0 0 = 47
  · have hn : 1 ≤ n := by
      cases l with
      | nil => exact absurd h47 (by decide)
      | cons x t => rw [← hl, List.length_cons]; omega
    have h1 := lastS_pos h47 n hn
    rw [decide_eq_true h47] at HH
    generalize lastS l n = q at *
    by_cases hq : q = 1
    · subst hq
      rw [if_pos (.inl (Nat.le_refl 1))]
      have hz : ((1 : Nat) : Int) - 1 = 0 := rfl
      rw [hz] at HL
      clear hl h47 hle hx h1 hz
      go_enter Tryz.func54, Tryz.ntmps54
      go_wp2_with (first
        | (go_at_call 99; (with_reducible refine (HL _).mono ?_); rintro e w1 ⟨rfl, rfl⟩)
        | (go_at_call 44; (with_reducible refine (HH _).mono ?_); rintro e w1 ⟨rfl, rfl⟩))
      go_ret
      exact ⟨rfl, hb⟩
    · obtain ⟨m, rfl⟩ : ∃ m, q = m + 1 := ⟨q - 1, by omega⟩
      have hz : ((m + 1 : Nat) : Int) - 1 = (m : Int) := by omega
      rw [if_neg (by rintro (c | c)
                     · omega
                     · exact c h47)]
      have hx1 := hx m
      have hq0 : ((m : Int) == 0) = false := by rw [beq_eq_false_iff_ne]; omega
      have hm1 : (m : Int) ≤ (n : Int) := by omega
      have hm0 : (0 : Int) ≤ (m : Int) := by omega
      have e1 : m + 1 - 1 = m := rfl
      rw [hz] at HL
      rw [e1]
      generalize l.take m = y at *
      clear hl h47 hle hx h1 hz hq e1
      go_enter Tryz.func54, Tryz.ntmps54
      go_wp2_with (first
        | (go_at_call 99; (with_reducible refine (HL _).mono ?_); rintro e w1 ⟨rfl, rfl⟩)
        | (go_at_call 44; (with_reducible refine (HH _).mono ?_); rintro e w1 ⟨rfl, rfl⟩))
      go_ret
      exact ⟨rfl, hb⟩
  · rw [decide_eq_false h47] at HH
    rw [if_pos (.inr h47)]
    generalize lastS l n = q at *
    by_cases hq : q = 1
    · subst hq
      have hz : ((1 : Nat) : Int) - 1 = 0 := rfl
      rw [hz] at HL
      clear hl h47 hle hx hz
      go_enter Tryz.func54, Tryz.ntmps54
      go_wp2_with (first
        | (go_at_call 99; (with_reducible refine (HL _).mono ?_); rintro e w1 ⟨rfl, rfl⟩)
        | (go_at_call 44; (with_reducible refine (HH _).mono ?_); rintro e w1 ⟨rfl, rfl⟩))
      go_ret
      exact ⟨rfl, hb⟩
    · have hq0 : (((q : Int) - 1) == 0) = false := by rw [beq_eq_false_iff_ne]; omega
      generalize (q : Int) - 1 = z at *
      clear hl h47 hle hx hq
      go_enter Tryz.func54, Tryz.ntmps54
      go_wp2_with (first
        | (go_at_call 99; (with_reducible refine (HL _).mono ?_); rintro e w1 ⟨rfl, rfl⟩)
        | (go_at_call 44; (with_reducible refine (HH _).mono ?_); rintro e w1 ⟨rfl, rfl⟩))
      go_ret
      exact ⟨rfl, hb⟩

set_option maxRecDepth 100000 in
theorem pathMatchC (p c : List UInt8) (n m : Nat) (w : World) (hl : p.length = n) (hm : n ≤ 100000) (hl2 : c.length = m) (hm2 : m ≤ 100000) :
    Calls Tryz.prog 39 #[.string (str p), .string (str c)] w fun e w' => e = .returned (.bool (fitP p c)) ∧ Below w.heap.size w w' := by
  have hb := Below.refl w.heap.size w
  have HC := fun w => cutPathC p c w
  have HS := fun w => tailSlashC c w (by omega)
  have HH := fun w => headSlashC (Lib.trimPrefix p c) w
  have hk := str_toList
  have e0 : ({ data := #[] } : ByteArray) = str [] := rfl
  rw [fit_is]
  rw [slash_head]
  generalize decide ((Lib.trimPrefix p c).getD 0 0 = 47) = h at *
  generalize Lib.trimPrefix p c = y at *
  generalize Lib.hasPrefix p c = b at *
  generalize Lib.hasSuffix c [47] = s at *
  obtain ⟨q, hq⟩ : ∃ q, (y == []) = q := ⟨_, rfl⟩
  rw [hq]
  clear hl hm hl2 hm2
  cases b
  · go_enter Tryz.func39, Tryz.ntmps39
    go_wp2_with (go_at_call 71; (with_reducible refine (HC _).mono ?_); rintro e w1 ⟨rfl, rfl⟩)
    go_ret
    exact ⟨rfl, hb⟩
  · cases q <;> cases s <;> cases h
    all_goals (
      go_enter Tryz.func39, Tryz.ntmps39
      go_wp2_with (first
        | (go_at_call 71; (with_reducible refine (HC _).mono ?_); rintro e w1 ⟨rfl, rfl⟩)
        | (go_at_call 72; (with_reducible refine (HS _).mono ?_); rintro e w1 ⟨rfl, rfl⟩)
        | (go_at_call 44; (with_reducible refine (HH _).mono ?_); rintro e w1 ⟨rfl, rfl⟩))
      go_ret
      exact ⟨rfl, hb⟩)

end Go.Proofs.YthefieemngmnjaaGreatDoor
