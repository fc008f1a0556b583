/- Contracts of layer 11: the program's own functions. -/
import Derived.Test.YtilgcphpieiliaaPathRef2
import Derived.Test.YtilgcphpieiliaaAscii4
import Derived.Test.YtilgcphpieiliaaShelf
import Derived.BigQuiet
namespace Go.Proofs.Ytilgcphpieiliaa
open Go.RowKit
set_option linter.unusedVariables false

theorem slash_take {l : List UInt8} {k : Nat} (hk : k < l.length) : slashN (l.take (k + 1)) = slashN (l.take k) + (if (l.getD k 0 == 47) = true then 1 else 0) := by
  unfold slashN
  rw [take_snoc hk, List.countP_append]
  simp [List.countP_cons]

theorem byte_bang {l : List UInt8} {k : Nat} (hk : k < l.length) : ((str l).data[k]!).toNat = (l.getD k 0).toNat := by
  have : (str l).data = l.toArray := rfl
  rw [this]
  simp [hk]

theorem last_slash {l : List UInt8} : ∀ k, k ≤ l.length → Lib.lastIdx (str l) 47 k = (lastS l k : Int) - 1
  | 0, _ => rfl
  | k + 1, hk => by
    unfold Lib.lastIdx lastS
    have hg := byte_bang (l := l) (k := k) (by omega)
    have e0 : (l.getD k 0 == 47) = (((l.getD k 0).toNat : Int) == 47) := u8_is (l.getD k 0) 47 (by omega)
    rw [hg, e0]
    by_cases h : ((l.getD k 0).toNat : Int) = 47
    · rw [if_pos h, if_pos (by rw [beq_iff_eq]; exact h)]
      omega
    · rw [if_neg h, if_neg (by rw [beq_iff_eq]; exact h)]
      exact last_slash k (by omega)

theorem lastS_pos {l : List UInt8} (h : l.getD 0 0 = 47) : ∀ k, 1 ≤ k → 1 ≤ lastS l k
  | 0, h1 => absurd h1 (by omega)
  | k + 1, _ => by
    unfold lastS
    split
    · omega
    · rename_i h1
      rcases Nat.eq_zero_or_pos k with rfl | hk
      · exact absurd (by rw [h]; rfl) h1
      · exact lastS_pos h k hk

theorem slash_head (l : List UInt8) : Lib.hasPrefix l [47] = decide (l.getD 0 0 = 47) := by
  cases l with
  | nil => rfl
  | cons x t =>
    show ((47 : UInt8) == x && true) = decide (x = 47)
    rw [Bool.and_true, Bool.eq_iff_iff, decide_eq_true_iff, beq_iff_eq]
    exact eq_comm

theorem slash_tail (l : List UInt8) : Lib.hasSuffix l [47] = (decide (0 < l.length) && (l.getD (l.length - 1) 0 == 47)) := by
  rcases List.eq_nil_or_concat l with rfl | ⟨i, x, rfl⟩
  · rfl
  · have h1 : Lib.hasSuffix (i.concat x) [47] = (x == 47) := by
      unfold Lib.hasSuffix
      rw [Bool.eq_iff_iff, List.isSuffixOf_iff_suffix, beq_iff_eq, List.concat_eq_append]
      constructor
      · rintro ⟨t, ht⟩
        have h := (List.append_inj' ht rfl).2
        simpa using h.symm
      · rintro rfl
        exact ⟨i, rfl⟩
    rw [h1, List.concat_eq_append]
    simp

theorem ahead_is (p c : List UInt8) : Lib.hasPrefix p c = (decide (c.length ≤ p.length) && (p.take c.length == c)) := by
  unfold Lib.hasPrefix
  rw [Bool.eq_iff_iff, List.isPrefixOf_iff_prefix, Bool.and_eq_true, decide_eq_true_iff, beq_iff_eq]
  constructor
  · intro h
    exact ⟨h.length_le, (List.prefix_iff_eq_take.1 h).symm⟩
  · rintro ⟨_, h⟩
    exact List.prefix_iff_eq_take.2 h.symm

theorem fit_is (p c : List UInt8) : fitP p c = (Lib.hasPrefix p c && ((Lib.trimPrefix p c == []) || (Lib.hasSuffix c [47] || Lib.hasPrefix (Lib.trimPrefix p c) [47]))) := by
  unfold Lib.trimPrefix
  cases h : Lib.hasPrefix p c with
  | false =>
    rw [ahead_is] at h
    unfold fitP
    rw [Bool.false_and]
    cases h1 : decide (c.length ≤ p.length) with
    | false => rfl
    | true =>
      rw [h1, Bool.true_and] at h
      rw [h]
      rfl
  | true =>
    rw [ahead_is, Bool.and_eq_true, decide_eq_true_iff] at h
    obtain ⟨h1, h2⟩ := h
    unfold fitP
    rw [if_pos rfl, slash_tail, slash_head, h2, decide_eq_true h1, Bool.true_and, Bool.true_and, Bool.true_and]
    have e1 : (p.drop c.length == []) = decide (p.length = c.length) := by
      rw [Bool.eq_iff_iff, beq_iff_eq, decide_eq_true_iff, List.drop_eq_nil_iff]
      omega
    have e2 : decide ((p.drop c.length).getD 0 0 = 47) = (p.getD c.length 0 == 47) := by
      rw [Bool.eq_iff_iff, beq_iff_eq, decide_eq_true_iff]
      simp [List.getD]
    rw [e1, e2]

theorem lastSlashC (l : List UInt8) (n : Nat) (w : World) (hl : l.length = n) (hm : n ≤ 1000) :
    Calls Try.prog 14 #[.string (str l), .string ⟨#[47]⟩] w fun e w' => e = .returned (.int .i64 ((lastS l n : Int) - 1)) ∧ w = w' := by
  refine (Try.strings_LastIndex_one (str l) ⟨#[47]⟩ rfl (by rw [str_size]; omega) w).mono ?_
  rintro e w' ⟨rfl, rfl⟩
  have h := last_slash (l := l) l.length (Nat.le_refl _)
  refine ⟨?_, rfl⟩
  show Ending.returned (.int .i64 (Lib.lastIdx (str l) 47 (str l).size)) = _
  rw [str_size, h, hl]

theorem headSlashC (l : List UInt8) (w : World) :
    Calls Try.prog 15 #[.string (str l), .string ⟨#[47]⟩] w fun e w' => e = .returned (.bool (decide (l.getD 0 0 = 47))) ∧ w = w' := by
  refine (Try.strings_HasPrefix (str l) ⟨#[47]⟩ w).mono ?_
  rintro e w' ⟨rfl, rfl⟩
  rw [str_data, ← slash_head]
  exact ⟨rfl, rfl⟩

theorem tailSlashC (l : List UInt8) (w : World) (hm : l.length ≤ 1000) :
    Calls Try.prog 17 #[.string (str l), .string ⟨#[47]⟩] w fun e w' => e = .returned (.bool (Lib.hasSuffix l [47])) ∧ w = w' := by
  refine (Try.strings_HasSuffix (str l) ⟨#[47]⟩ w (by rw [str_size]; omega)).mono ?_
  rintro e w' ⟨rfl, rfl⟩
  rw [str_data]
  exact ⟨rfl, rfl⟩

theorem cutPathC (l c : List UInt8) (w : World) :
    Calls Try.prog 16 #[.string (str l), .string (str c)] w fun e w' => e = .returned (.tuple #[.string (str (Lib.trimPrefix l c)), .bool (Lib.hasPrefix l c)]) ∧ w = w' := by
  refine (Try.strings_CutPrefix (str l) (str c) w).mono ?_
  rintro e w' ⟨rfl, rfl⟩
  rw [str_data, str_data]
  exact ⟨rfl, rfl⟩

set_option maxRecDepth 100000 in
theorem pathDefaultC (l : List UInt8) (n : Nat) (w : World) (hl : l.length = n) (hm : n ≤ 1000) :
    Calls Try.prog 8 #[.string (str l)] w fun e w' => e = .returned (.string (str (defaultL l))) ∧ Below w.heap.size w w' := by
  have hsz : (str l).size = n := by rw [str_size, hl]
  have HL := fun w => lastSlashC l n w hl hm
  have HH := fun w => headSlashC l w
  have hx : ∀ k, (str l).extract 0 k = str (l.take k) := fun k => by rw [str_extract]; simp
  have hle := lastS_le l n
  have hb := Below.refl w.heap.size w
  unfold defaultL
  rw [hl]
  by_cases h47 : l.getD 0 0 = 47
  · have hn : 1 ≤ n := by
      cases l with
      | nil => exact absurd h47 (by decide)
      | cons x t => rw [← hl, List.length_cons]; omega
    have h1 := lastS_pos h47 n hn
    rw [decide_eq_true h47] at HH
    generalize lastS l n = q at *
    by_cases hq : q = 1
    · subst hq
      rw [if_pos (.inl (Nat.le_refl 1))]
      have hz : ((1 : Nat) : Int) - 1 = 0 := rfl
      rw [hz] at HL
      clear hl h47 hle hx h1 hz
      go_enter Try.func8, Try.ntmps8
      go_wp2_with (first
        | (go_at_call 14; (with_reducible refine (HL _).mono ?_); rintro e w1 ⟨rfl, rfl⟩)
        | (go_at_call 15; (with_reducible refine (HH _).mono ?_); rintro e w1 ⟨rfl, rfl⟩))
      go_ret
      exact ⟨rfl, hb⟩
    · obtain ⟨m, rfl⟩ : ∃ m, q = m + 1 := ⟨q - 1, by omega⟩
      have hz : ((m + 1 : Nat) : Int) - 1 = (m : Int) := by omega
      rw [if_neg (by rintro (c | c)
                     · omega
                     · exact c h47)]
      have hx1 := hx m
      have hq0 : ((m : Int) == 0) = false := by rw [beq_eq_false_iff_ne]; omega
      have hm1 : (m : Int) ≤ (n : Int) := by omega
      have hm0 : (0 : Int) ≤ (m : Int) := by omega
      have e1 : m + 1 - 1 = m := rfl
      rw [hz] at HL
      rw [e1]
      generalize l.take m = y at *
      clear hl h47 hle hx h1 hz hq e1
      go_enter Try.func8, Try.ntmps8
      go_wp2_with (first
        | (go_at_call 14; (with_reducible refine (HL _).mono ?_); rintro e w1 ⟨rfl, rfl⟩)
        | (go_at_call 15; (with_reducible refine (HH _).mono ?_); rintro e w1 ⟨rfl, rfl⟩))
      go_ret
      exact ⟨rfl, hb⟩
  · rw [decide_eq_false h47] at HH
    rw [if_pos (.inr h47)]
    generalize lastS l n = q at *
    by_cases hq : q = 1
    · subst hq
      have hz : ((1 : Nat) : Int) - 1 = 0 := rfl
      rw [hz] at HL
      clear hl h47 hle hx hz
      go_enter Try.func8, Try.ntmps8
      go_wp2_with (first
        | (go_at_call 14; (with_reducible refine (HL _).mono ?_); rintro e w1 ⟨rfl, rfl⟩)
        | (go_at_call 15; (with_reducible refine (HH _).mono ?_); rintro e w1 ⟨rfl, rfl⟩))
      go_ret
      exact ⟨rfl, hb⟩
    · have hq0 : (((q : Int) - 1) == 0) = false := by rw [beq_eq_false_iff_ne]; omega
      generalize (q : Int) - 1 = z at *
      clear hl h47 hle hx hq
      go_enter Try.func8, Try.ntmps8
      go_wp2_with (first
        | (go_at_call 14; (with_reducible refine (HL _).mono ?_); rintro e w1 ⟨rfl, rfl⟩)
        | (go_at_call 15; (with_reducible refine (HH _).mono ?_); rintro e w1 ⟨rfl, rfl⟩))
      go_ret
      exact ⟨rfl, hb⟩

set_option maxRecDepth 100000 in
theorem pathMatchC (p c : List UInt8) (n m : Nat) (w : World) (hl : p.length = n) (hm : n ≤ 1000) (hl2 : c.length = m) (hm2 : m ≤ 1000) :
    Calls Try.prog 11 #[.string (str p), .string (str c)] w fun e w' => e = .returned (.bool (fitP p c)) ∧ Below w.heap.size w w' := by
  have hb := Below.refl w.heap.size w
  have HC := fun w => cutPathC p c w
  have HS := fun w => tailSlashC c w (by omega)
  have HH := fun w => headSlashC (Lib.trimPrefix p c) w
  have hk := str_toList
  have e0 : ({ data := #[] } : ByteArray) = str [] := rfl
  rw [fit_is]
  rw [slash_head]
  generalize decide ((Lib.trimPrefix p c).getD 0 0 = 47) = h at *
  generalize Lib.trimPrefix p c = y at *
  generalize Lib.hasPrefix p c = b at *
  generalize Lib.hasSuffix c [47] = s at *
  obtain ⟨q, hq⟩ : ∃ q, (y == []) = q := ⟨_, rfl⟩
  rw [hq]
  clear hl hm hl2 hm2
  cases b
  · go_enter Try.func11, Try.ntmps11
    go_wp2_with (go_at_call 16; (with_reducible refine (HC _).mono ?_); rintro e w1 ⟨rfl, rfl⟩)
    go_ret
    exact ⟨rfl, hb⟩
  · cases q <;> cases s <;> cases h
    all_goals (
      go_enter Try.func11, Try.ntmps11
      go_wp2_with (first
        | (go_at_call 16; (with_reducible refine (HC _).mono ?_); rintro e w1 ⟨rfl, rfl⟩)
        | (go_at_call 17; (with_reducible refine (HS _).mono ?_); rintro e w1 ⟨rfl, rfl⟩)
        | (go_at_call 15; (with_reducible refine (HH _).mono ?_); rintro e w1 ⟨rfl, rfl⟩))
      go_ret
      exact ⟨rfl, hb⟩)

set_option maxRecDepth 100000 in
theorem pathDepthC (l : List UInt8) (n : Nat) (w : World) (hl : l.length = n) (hm : n ≤ 1000) :
    Calls Try.prog 10 #[.string (str l)] w fun e w' => e = .returned (.int .i64 (slashN l : Int)) ∧ Below w.heap.size w w' := by
  have hsz : (str l).size = n := by rw [str_size, hl]
  have HL := Lib.hid hl
  have hb0 := Below.refl w.heap.size w
  clear hl
  go_enter Try.func10, Try.ntmps10
  go_wp2
  go_loopw [3, 7] (fun v i wr => ∃ k : Nat, k ≤ n ∧ v = .int .i64 (slashN (l.take k) : Int) ∧ i = .int .i64 (k : Int) ∧ Below w.heap.size w wr) (fun _ i _ => n - (intOf i).toNat)
  case atStart => exact ⟨0, Nat.zero_le _, rfl, rfl, hb0⟩
  case round =>
    clear hb0
    obtain ⟨k, hk, rfl, rfl, hb⟩ := hrel
    have hle : slashN (l.take k) ≤ k := by unfold slashN; refine Nat.le_trans List.countP_le_length ?_; rw [List.length_take]; omega
    by_cases hlt : k < n
    · have hlt' : (k : Int) < (n : Int) := by omega
      have hi := fun w => run_index_str (P := Try.prog) w 9 l .i64 k Try.underlying9 (by rw [HL.out]; exact hlt)
      have HS : Hid (slashN (l.take (k + 1)) = slashN (l.take k) + (if (l.getD k 0 == 47) = true then 1 else 0)) := slash_take (by rw [HL.out]; exact hlt)
      have e0 := u8_is (l.getD k 0) 47 (by omega)
      obtain ⟨b, hb1, hb2⟩ : ∃ b, (l.getD k 0 == 47) = b ∧ (((l.getD k 0).toNat : Int) == 47) = b := ⟨_, rfl, e0.symm⟩
      rw [hb1] at HS
      have hb2 : (((l.getD k 0).toNat : Int) == (((⟨#[47]⟩ : ByteArray)[0]'(by decide)).toNat : Int)) = b := hb2
      clear e0 hb1
      generalize (l.getD k 0).toNat = x at *
      generalize slashN (l.take k) = q at *
      cases b
      · have HS2 : Hid (slashN (l.take (k + 1)) = q) := by unfold Hid; rw [HS.out]; rfl
        clear HS
        go_wp2_with fail
        go_quiet (fail)
        go_wp2
        go_roundw
        case rel => exact ⟨k + 1, by omega, by rw [HS2.out], by go_num, below_draws hb _⟩
        case measure => simp [intOf]; omega
      · have HS2 : Hid (slashN (l.take (k + 1)) = q + 1) := by unfold Hid; rw [HS.out]; rfl
        clear HS
        go_wp2_with fail
        go_quiet (fail)
        go_wp2
        go_roundw
        case rel => exact ⟨k + 1, by omega, by rw [HS2.out]; go_num, by go_num, below_draws hb _⟩
        case measure => simp [intOf]; omega
    · obtain rfl : k = n := by omega
      have e1 : l.take k = l := List.take_of_length_le (by rw [HL.out]; exact Nat.le_refl _)
      rw [e1] at hle ⊢
      obtain ⟨q, hq⟩ : ∃ q, slashN l = q := ⟨_, rfl⟩
      have HQ := Lib.hid hq
      rw [hq] at hle ⊢
      clear hq e1
      go_wp2
      go_ret
      exact ⟨by rw [HQ.out]; rfl, hb⟩

/-- The directories ahead of the last one, as they are told one by one. -/
def upsL (l : List UInt8) (k : Nat) : List (List UInt8) := (List.range k).map fun i => upD l (i + 1)
theorem ups_snoc (l : List UInt8) (k : Nat) : upsL l k ++ [upD l (k + 1)] = upsL l (k + 1) := by
  unfold upsL
  rw [List.range_succ, List.map_append]
  rfl

theorem ups_at {l : List UInt8} {k i : Nat} (h : i < k) : (upsL l k).getD i [] = upD l (i + 1) := by
  unfold upsL
  simp [List.getD, h]

theorem ups_all {l : List UInt8} (h : l.getD 0 0 = 47) (h0 : 1 ≤ l.length) {k : Nat} (h1 : k < (partsP l).length) (h2 : upD l (k + 1) = [47]) : upsL l (k + 1) = partsP l := by
  obtain ⟨_, hp⟩ := parts_is h h0
  have hk := (hp k h1)
  have hK : k + 1 = (partsP l).length := hk.2.1 (by rw [hk.1, h2])
  refine List.ext_getElem (by unfold upsL; rw [List.length_map, List.length_range, hK]) fun i a b => ?_
  have e := (hp i b).1
  have e2 : (partsP l).getD i [] = (partsP l)[i] := by simp [List.getD, b]
  have e3 : (upsL l (k + 1)).getD i [] = (upsL l (k + 1))[i] := by simp [List.getD, a]
  rw [← e2, ← e3, e]
  exact ups_at (by omega)

theorem ups_more {l : List UInt8} (h : l.getD 0 0 = 47) (h0 : 1 ≤ l.length) {k : Nat} (h1 : k < (partsP l).length) (h2 : upD l (k + 1) ≠ [47]) : k + 1 < (partsP l).length := by
  obtain ⟨_, hp⟩ := parts_is h h0
  have hk := hp k h1
  by_cases c : k + 1 = (partsP l).length
  · exact absurd (hk.1 ▸ hk.2.2 c) h2
  · omega

theorem parts_few (l : List UInt8) : (partsP l).length ≤ l.length + 1 := by
  have hF : ∀ (k : Nat) (l : List UInt8), (partsF k l).length ≤ k + 1 := by
    intro k
    induction k with
    | zero => intro l; exact Nat.le_refl _
    | succ k ih =>
      intro l
      unfold partsF
      split
      · simp
      · rw [List.length_cons]
        have := ih (defaultL l)
        omega
  unfold partsP
  split
  · exact hF _ _
  · simp

def rowLen : Value → Nat
  | .slice _ n _ => n
  | _ => 0

set_option maxHeartbeats 1000000 in
set_option maxRecDepth 100000 in
theorem pathPartsC (l : List UInt8) (n : Nat) (w : World) (hl : l.length = n) (hm : n ≤ 1000) :
    Calls Try.prog 13 #[.string (str l)] w (GivesStrs (partsP l) w) := by
  have HH := fun w => headSlashC l w
  have hb0 := Below.refl w.heap.size w
  have hown0 : ∀ v : World, Owned w.heap.size 9 none 0 0 [] v := fun v => ⟨World.ownsRow_nil v _ _ _, Reads.nil _ _, fun _ => rfl, Nat.le_refl _, Nat.zero_le _, rfl⟩
  by_cases h47 : l.getD 0 0 = 47
  · have h0 : 1 ≤ l.length := by
      cases l with
      | nil => exact absurd h47 (by decide)
      | cons x t => rw [List.length_cons]; omega
    rw [decide_eq_true h47] at HH
    obtain ⟨i0, hi, hz0, hz1, hz2⟩ := info_parts infoStr
    have hk := str_toList
    have HD : ∀ (k : Nat) (w : World), Calls Try.prog 8 #[.string (str (upD l k))] w fun e w' => e = .returned (.string (str (upD l (k + 1)))) ∧ Below w.heap.size w w' := fun k w =>
      pathDefaultC (upD l k) _ w rfl (by have := upD_le l k; omega)
    have HM : ∀ k, k < (partsP l).length → upD l (k + 1) ≠ [47] → k + 1 < (partsP l).length := fun k => ups_more h47 h0
    have HE : ∀ k, k < (partsP l).length → upD l (k + 1) = [47] → upsL l (k + 1) = partsP l := fun k => ups_all h47 h0
    have hlen := (parts_is h47 h0).1
    have hfew := parts_few l
    have HN : ∀ k, upsL l k ++ [upD l (k + 1)] = upsL l (k + 1) := ups_snoc l
    have hu0 : upsL l 0 = [] := rfl
    have HD0 := HD 0
    change ∀ w, Calls Try.prog 8 #[.string (str l)] w _ at HD0
    obtain ⟨K, hK⟩ : ∃ K, (partsP l).length = K := ⟨_, rfl⟩
    rw [hK] at HM HE hlen hfew
    have HK := Lib.hid hK
    clear hK h47 h0
    generalize hU : upD l = U at *
    generalize hV : upsL l = V at *
    generalize hP : partsP l = P at *
    clear hU hV hP
    go_enter Try.func13, Try.ntmps13
    go_wp2_with (first
      | (go_at_call 15; (with_reducible refine (HH _).mono ?_); rintro e w1 ⟨rfl, rfl⟩)
      | (go_at_call 8; (with_reducible refine (HD0 _).mono ?_); rintro e w1 ⟨rfl, hb1⟩))
    go_loopw [3, 4] (fun v d wr => ∃ (k : Nat) (a : Option Addr) (C : Nat), k < K ∧ v = .slice a k C ∧ d = .string (str (U (k + 1))) ∧ Owned w.heap.size 9 a k C (strs (V k)) wr ∧ Below w.heap.size w wr) (fun v _ _ => K - rowLen v)
    case atStart => exact ⟨0, none, 0, hlen, rfl, rfl, by rw [hu0]; exact hown0 _, hb1⟩
    case round =>
      clear HH HD0 hb1 hu0 hown0
      obtain ⟨k, a, C, hkK, rfl, rfl, ho, hb⟩ := hrel
      have HDk := HD (k + 1)
      have hMk := HM k hkK
      have hEk := HE k hkK
      have hNk := HN k
      have hbs := hb.size
      clear HD HM HE HN
      generalize hY : U (k + 1) = y at *
      by_cases he : y = [47]
      · subst he
        have hE := Lib.hid (hEk rfl)
        clear hEk hMk HDk
        go_wp2_with (at_builtin; refine wpList_append_one rfl (.tmp 18) (.tmp 19) 28 rfl 9 i0 (.string ⟨#[]⟩) 16 Try.underlying28 hi hz0 hz1 hz2 rfl ho.1 rfl rfl rfl (by unfold maxLen; omega) (by omega) hbs ?_; intro v2 w2 ho2 hb2; obtain ⟨a2, c2, rfl, ho3⟩ := Owned.of ho2)
        have e47 : Value.string ⟨#[47]⟩ = Value.string (str [47]) := rfl
        rw [e47, strs_snoc, hNk, hE.out] at ho3
        have hn : k + 1 = P.length := by rw [← strs_length, ← ho3.len]
        go_ret
        refine ⟨a2, c2, ?_, ?_, hb.trans hb2⟩
        · rw [← hn]; rfl
        · rw [← hn]; exact ho3
      · have hne : (y == [47]) = false := by rw [beq_eq_false_iff_ne]; exact he
        have hM := hMk he
        clear hEk hMk
        go_wp2_with (first
          | (at_builtin; refine wpList_append_one rfl (.tmp 14) (.tmp 16) 28 rfl 9 i0 (.string ⟨#[]⟩) 16 Try.underlying28 hi hz0 hz1 hz2 rfl ho.1 rfl rfl rfl (by unfold maxLen; omega) (by omega) hbs ?_; intro v2 w2 ho2 hb2; obtain ⟨a2, c2, rfl, ho3⟩ := Owned.of ho2; rw [strs_snoc, hNk] at ho3)
          | (go_at_call 8; (with_reducible refine (HDk _).mono ?_); rintro e w3 ⟨rfl, hb3⟩))
        go_roundw
        case rel => exact ⟨k + 1, a2, c2, hM, by go_num, rfl, ho3.below hb3 (Nat.le_refl _), (hb.trans hb2).trans (hb3.mono (by have := hb2.size; omega))⟩
        case measure => simp [rowLen]; omega
  · rw [decide_eq_false h47] at HH
    have e : partsP l = [] := by unfold partsP; rw [if_neg (fun c => h47 c.2)]
    rw [e]
    go_enter Try.func13, Try.ntmps13
    go_wp2_with (go_at_call 15; (with_reducible refine (HH _).mono ?_); rintro e w1 ⟨rfl, rfl⟩)
    go_ret
    exact ⟨none, 0, rfl, hown0 _, hb0⟩
end Go.Proofs.Ytilgcphpieiliaa
