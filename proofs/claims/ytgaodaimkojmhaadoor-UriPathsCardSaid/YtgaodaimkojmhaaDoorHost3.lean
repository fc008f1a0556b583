/- Contracts of layer 8: addresses in brackets, names, what a text is. -/
import Derived.Test.YtgaodaimkojmhaaDoorHost2
import Derived.Test.YtgaodaimkojmhaaDoorShelf
namespace Go.Proofs.YtgaodaimkojmhaaDoor
open Go.RowKit
set_option linter.unusedVariables false

def inB (l : List UInt8) : List UInt8 := Lib.trimSuffix (Lib.trimPrefix l [91]) [93]

def frontQ (l : List UInt8) : Bool := Lib.hasPrefix l [91]

def backQ (l : List UInt8) : Bool := Lib.hasSuffix (Lib.trimPrefix l [91]) [93]

theorem in_le (l : List UInt8) : (inB l).length ≤ l.length := by
  unfold inB Lib.trimSuffix Lib.trimPrefix
  split <;> split <;> simp <;> omega

theorem bracket_is (l : List UInt8) : bracketB l = (frontQ l && (backQ l && (decide (2 ≤ (inB l).length) && (decide ((inB l).length ≤ 45) && (inB l).all hexB)))) := by
  have hsuf : ∀ t : List UInt8, Lib.hasSuffix t [93] = true ∨ (Lib.hasSuffix t [93] = false ∧ ∀ p, t ≠ p ++ [93]) := fun t => by
    cases c : Lib.hasSuffix t [93] with
    | true => exact .inl rfl
    | false =>
      refine .inr ⟨rfl, fun p e => ?_⟩
      unfold Lib.hasSuffix at c
      have : List.isSuffixOf [93] t = true := List.isSuffixOf_iff_suffix.2 ⟨p, e.symm⟩
      rw [this] at c
      cases c
  cases l with
  | nil => rfl
  | cons x t =>
    by_cases hx : x = 91
    · subst hx
      have e1 : Lib.hasPrefix (91 :: t) [91] = true := by simp [Lib.hasPrefix]
      have e2 : Lib.trimPrefix (91 :: t) [91] = t := by unfold Lib.trimPrefix; rw [if_pos e1]; rfl
      unfold inB frontQ backQ
      rw [e1, e2, Bool.true_and]
      rcases hsuf t with h | ⟨h, hno⟩
      · have h0 := h
        unfold Lib.hasSuffix at h
        obtain ⟨p, rfl⟩ := List.isSuffixOf_iff_suffix.1 h
        have e3 : Lib.trimSuffix (p ++ [93]) [93] = p := by unfold Lib.trimSuffix; rw [if_pos h0]; simp
        rw [h0, e3, Bool.true_and]
        unfold bracketB
        have l1 : (91 :: (p ++ [93])).length = p.length + 2 := by simp
        rw [l1]
        have g1 : (91 :: (p ++ [93])).getD (p.length + 2 - 1) 0 = 93 := by simp [List.getD]
        have g2 : ((91 :: (p ++ [93])).drop 1).take (p.length + 2 - 2) = p := by simp
        have g3 : (91 :: (p ++ [93])).getD 0 0 = 91 := rfl
        rw [g1, g2, g3]
        have d1 : decide (4 ≤ p.length + 2) = decide (2 ≤ p.length) := by rw [decide_eq_decide]; omega
        have d2 : decide (p.length + 2 ≤ 47) = decide (p.length ≤ 45) := by rw [decide_eq_decide]; omega
        rw [d1, d2]
        simp
        rw [Bool.and_assoc]
      · rw [h, Bool.false_and, Bool.eq_false_iff]
        intro c
        unfold bracketB at c
        simp only [Bool.and_eq_true, decide_eq_true_iff, beq_iff_eq] at c
        obtain ⟨⟨⟨⟨c1, -⟩, -⟩, c2⟩, -⟩ := c
        refine hno (t.take (t.length - 1)) ?_
        have l1 : (91 :: t).length = t.length + 1 := by simp
        rw [l1] at c1 c2
        have := drop_last (l := t) (by omega)
        have e : t.getD (t.length - 1) 0 = 93 := by
          have e : t.length + 1 - 1 = (t.length - 1) + 1 := by omega
          rw [e] at c2
          simpa [List.getD] using c2
        rw [e] at this
        rw [← this, List.take_append_drop]
    · have e1 : Lib.hasPrefix (x :: t) [91] = false := by
        unfold Lib.hasPrefix
        rw [Bool.eq_false_iff]
        intro c
        obtain ⟨r, c⟩ := List.isPrefixOf_iff_prefix.1 c
        simp only [List.cons_append, List.nil_append, List.cons.injEq] at c
        exact hx c.1.symm
      unfold frontQ
      rw [e1, Bool.false_and]
      unfold bracketB
      have : ((x :: t).getD 0 0 == 91) = false := by rw [beq_eq_false_iff_ne]; exact hx
      rw [this]
      simp

theorem cutOpenC (l : List UInt8) (w : World) : Calls Tryd.prog 36 #[.string (str l), .string ⟨#[91]⟩] w fun e w' => e = .returned (.tuple #[.string (str (Lib.trimPrefix l [91])), .bool (frontQ l)]) ∧ w = w' := by
  refine (Tryd.strings_CutPrefix (str l) ⟨#[91]⟩ w).mono ?_
  rintro e w' ⟨rfl, rfl⟩
  rw [str_data]
  exact ⟨rfl, rfl⟩

theorem cutShutC (l : List UInt8) (w : World) (hm : (Lib.trimPrefix l [91]).length ≤ 9223372036854775807) : Calls Tryd.prog 69 #[.string (str (Lib.trimPrefix l [91])), .string ⟨#[93]⟩] w fun e w' => e = .returned (.tuple #[.string (str (inB l)), .bool (backQ l)]) ∧ w = w' := by
  refine (Tryd.strings_CutSuffix (str (Lib.trimPrefix l [91])) ⟨#[93]⟩ w (by rw [str_size]; exact hm)).mono ?_
  rintro e w' ⟨rfl, rfl⟩
  rw [str_data]
  exact ⟨rfl, rfl⟩

set_option maxRecDepth 100000 in
theorem isBracketedC (l : List UInt8) (n : Nat) (w : World) (hl : l.length = n) (hm : n ≤ maxLen) :
    Calls Tryd.prog 53 #[.string (str l)] w fun e w' => e = .returned (.bool (bracketB l)) ∧ w = w' := by
  have HC := fun w => cutOpenC l w
  have HS := fun w => cutShutC l w (by
    have : (Lib.trimPrefix l [91]).length ≤ l.length := by unfold Lib.trimPrefix; split <;> simp
    unfold maxLen at hm
    omega)
  rw [bracket_is]
  have hle := in_le l
  rw [hl] at hle
  generalize Lib.trimPrefix l [91] = o at *
  generalize frontQ l = f at *
  generalize backQ l = b at *
  generalize inB l = x at *
  obtain ⟨m, hx⟩ : ∃ m, x.length = m := ⟨_, rfl⟩
  have hsz : (str x).size = m := by rw [str_size, hx]
  have HA := fun w => allC 1 (by simp) x m w hx (by omega)
  change ∀ w, Calls Tryd.prog 70 #[.string (str x), .int .i64 1] w fun e w' => e = .returned (.bool (x.all hexB)) ∧ w = w' at HA
  rw [hx]
  generalize x.all hexB = a at *
  clear hl hx hle hm
  cases f with
  | false =>
    go_enter Tryd.func53, Tryd.ntmps53
    go_wp2_with (first
      | (go_at_call 36; (with_reducible refine (HC _).mono ?_); rintro e w2 ⟨rfl, rfl⟩)
      | (go_at_call 69; (with_reducible refine (HS _).mono ?_); rintro e w2 ⟨rfl, rfl⟩))
    go_ret
    exact ⟨rfl, rfl⟩
  | true =>
    cases b with
    | false =>
      go_enter Tryd.func53, Tryd.ntmps53
      go_wp2_with (first
        | (go_at_call 36; (with_reducible refine (HC _).mono ?_); rintro e w2 ⟨rfl, rfl⟩)
        | (go_at_call 69; (with_reducible refine (HS _).mono ?_); rintro e w2 ⟨rfl, rfl⟩))
      go_ret
      exact ⟨rfl, rfl⟩
    | true =>
      rw [Bool.true_and, Bool.true_and]
      by_cases h1 : 2 ≤ m
      · rw [decide_eq_true h1, Bool.true_and]
        have h1' : (2 : Int) ≤ (m : Int) := by omega
        by_cases h2 : m ≤ 45
        · rw [decide_eq_true h2, Bool.true_and]
          have h2' : (m : Int) ≤ 45 := by omega
          go_enter Tryd.func53, Tryd.ntmps53
          go_wp2_with (first
            | (go_at_call 36; (with_reducible refine (HC _).mono ?_); rintro e w2 ⟨rfl, rfl⟩)
            | (go_at_call 69; (with_reducible refine (HS _).mono ?_); rintro e w2 ⟨rfl, rfl⟩)
            | (go_at_call 70; (with_reducible refine (HA _).mono ?_); rintro e w2 ⟨rfl, rfl⟩))
          go_ret
          exact ⟨rfl, rfl⟩
        · rw [decide_eq_false h2, Bool.false_and]
          have h2' : ¬ (m : Int) ≤ 45 := by omega
          go_enter Tryd.func53, Tryd.ntmps53
          go_wp2_with (first
            | (go_at_call 36; (with_reducible refine (HC _).mono ?_); rintro e w2 ⟨rfl, rfl⟩)
            | (go_at_call 69; (with_reducible refine (HS _).mono ?_); rintro e w2 ⟨rfl, rfl⟩))
          go_ret
          exact ⟨rfl, rfl⟩
      · rw [decide_eq_false h1, Bool.false_and]
        have h1' : ¬ (2 : Int) ≤ (m : Int) := by omega
        go_enter Tryd.func53, Tryd.ntmps53
        go_wp2_with (first
          | (go_at_call 36; (with_reducible refine (HC _).mono ?_); rintro e w2 ⟨rfl, rfl⟩)
          | (go_at_call 69; (with_reducible refine (HS _).mono ?_); rintro e w2 ⟨rfl, rfl⟩))
        go_ret
        exact ⟨rfl, rfl⟩

set_option maxRecDepth 100000 in
theorem isNameC (l : List UInt8) (n : Nat) (w : World) (hl : l.length = n) (hm : n ≤ 1000000000000) :
    Calls Tryd.prog 54 #[.string (str l)] w fun e w' => e = .returned (.bool ((splitL l 46).all labelB)) ∧ Below w.heap.size w w' := by
  have HS := fun w => splitDotC l n w hl hm
  unfold GivesStrs at HS
  have hle := fun k hk => part_le l 46 k hk
  have hNn := splitL_le l 46
  rw [hl] at hle hNn
  generalize splitL l 46 = P at *
  obtain ⟨N, hN⟩ : ∃ N, P.length = N := ⟨_, rfl⟩
  rw [hN] at HS hle hNn
  have HP := Lib.hid hN
  have HR : Hid (∀ k, k < N → labelB (P.getD k []) = false → P.all labelB = false) := fun k hk h => all_no' (by rw [HP.out]; exact hk) h
  have HY : Hid ((∀ j, j < N → labelB (P.getD j []) = true) → P.all labelB = true) := fun h => all_yes' (by rw [HP.out]; exact h)
  generalize P.all labelB = R at *
  clear hN hl
  go_enter Tryd.func54, Tryd.ntmps54
  go_wp2_with (go_at_call 67; (with_reducible refine (HS _).mono ?_); rintro e w1 ⟨a1, c1, rfl, ho1, hx1⟩)
  have r1 := ho1.reads
  clear HS ho1
  go_loopw [8] (fun i wr => ∃ k : Nat, k ≤ N ∧ i = .int .i64 (k : Int) ∧ Hid (∀ j, j < k → labelB (P.getD j []) = true) ∧ Below w1.heap.size w1 wr) (fun i _ => N - (intOf i).toNat)
  case atStart => exact ⟨0, Nat.zero_le _, rfl, fun j hj => absurd hj (by omega), Below.refl _ _⟩
  case round =>
    obtain ⟨k, hk, rfl, H, hbr⟩ := hrel
    have hb := hx1.trans (hbr.mono hx1.size)
    by_cases hlt : k < N
    · have hlt' : (k : Int) < (N : Int) := by omega
      obtain ⟨g, off, rfl, hc⟩ := str_at (r1.below' hbr) k (by rw [HP.out]; exact hlt)
      have hlk := hle k hlt
      have HN := Lib.hid (fun (hp : labelB (P.getD k []) = true) => (fun j hj => by
        rcases Nat.lt_succ_iff_lt_or_eq.1 hj with h | rfl
        · exact H.out j h
        · exact hp : ∀ j, j < k + 1 → labelB (P.getD j []) = true))
      have HF := Lib.hid (HR.out k hlt)
      have HC := fun w => isLabelC (P.getD k []) _ w rfl (by unfold maxLen; omega)
      clear hle
      generalize labelB (P.getD k []) = t at *
      generalize P.getD k [] = x at hc HC
      cases t
      · have HF2 := Lib.hid (HF.out rfl)
        clear HN HF
        go_wp2_with (go_at_call 71; (with_reducible refine (HC _).mono ?_); rintro e w2 ⟨rfl, rfl⟩)
        go_ret
        exact ⟨by rw [HF2.out]; rfl, hb⟩
      · have HN2 := Lib.hid (HN.out rfl)
        clear HN HF
        go_wp2_with (go_at_call 71; (with_reducible refine (HC _).mono ?_); rintro e w2 ⟨rfl, rfl⟩)
        go_roundw
        case rel => exact ⟨k + 1, by omega, by go_num, HN2.out, hbr⟩
        case measure => simp [intOf]; omega
    · obtain rfl : k = N := by omega
      have HE := Lib.hid (HY.out H.out)
      clear hle
      go_wp2
      go_ret
      exact ⟨by rw [HE.out]; rfl, hb⟩

set_option maxRecDepth 100000 in
theorem kindOfC (l : List UInt8) (n : Nat) (w : World) (hl : l.length = n) (hm : n ≤ maxLen) (hT : PTab Tryd.prog w) :
    Calls Tryd.prog 35 #[.string (str l)] w fun e w' => e = .returned (.int .i64 (kindN l : Int)) ∧ Below w.heap.size w w' := by
  have hb := Below.refl w.heap.size w
  have hsz : (str l).size = n := by rw [str_size, hl]
  unfold kindN addrB
  rw [hl]
  by_cases h : 256 < n
  · rw [if_pos h]
    have h' : (256 : Int) < (n : Int) := by omega
    clear hl
    go_enter Tryd.func35, Tryd.ntmps35
    go_wp2
    go_ret
    exact ⟨rfl, hb⟩
  · rw [if_neg h]
    have h' : ¬ (256 : Int) < (n : Int) := by omega
    have HF := fun w (h : PTab Tryd.prog w) => isFourC l n w hl (by omega) h
    have HB := fun w => isBracketedC l n w hl hm
    have HN := fun w => isNameC l n w hl (by omega)
    generalize quadB l = q at *
    generalize bracketB l = b at *
    generalize (splitL l 46).all labelB = m at *
    clear hl
    cases q <;> cases b <;> cases m
    all_goals (
      go_enter Tryd.func35, Tryd.ntmps35
      go_wp2_with (first
        | (go_at_call 52; (with_reducible refine (HF _ (hT.below hb)).mono ?_); rintro e w1 ⟨rfl, hx⟩; have hb := hb.trans (hx.mono hb.size); clear hx)
        | (go_at_call 53; (with_reducible refine (HB _).mono ?_); rintro e w1 ⟨rfl, rfl⟩)
        | (go_at_call 54; (with_reducible refine (HN _).mono ?_); rintro e w1 ⟨rfl, hx⟩; have hb := hb.trans (hx.mono hb.size); clear hx))
      go_ret
      exact ⟨rfl, hb⟩)
end Go.Proofs.YtgaodaimkojmhaaDoor
