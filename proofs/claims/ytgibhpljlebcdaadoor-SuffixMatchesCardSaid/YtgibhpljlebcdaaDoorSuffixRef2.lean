/- Contracts of the reference of layer 9: rules, a name's last labels. -/
import Derived.Test.YtgibhpljlebcdaaDoorSuffixRef
namespace Go.Proofs.YtgibhpljlebcdaaDoor
open Go.RowKit
set_option linter.unusedVariables false

set_option maxRecDepth 100000 in
theorem refRightC (a : Option Addr) (len cap : Nat) (R : List (List UInt8)) (w : World) (hR : IsStrs w a len cap R) :
    Calls Tryd.prog 11 #[.slice a len cap] w fun e w' => e = .returned (.bool (R.all ruleB)) ∧ Below w.heap.size w w' := by
  obtain ⟨hN, hlc, hcm, -, r1, hml⟩ := hR
  have hlm : len ≤ 9223372036854775807 := by unfold maxLen at hcm; omega
  have HP := Lib.hid hN
  have HR : Hid (∀ k, k < len → ruleB (R.getD k []) = false → R.all ruleB = false) := fun k hk h => all_no' (by rw [HP.out]; exact hk) h
  have HY : Hid ((∀ j, j < len → ruleB (R.getD j []) = true) → R.all ruleB = true) := fun h => all_yes' (by rw [HP.out]; exact h)
  generalize R.all ruleB = z at *
  clear hN
  go_enter Tryd.func11, Tryd.ntmps11
  go_wp2
  go_loopw [3] (fun i wr => ∃ k : Nat, k ≤ len ∧ i = .int .i64 (k : Int) ∧ Hid (∀ j, j < k → ruleB (R.getD j []) = true) ∧ Below w.heap.size w wr) (fun i _ => len - (intOf i).toNat)
  case atStart => exact ⟨0, Nat.zero_le _, rfl, fun j hj => absurd hj (by omega), Below.refl _ _⟩
  case round =>
    obtain ⟨k, hk, rfl, H, hb⟩ := hrel
    by_cases hlt : k < len
    · have hlt' : (k : Int) < (len : Int) := by omega
      obtain ⟨g, off, rfl, hc⟩ := str_at (r1.below' hb) k (by rw [HP.out]; exact hlt)
      have hlk : (R.getD k []).length ≤ maxLen := hml _ (by
        have : k < R.length := by rw [HP.out]; exact hlt
        simp only [List.getD, List.getElem?_eq_getElem this, Option.getD_some]
        exact List.getElem_mem _)
      have HN := Lib.hid (fun (hp : ruleB (R.getD k []) = true) => (fun j hj => by
        rcases Nat.lt_succ_iff_lt_or_eq.1 hj with h | rfl
        · exact H.out j h
        · exact hp : ∀ j, j < k + 1 → ruleB (R.getD j []) = true))
      have HF := Lib.hid (HR.out k hlt)
      have HC := fun w => refRuleC (R.getD k []) _ w rfl hlk
      clear hml hlk
      generalize ruleB (R.getD k []) = t at *
      generalize R.getD k [] = x at hc HC
      cases t
      · have HF2 := Lib.hid (HF.out rfl)
        clear HN HF
        go_wp2_with (go_at_call 23; (with_reducible refine (HC _).mono ?_); rintro e w2 ⟨rfl, hx2⟩)
        go_ret
        exact ⟨by rw [HF2.out]; rfl, hb.trans (hx2.mono hb.size)⟩
      · have HN2 := Lib.hid (HN.out rfl)
        clear HN HF
        go_wp2_with (go_at_call 23; (with_reducible refine (HC _).mono ?_); rintro e w2 ⟨rfl, hx2⟩)
        go_roundw
        case rel => exact ⟨k + 1, by omega, by go_num, HN2.out, hb.trans (hx2.mono hb.size)⟩
        case measure => simp [intOf]; omega
    · obtain rfl : k = len := by omega
      have HE := Lib.hid (HY.out H.out)
      clear hml
      go_wp2
      go_ret
      exact ⟨by rw [HE.out]; rfl, hb⟩

theorem refCountC (l : List UInt8) (n : Nat) (w : World) (hl : l.length = n) (hm : n ≤ 1000000000000) :
    Calls Tryd.prog 27 #[.string (str l)] w fun e w' => e = .returned (.int .i64 ((splitL l 46).length : Int)) ∧ Below w.heap.size w w' := by
  have HS := fun w => refSplitDotC l n w hl hm
  unfold GivesStrs at HS
  generalize (splitL l 46).length = N at *
  clear hl
  go_enter Tryd.func27, Tryd.ntmps27
  go_wp2_with (go_at_call 25; (with_reducible refine (HS _).mono ?_); rintro e w1 ⟨a1, c1, rfl, ho1, hx1⟩)
  go_ret
  exact ⟨rfl, hx1⟩

set_option maxRecDepth 100000 in
theorem refTailC (l : List UInt8) (n m : Nat) (w : World) (hl : l.length = n) (hm : n ≤ 1000000000) (hp : ∀ x ∈ splitL l 46, x ≠ []) (hm2 : m ≤ 1000000000) :
    Calls Tryd.prog 29 #[.string (str l), .int .i64 (m : Int)] w fun e w' => e = .returned (.string (str (lastN l m))) ∧ Below w.heap.size w w' := by
  have HS := fun w => refSplitDotC l n w hl (by omega)
  unfold GivesStrs at HS
  have hN1 := splitL_pos l 46
  have hN2 := splitL_le l 46
  have hle := fun k hk => part_le l 46 k hk
  have htl := tail_le l
  have hnx := fun i hi => tail_next (s := l) i hi
  have hla := fun j hj => tail_last l j hj
  have hne := fun j hj => tail_ne hp j hj
  rw [hl] at hN2 hle htl
  unfold lastN
  generalize splitL l 46 = P at *
  obtain ⟨N, hN⟩ : ∃ N, P.length = N := ⟨_, rfl⟩
  rw [hN] at HS hN1 hN2 hle hnx hla hne ⊢
  have HP := Lib.hid hN
  clear hN hl hp
  generalize tailL l = T at *
  have hk := str_toList
  have e46 : ({ data := #[46] } : ByteArray) = str [46] := rfl
  have e0 : ({ data := #[] } : ByteArray) = str [] := rfl
  obtain ⟨G, hG⟩ : ∃ G, (if m = 0 then [] else T (N - m)) = G := ⟨_, rfl⟩
  rw [hG]
  have HG := Lib.hid hG
  clear hG
  go_enter Tryd.func29, Tryd.ntmps29
  go_wp2_with (go_at_call 25; (with_reducible refine (HS _).mono ?_); rintro e w1 ⟨a1, c1, rfl, ho1, hx1⟩)
  obtain ⟨g, rfl, -, l1⟩ := ho1.head hN1
  have r1 := ho1.reads
  clear HS ho1
  go_loopw [6, 7] (fun s i wr => ∃ j : Nat, j ≤ N ∧ N - m ≤ j ∧ s = .string (str (if j = N then [] else T j)) ∧ i = .int .i64 ((j : Int) - 1) ∧ Below w1.heap.size w1 wr) (fun _ i _ => ((intOf i) + 1).toNat)
  case atStart => exact ⟨N, Nat.le_refl _, by omega, by rw [if_pos rfl]; rfl, by first | rfl | (congr 1; omega), Below.refl _ _⟩
  case round =>
    obtain ⟨j, hj, hjm, rfl, rfl, hbr⟩ := hrel
    have hb := hx1.trans (hbr.mono hx1.size)
    rcases Nat.eq_zero_or_pos j with rfl | hj0
    · have hv : ((0 : Nat) : Int) - 1 = -1 := rfl
      have hif : (if (0 : Nat) = N then [] else T 0) = G := by
        rw [← HG.out, if_neg (by omega), if_neg (by omega)]
        congr 1
        omega
      rw [hif]
      clear hif hnx hla hne hle
      rw [hv]
      go_wp2
      go_ret
      exact ⟨rfl, hb⟩
    obtain ⟨i, rfl⟩ : ∃ i, j = i + 1 := ⟨j - 1, by omega⟩
    have hv : ((i + 1 : Nat) : Int) - 1 = (i : Int) := by omega
    rw [hv]
    have hi0 : (0 : Int) ≤ (i : Int) := by omega
    by_cases hc : N - m ≤ i
    · have hc' : (N : Int) - (m : Int) ≤ (i : Int) := by omega
      have hiN : i < N := by omega
      have hiN' : (i : Int) < (N : Int) := by omega
      obtain ⟨g', off, hgg, hcl⟩ := str_at (r1.below' hbr) i (by rw [HP.out]; exact hiN)
      simp only [Option.some.injEq, Addr.mk.injEq] at hgg
      obtain ⟨rfl, rfl, -⟩ := hgg
      rw [Nat.zero_add] at hcl
      have hlx := hle i hiN
      by_cases hjN : i + 1 = N
      · rw [if_pos hjN]
        have ht := hla i hjN
        have HT : Hid (T i = P.getD i []) := ht
        generalize P.getD i [] = x at *
        clear hnx hla hne hle ht
        go_wp2
        go_roundw
        case rel => exact ⟨i, by omega, hc, by rw [if_neg (by omega), HT.out], rfl, hbr⟩
        case measure => first | (simp [intOf]; done) | (simp [intOf]; omega)
      · rw [if_neg hjN]
        have HT : Hid (T i = P.getD i [] ++ 46 :: T (i + 1)) := hnx i (by omega)
        have hlt := htl i
        have hnz := hne (i + 1) (by omega)
        rw [HT.out] at hlt
        generalize P.getD i [] = x at *
        generalize T (i + 1) = y at *
        have hyn : (y == []) = false := by
          cases y with
          | nil => exact absurd rfl hnz
          | cons _ _ => rfl
        simp only [List.length_append, List.length_cons] at hlt
        have ha1 := fun w => run_add_str (P := Tryd.prog) w x [46] (by simp; omega)
        have ha2 := fun w => run_add_str (P := Tryd.prog) w (x ++ [46]) y (by simp; omega)
        rw [← e46] at ha1
        clear hnx hla hne hle hnz htl e46
        go_wp2
        go_roundw
        case rel => exact ⟨i, by omega, hc, by rw [if_neg (by omega), HT.out]; first | done | simp, rfl, hbr⟩
        case measure => first | (simp [intOf]; done) | (simp [intOf]; omega)
    · have hc' : ¬ (N : Int) - (m : Int) ≤ (i : Int) := by omega
      have hif : (if i + 1 = N then [] else T (i + 1)) = G := by
        rw [← HG.out]
        by_cases h0 : m = 0
        · rw [if_pos (by omega), if_pos h0]
        · rw [if_neg (by omega), if_neg h0]
          congr 1
          omega
      rw [hif]
      clear hif hnx hla hne hle
      go_wp2
      go_ret
      exact ⟨rfl, hb⟩
end Go.Proofs.YtgibhpljlebcdaaDoor
