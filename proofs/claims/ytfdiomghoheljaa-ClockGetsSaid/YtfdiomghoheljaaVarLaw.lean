/- The walks of layer 2's laws. -/
import Derived.Test.YtfdiomghoheljaaVar
import Derived.Test.YtfdiomghoheljaaOpen
namespace Go.Proofs.Ytfdiomghoheljaa
open Go.RowKit
set_option linter.unusedVariables false

theorem GivesRow.owned {l : List Int} {w w' : World} {e : Ending} (h : GivesRow l w e w') (n : Nat) (hn : l.length = n) : GivesOwned 5 (l.map (Value.int .u8)) n w e w' := by
  subst hn
  obtain ⟨v, rfl, h1, h2⟩ := h
  obtain ⟨a, c, rfl, h3⟩ := Owned.of h1
  exact ⟨a, c, rfl, h3, h2⟩

theorem putO (l q : List Int) (n L : Nat) (a : Option Addr) (c N : Nat) (w : World) (hq : short N = q) (hn : l.length = n) (hL : (l ++ q).length = L) (ha : Reads w a (l.map (Value.int .u8))) (hc : a = none → c = 0) (hm : n ≤ 1000000000000) (h : N ≤ 18446744073709551615) :
    Calls Try.prog 47 #[.slice a n c, .int .u64 (N : Int)] w (GivesOwned 5 ((l ++ q).map (Value.int .u8)) L w) := by
  subst hn hq
  exact (putC l a c N w ha hc hm h).mono fun e w' hG => hG.owned L hL

theorem sameO (l : List Int) (n : Nat) (hn : l.length = n) (a b : Option Addr) (c d : Nat) (w : World) (ha : Reads w a (l.map (Value.int .u8))) (hb : Reads w b (l.map (Value.int .u8))) (hm : n ≤ maxLen) :
    Calls Try.prog 25 #[.slice a n c, .slice b n d] w fun e w' => e = .returned (.bool true) ∧ ∃ n, w' = w.drewN n := by
  subst hn
  exact sameC l a b c d w ha hb hm

theorem refPutO (q : List Int) (N n : Nat) (w : World) (hq : short N = q) (hn : q.length = n) (h : N ≤ 18446744073709551615) :
    Calls Try.prog 51 #[.int .u64 (N : Int)] w (GivesOwned 5 (q.map (Value.int .u8)) n w) := by
  subst hq
  exact (refPutC N w h).mono fun e w' hG => hG.owned n hn

theorem short300 : short 300 = [172, 2] := by rw [short_ge 300 (by omega), short_lt _ (by omega)]; rfl
theorem got172 : got [172, 2, 9] 0 0 = (300, 2, 0) := by decide

theorem put300 (w : World) : Calls Try.prog 47 #[.slice none 0 0, .int .u64 300] w (GivesOwned 5 [.int .u8 172, .int .u8 2] 2 w) :=
  putO [] [172, 2] 0 2 none 0 300 w short300 rfl rfl (Reads.nil _ _) (fun _ => rfl) (by omega) (by omega)
theorem get172 (w : World) (a : Option Addr) (hr : Reads w a [.int .u8 172, .int .u8 2, .int .u8 9]) :
    Calls Try.prog 49 #[.slice a 3 3] w fun e w' => e = .returned (.tuple #[.int .u64 300, .int .i64 2, .int .i64 0]) ∧ w = w' := by
  refine (getC [172, 2, 9] _ 3 w hr (by unfold IsBytes; decide) (by unfold maxLen; simp)).mono ?_
  rintro e w' ⟨rfl, rfl⟩
  exact ⟨by rw [got172], rfl⟩

theorem refGetC (l : List Int) (a : Option Addr) (c : Nat) (w : World) (ha : Reads w a (l.map (Value.int .u8))) (hl : IsBytes l) (hm : l.length ≤ maxLen) :
    Calls Try.prog 52 #[.slice a l.length c] w (GotIs (got l 0 0) w) := by
  unfold maxLen at hm
  generalize hn : l.length = n at hm ⊢
  have hN := Lib.hid hn
  clear hn
  generalize hg : got l 0 0 = r
  have HG := Lib.hid hg
  clear hg
  go_enter Try.func52, Try.ntmps52
  go_wp2
  go_loop [5, 6] (fun v i => ∃ (k : Nat) (m : Int), k ≤ n ∧ k ≤ 9 ∧ 0 ≤ m ∧ m < ((2 ^ (7 * k) : Nat) : Int) ∧ i = .int .i64 k ∧ v = .int .u64 m ∧ Hid (got (l.drop k) k m = r)) (fun _ i => n - (intOf i).toNat)
  case atStart => exact ⟨0, 0, Nat.zero_le _, by omega, by omega, by decide, rfl, rfl, HG⟩
  case round =>
    obtain ⟨k, m, hk, hk9, hm0, hm1, rfl, rfl, H⟩ := hrel
    have hP : 2 ^ (7 * k) ≤ 2 ^ 63 := Nat.pow_le_pow_right (by decide) (by omega)
    by_cases hlt : k < n
    · obtain ⟨B, off, rfl, c0⟩ := ha.at k (by rw [hN.out]; exact hlt)
      have hx := hl.getD k
      have hd := drop_cons l k (by rw [hN.out]; exact hlt)
      have h := H.out
      rw [hd] at h
      clear H hd ha
      generalize l.getD k 0 = x at c0 hx h
      have hlt' : (k : Int) < (n : Int) := by omega
      have hp7 : ((7 * (k : Int)).toNat) = 7 * k := by omega
      by_cases c1 : (k ≠ 0 ∧ x = 0) ∨ (k = 9 ∧ 1 < x)
      · rw [got_bad _ _ _ _ c1] at h
        have H := Lib.hid h
        clear h
        rcases c1 with ⟨c1, rfl⟩ | ⟨rfl, c1⟩
        · have c2 : (0 : Int) < (k : Int) := by omega
          go_wp2
          go_ret3
          exact ⟨by rw [← H.out]; rfl, rfl⟩
        · have c3 : (x == 0) = false := by simp; omega
          go_wp2
          go_ret3
          exact ⟨by rw [← H.out]; rfl, rfl⟩
      · have hq : 0 ≤ x % 128 * ((2 ^ (7 * k) : Nat) : Int) := Int.mul_nonneg (by omega) (by omega)
        have hq9 : k = 9 → x ≤ 1 := by omega
        have hq2 : x % 128 * ((2 ^ (7 * k) : Nat) : Int) ≤ 127 * ((2 ^ (7 * k) : Nat) : Int) := Int.mul_le_mul_of_nonneg_right (by omega) (by omega)
        have hq4 : m + x % 128 * ((2 ^ (7 * k) : Nat) : Int) ≤ 18446744073709551615 := by
          by_cases c : k = 9
          · subst c
            have := hq9 rfl
            omega
          · have hP2 : 2 ^ (7 * k) ≤ 2 ^ 56 := Nat.pow_le_pow_right (by decide) (by omega)
            omega
        have hcase : (¬ (0 : Int) < k ∧ ((k : Int) == 9) = false) ∨ ((0 : Int) < k ∧ (x == 0) = false ∧ ((k : Int) == 9) = true ∧ ¬ 1 < x) ∨ ((0 : Int) < k ∧ (x == 0) = false ∧ ((k : Int) == 9) = false) := by
          simp only [beq_eq_false_iff_ne, beq_iff_eq, ne_eq]; omega
        have hk8 : ¬ x < 128 → k ≤ 8 := by omega
        have hpw := pow7 k
        by_cases c2 : x < 128
        · rw [got_last _ _ _ _ c1 c2] at h
          have H := Lib.hid h
          clear h c1 hpw hk8 hP
          generalize hQ : ((2 ^ (7 * k) : Nat) : Int) = Q at H hq hq2 hq4 hm1
          have HQ := Lib.hid hQ
          clear hQ hq9
          generalize hX : x % 128 * Q = X at H hq hq2 hq4
          have HX := Lib.hid hX
          rcases hcase with ⟨g1, g2⟩ | ⟨g1, g2, g3, g4⟩ | ⟨g1, g2, g3⟩
          all_goals
            go_wp2_with (go_at_call 56; (with_reducible refine (powerC _ _ (by omega) (by omega)).mono ?_); rw [hp7, HQ.out]; rintro e w' ⟨rfl, rfl⟩)
            go_ret3
            exact ⟨by rw [← H.out]; rfl, rfl⟩
        · rw [got_more _ _ _ _ c1 c2] at h
          have H := Lib.hid h
          have hk8' := hk8 c2
          clear h c1 hk8 hP
          have hm2 : m + x % 128 * ((2 ^ (7 * k) : Nat) : Int) < ((2 ^ (7 * (k + 1)) : Nat) : Int) := by rw [hpw]; omega
          have HM2 := Lib.hid hm2
          clear hm2 hpw
          generalize hQ : ((2 ^ (7 * k) : Nat) : Int) = Q at H hq hq2 hq4 hm1 HM2
          have HQ := Lib.hid hQ
          clear hQ hq9
          generalize hX : x % 128 * Q = X at H hq hq2 hq4 HM2
          have HX := Lib.hid hX
          rcases hcase with ⟨g1, g2⟩ | ⟨g1, g2, g3, g4⟩ | ⟨g1, g2, g3⟩
          · go_wp2_with (go_at_call 56; (with_reducible refine (powerC _ _ (by omega) (by omega)).mono ?_); rw [hp7, HQ.out]; rintro e w' ⟨rfl, rfl⟩)
            go_round
            case rel => exact ⟨k + 1, m + X, by omega, by omega, by omega, HM2.out, by go_num, by go_num, H⟩
            case measure => simp [intOf]; omega
          · omega
          · go_wp2_with (go_at_call 56; (with_reducible refine (powerC _ _ (by omega) (by omega)).mono ?_); rw [hp7, HQ.out]; rintro e w' ⟨rfl, rfl⟩)
            go_round
            case rel => exact ⟨k + 1, m + X, by omega, by omega, by omega, HM2.out, by go_num, by go_num, H⟩
            case measure => simp [intOf]; omega
    · go_wp2
      go_ret3
      have : k = n := by omega
      have h := H.out
      rw [List.drop_of_length_le (by rw [hN.out]; omega)] at h
      exact ⟨by rw [← h]; rfl, rfl⟩
end Go.Proofs.Ytfdiomghoheljaa
