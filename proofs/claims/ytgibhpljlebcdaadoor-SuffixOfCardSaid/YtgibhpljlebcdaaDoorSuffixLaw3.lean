/- Layer 9's law on a name's public suffix by any rules, walked. -/
import Derived.Test.YtgibhpljlebcdaaDoorSuffixLaw2
namespace Go.Proofs.YtgibhpljlebcdaaDoor
open Go.RowKit
set_option linter.unusedVariables false

set_option maxHeartbeats 4000000 in
set_option maxRecDepth 100000 in
theorem suffixOf_walk (a : Option Addr) (len cap : Nat) (R : List (List UInt8)) (t : ByteArray) (w : World) (hR : IsStrs w a len cap R) (ht : t.size ≤ maxLen) (hT : PTab Tryd.prog w) :
    Calls Tryd.prog 3 #[.slice a len cap, .string t] w fun e w' => e = .returned (.bool true) ∧ Below w.heap.size w w' := by
  obtain ⟨s, rfl⟩ : ∃ s, t = str s := ⟨_, str_of t⟩
  obtain ⟨n, hn⟩ : ∃ n, s.length = n := ⟨_, rfl⟩
  have s1 : (str s).size = n := by rw [str_size, hn]
  rw [s1] at ht
  have HA := fun w (h : PTab Tryd.prog w) => awake09C w h
  have HL := fun w (h : IsStrs w a len cap R) => lightC a len cap R w h
  have hb := Below.refl w.heap.size w
  cases hlt : lightB R with
  | false =>
    have HL2 := HL w hR
    rw [hlt] at HL2
    clear HL hn
    go_enter Tryd.func3, Tryd.ntmps3
    go_wp2_with (first
      | (go_at_call 6; (with_reducible refine HL2.mono ?_); rintro e ww ⟨rfl, rfl⟩)
      | (go_at_call 7; (with_reducible refine (HA _ (hT.below hb)).mono ?_); rintro e ww ⟨rfl, hx⟩; have hb := hb.trans (hx.mono hb.size); clear hx))
    go_ret
    exact ⟨rfl, hb⟩
  | true =>
    have HL2 := HL w hR
    rw [hlt] at HL2
    obtain ⟨hlen, hS⟩ := light_is hlt
    have hS : ∀ x ∈ R, x.length ≤ 1000 := fun x hx => by have := hS x hx; omega
    rw [hR.1] at hlen
    clear HL hlt
    by_cases h300 : 300 < n
    · have b1 : (300 : Int) < (n : Int) := by omega
      clear hn
      go_enter Tryd.func3, Tryd.ntmps3
      go_wp2_with (first
        | (go_at_call 6; (with_reducible refine HL2.mono ?_); rintro e ww ⟨rfl, rfl⟩)
        | (go_at_call 7; (with_reducible refine (HA _ (hT.below hb)).mono ?_); rintro e ww ⟨rfl, hx⟩; have hb := hb.trans (hx.mono hb.size); clear hx))
      go_ret
      exact ⟨rfl, hb⟩
    have b1 : ¬ (300 : Int) < (n : Int) := by omega
    have HO := fun w (h : IsStrs w a len cap R) (hp : PTab Tryd.prog w) => sufOfC a len cap R s n w h hS hn (by omega) hp
    have HW := fun w (h : IsStrs w a len cap R) (hp : PTab Tryd.prog w) => sufOwnC a len cap R s n w h hS hn (by omega) hp
    have HP := fun w (h : IsStrs w a len cap R) (hp : PTab Tryd.prog w) => sufPublicC a len cap R s n w h hS hn (by omega) hp
    have HC := fun w (h : IsStrs w a len cap R) (hp : PTab Tryd.prog w) => sufCheckC a len cap R w h hS hp
    have HRi := fun w (h : IsStrs w a len cap R) => refRightC a len cap R w h
    have HN := fun w => refNameC s n w hn ht
    have hk := str_toList
    have e0 : str [] = { data := #[] } := rfl
    rcases check_cases R with ⟨hl, hc⟩ | ⟨hl, hz, hc⟩ | ⟨hl, hz, hc⟩
    · rw [hR.1] at hl
      have b2 : (256 : Int) < (len : Int) := by omega
      obtain ⟨v, hv, e1, e2, e3, e4⟩ := not_is (R := R) (s := s) (.inl (by rw [hc]; decide))
      rw [if_pos (by rw [hc]; decide), hc] at e4
      subst e4
      rw [e1] at HO
      rw [e2] at HW
      rw [e3] at HP
      rw [hc] at HC
      simp only [e0] at HO HW
      generalize R.all ruleB = z at *
      clear hn hc e1 e2 e3 hv hl hlen
      cases z
      all_goals
        go_enter Tryd.func3, Tryd.ntmps3
        go_wp2_with (first
          | (go_at_call 6; (with_reducible refine HL2.mono ?_); rintro e ww ⟨rfl, rfl⟩)
          | (go_at_call 8; (with_reducible refine (HO _ (hR.below hb) (hT.below hb)).mono ?_); rintro e ww ⟨rfl, hx⟩; have hb := hb.trans (hx.mono hb.size); clear hx)
          | (go_at_call 9; (with_reducible refine (HW _ (hR.below hb) (hT.below hb)).mono ?_); rintro e ww ⟨rfl, hx⟩; have hb := hb.trans (hx.mono hb.size); clear hx)
          | (go_at_call 10; (with_reducible refine (HP _ (hR.below hb) (hT.below hb)).mono ?_); rintro e ww ⟨rfl, hx⟩; have hb := hb.trans (hx.mono hb.size); clear hx)
          | (go_at_call 11; (with_reducible refine (HRi _ (hR.below hb)).mono ?_); rintro e ww ⟨rfl, hx⟩; have hb := hb.trans (hx.mono hb.size); clear hx)
          | (go_at_call 12; (with_reducible refine (HC _ (hR.below hb) (hT.below hb)).mono ?_); rintro e ww ⟨rfl, hx⟩; have hb := hb.trans (hx.mono hb.size); clear hx)
          | (go_at_call 7; (with_reducible refine (HA _ (hT.below hb)).mono ?_); rintro e ww ⟨rfl, hx⟩; have hb := hb.trans (hx.mono hb.size); clear hx))
        go_ret
        exact ⟨rfl, hb⟩
    · rw [hR.1] at hl
      have b2 : ¬ (256 : Int) < (len : Int) := by omega
      obtain ⟨v, hv, e1, e2, e3, e4⟩ := not_is (R := R) (s := s) (.inl (by rw [hc]; decide))
      rw [if_pos (by rw [hc]; decide), hc] at e4
      subst e4
      rw [e1] at HO
      rw [e2] at HW
      rw [e3] at HP
      rw [hc] at HC
      rw [hz] at HRi
      simp only [e0] at HO HW
      clear hn hc e1 e2 e3 hv hl hlen hz
      go_enter Tryd.func3, Tryd.ntmps3
      go_wp2_with (first
        | (go_at_call 6; (with_reducible refine HL2.mono ?_); rintro e ww ⟨rfl, rfl⟩)
        | (go_at_call 8; (with_reducible refine (HO _ (hR.below hb) (hT.below hb)).mono ?_); rintro e ww ⟨rfl, hx⟩; have hb := hb.trans (hx.mono hb.size); clear hx)
        | (go_at_call 9; (with_reducible refine (HW _ (hR.below hb) (hT.below hb)).mono ?_); rintro e ww ⟨rfl, hx⟩; have hb := hb.trans (hx.mono hb.size); clear hx)
        | (go_at_call 10; (with_reducible refine (HP _ (hR.below hb) (hT.below hb)).mono ?_); rintro e ww ⟨rfl, hx⟩; have hb := hb.trans (hx.mono hb.size); clear hx)
        | (go_at_call 11; (with_reducible refine (HRi _ (hR.below hb)).mono ?_); rintro e ww ⟨rfl, hx⟩; have hb := hb.trans (hx.mono hb.size); clear hx)
        | (go_at_call 12; (with_reducible refine (HC _ (hR.below hb) (hT.below hb)).mono ?_); rintro e ww ⟨rfl, hx⟩; have hb := hb.trans (hx.mono hb.size); clear hx)
        | (go_at_call 7; (with_reducible refine (HA _ (hT.below hb)).mono ?_); rintro e ww ⟨rfl, hx⟩; have hb := hb.trans (hx.mono hb.size); clear hx))
      go_ret
      exact ⟨rfl, hb⟩
    · rw [hR.1] at hl
      have b2 : ¬ (256 : Int) < (len : Int) := by omega
      rw [hc] at HC
      rw [hz] at HRi
      cases hnm : nameB s with
      | false =>
        obtain ⟨v, hv, e1, e2, e3, e4⟩ := not_is (R := R) (s := s) (.inr hnm)
        rw [if_neg (by rw [hc]; decide)] at e4
        subst e4
        rw [e1] at HO
        rw [e2] at HW
        rw [e3] at HP
        rw [hnm] at HN
        simp only [e0] at HO HW
        clear hn hc e1 e2 e3 hv hl hlen hz hnm
        go_enter Tryd.func3, Tryd.ntmps3
        go_wp2_with (first
          | (go_at_call 6; (with_reducible refine HL2.mono ?_); rintro e ww ⟨rfl, rfl⟩)
          | (go_at_call 8; (with_reducible refine (HO _ (hR.below hb) (hT.below hb)).mono ?_); rintro e ww ⟨rfl, hx⟩; have hb := hb.trans (hx.mono hb.size); clear hx)
          | (go_at_call 9; (with_reducible refine (HW _ (hR.below hb) (hT.below hb)).mono ?_); rintro e ww ⟨rfl, hx⟩; have hb := hb.trans (hx.mono hb.size); clear hx)
          | (go_at_call 10; (with_reducible refine (HP _ (hR.below hb) (hT.below hb)).mono ?_); rintro e ww ⟨rfl, hx⟩; have hb := hb.trans (hx.mono hb.size); clear hx)
          | (go_at_call 11; (with_reducible refine (HRi _ (hR.below hb)).mono ?_); rintro e ww ⟨rfl, hx⟩; have hb := hb.trans (hx.mono hb.size); clear hx)
          | (go_at_call 12; (with_reducible refine (HC _ (hR.below hb) (hT.below hb)).mono ?_); rintro e ww ⟨rfl, hx⟩; have hb := hb.trans (hx.mono hb.size); clear hx)
          | (go_at_call 13; (with_reducible refine (HN _).mono ?_); rintro e ww ⟨rfl, hx⟩; have hb := hb.trans (hx.mono hb.size); clear hx)
          | (go_at_call 7; (with_reducible refine (HA _ (hT.below hb)).mono ?_); rintro e ww ⟨rfl, hx⟩; have hb := hb.trans (hx.mono hb.size); clear hx))
        go_ret
        exact ⟨rfl, hb⟩
      | true =>
        rw [hnm] at HN
        have HF := fun w (h : IsStrs w a len cap R) => refOfC a len cap R s n w h hn hnm
        obtain ⟨e1, hm1, hcase⟩ := own_is hc hnm
        have e3 : publicR R s = (ofL R s == s) := by unfold publicR; rw [e1]; rfl
        rw [e1] at HO
        rw [e3] at HP
        simp only [] at HO
        rcases hcase with ⟨hw, ho⟩ | ⟨hw, x, hx, hx1, ho, hm2, -⟩
        · rw [ho] at HW
          rw [hw] at HO HP HF
          simp only [e0] at HW
          have hq : (s == s) = true := beq_self_eq_true s
          rw [hq] at HP
          clear hn hc e1 e3 hl hlen hz hnm hm1 hw ho
          go_enter Tryd.func3, Tryd.ntmps3
          go_wp2_with (first
            | (go_at_call 6; (with_reducible refine HL2.mono ?_); rintro e ww ⟨rfl, rfl⟩)
            | (go_at_call 8; (with_reducible refine (HO _ (hR.below hb) (hT.below hb)).mono ?_); rintro e ww ⟨rfl, hx⟩; have hb := hb.trans (hx.mono hb.size); clear hx)
            | (go_at_call 9; (with_reducible refine (HW _ (hR.below hb) (hT.below hb)).mono ?_); rintro e ww ⟨rfl, hx⟩; have hb := hb.trans (hx.mono hb.size); clear hx)
            | (go_at_call 10; (with_reducible refine (HP _ (hR.below hb) (hT.below hb)).mono ?_); rintro e ww ⟨rfl, hx⟩; have hb := hb.trans (hx.mono hb.size); clear hx)
            | (go_at_call 11; (with_reducible refine (HRi _ (hR.below hb)).mono ?_); rintro e ww ⟨rfl, hx⟩; have hb := hb.trans (hx.mono hb.size); clear hx)
            | (go_at_call 12; (with_reducible refine (HC _ (hR.below hb) (hT.below hb)).mono ?_); rintro e ww ⟨rfl, hx⟩; have hb := hb.trans (hx.mono hb.size); clear hx)
            | (go_at_call 13; (with_reducible refine (HN _).mono ?_); rintro e ww ⟨rfl, hx⟩; have hb := hb.trans (hx.mono hb.size); clear hx)
            | (go_at_call 14; (with_reducible refine (HF _ (hR.below hb)).mono ?_); rintro e ww ⟨rfl, hx⟩; have hb := hb.trans (hx.mono hb.size); clear hx)
            | (go_at_call 7; (with_reducible refine (HA _ (hT.below hb)).mono ?_); rintro e ww ⟨rfl, hx⟩; have hb := hb.trans (hx.mono hb.size); clear hx))
          go_ret
          exact ⟨rfl, hb⟩
        · rw [ho] at HW
          simp only [] at HW
          have hol := canon_len (match_cases hm2).2.1
          obtain ⟨O, hO⟩ : ∃ O, (x ++ 46 :: ofL R s).length = O := ⟨_, rfl⟩
          have HM := fun w (h : PTab Tryd.prog w) => matchC s (x ++ 46 :: ofL R s) n O w hn ht hO (by unfold maxLen; omega) h
          rw [hm2] at HM
          have hq : (ofL R s == s) = false := by rw [beq_eq_false_iff_ne]; exact hw
          rw [hq] at HP
          generalize ofL R s = y at *
          obtain ⟨X, hX⟩ : ∃ X, x.length = X := ⟨_, rfl⟩
          obtain ⟨Y, hY⟩ : ∃ Y, y.length = Y := ⟨_, rfl⟩
          have hXY : O = X + (1 + Y) := by rw [← hO, ← hX, ← hY]; simp; omega
          have HH := fun w => holdsNo x X w hX (by unfold maxLen; omega) hx
          have so : (str (x ++ 46 :: y)).size = O := by rw [str_size, hO]
          have sy : (str y).size = Y := by rw [str_size, hY]
          have ex1 : (str (x ++ 46 :: y)).extract X O = str ([46] ++ y) := by
            rw [str_extract, List.take_of_length_le (by rw [List.length_drop, hO]; omega), ← hX, List.drop_left]
            rfl
          have ex2 : (str (x ++ 46 :: y)).extract 0 X = str x := by
            rw [str_extract, List.drop_zero, Nat.sub_zero, ← hX, List.take_left]
          have ha := fun (w : World) => run_add_str (P := Tryd.prog) w [46] y (by simp; omega)
          have hd : ({ data := #[46] } : ByteArray) = str [46] := rfl
          rw [← hd] at ha
          have v1 : (Y : Int) + 1 < (O : Int) := by omega
          have v2 : (O : Int) - (Y : Int) - 1 = (X : Int) := by omega
          have v3 : (X : Int) ≤ (O : Int) := by omega
          have v4 : (0 : Int) ≤ (X : Int) := by omega
          have v6 : (O : Int) ≤ 256 := by omega
          have v7 : (Y : Int) ≤ 256 := by omega
          have v8 : (X : Int) ≤ 256 := by omega
          generalize [46] ++ y = d at *
          generalize x ++ 46 :: y = o at *
          clear hn hc e1 e3 hl hlen hz hnm hm1 hm2 hw ho hol hO hX hY hXY hx hx1 hd
          go_enter Tryd.func3, Tryd.ntmps3
          go_wp2_with (first
            | (go_at_call 6; (with_reducible refine HL2.mono ?_); rintro e ww ⟨rfl, rfl⟩)
            | (go_at_call 8; (with_reducible refine (HO _ (hR.below hb) (hT.below hb)).mono ?_); rintro e ww ⟨rfl, hx⟩; have hb := hb.trans (hx.mono hb.size); clear hx)
            | (go_at_call 9; (with_reducible refine (HW _ (hR.below hb) (hT.below hb)).mono ?_); rintro e ww ⟨rfl, hx⟩; have hb := hb.trans (hx.mono hb.size); clear hx)
            | (go_at_call 10; (with_reducible refine (HP _ (hR.below hb) (hT.below hb)).mono ?_); rintro e ww ⟨rfl, hx⟩; have hb := hb.trans (hx.mono hb.size); clear hx)
            | (go_at_call 11; (with_reducible refine (HRi _ (hR.below hb)).mono ?_); rintro e ww ⟨rfl, hx⟩; have hb := hb.trans (hx.mono hb.size); clear hx)
            | (go_at_call 12; (with_reducible refine (HC _ (hR.below hb) (hT.below hb)).mono ?_); rintro e ww ⟨rfl, hx⟩; have hb := hb.trans (hx.mono hb.size); clear hx)
            | (go_at_call 13; (with_reducible refine (HN _).mono ?_); rintro e ww ⟨rfl, hx⟩; have hb := hb.trans (hx.mono hb.size); clear hx)
            | (go_at_call 14; (with_reducible refine (HF _ (hR.below hb)).mono ?_); rintro e ww ⟨rfl, hx⟩; have hb := hb.trans (hx.mono hb.size); clear hx)
            | (go_at_call 15; (with_reducible refine (HM _ (hT.below hb)).mono ?_); rintro e ww ⟨rfl, hx⟩; have hb := hb.trans (hx.mono hb.size); clear hx)
            | (go_at_call 16; (with_reducible refine (HH _).mono ?_); rintro e ww ⟨rfl, rfl⟩)
            | (go_at_call 7; (with_reducible refine (HA _ (hT.below hb)).mono ?_); rintro e ww ⟨rfl, hx⟩; have hb := hb.trans (hx.mono hb.size); clear hx))
          go_ret
          exact ⟨rfl, hb⟩
end Go.Proofs.YtgibhpljlebcdaaDoor
