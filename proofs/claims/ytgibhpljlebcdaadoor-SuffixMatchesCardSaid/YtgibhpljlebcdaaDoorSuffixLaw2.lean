/- Layer 9's laws on a name's public suffix, walked. -/
import Derived.Test.YtgibhpljlebcdaaDoorSuffixLaw
namespace Go.Proofs.YtgibhpljlebcdaaDoor
open Go.RowKit
set_option linter.unusedVariables false

set_option maxHeartbeats 2000000 in
set_option maxRecDepth 100000 in
theorem suffixMatches_walk (a : Option Addr) (len cap : Nat) (R : List (List UInt8)) (t : ByteArray) (w : World) (hR : IsStrs w a len cap R) (ht : t.size ≤ maxLen) (hT : PTab Tryd.prog w) :
    Calls Tryd.prog 4 #[.slice a len cap, .string t] w fun e w' => e = .returned (.bool true) ∧ Below w.heap.size w w' := by
  obtain ⟨s, rfl⟩ : ∃ s, t = str s := ⟨_, str_of t⟩
  obtain ⟨n, hn⟩ : ∃ n, s.length = n := ⟨_, rfl⟩
  have s1 : (str s).size = n := by rw [str_size, hn]
  rw [s1] at ht
  have HA := fun w (h : PTab Tryd.prog w) => awake09C w h
  have HL := fun w (h : IsStrs w a len cap R) => lightC a len cap R w h
  have hb := Below.refl w.heap.size w
  cases hlt : lightB R with
  | false =>
    have HL2 := HL w hR
    rw [hlt] at HL2
    clear HL hn
    go_enter Tryd.func4, Tryd.ntmps4
    go_wp2_with (first
      | (go_at_call 6; (with_reducible refine HL2.mono ?_); rintro e ww ⟨rfl, rfl⟩)
      | (go_at_call 7; (with_reducible refine (HA _ (hT.below hb)).mono ?_); rintro e ww ⟨rfl, hx⟩; have hb := hb.trans (hx.mono hb.size); clear hx))
    go_ret
    exact ⟨rfl, hb⟩
  | true =>
    have HL2 := HL w hR
    rw [hlt] at HL2
    obtain ⟨-, hS⟩ := light_is hlt
    have hS : ∀ x ∈ R, x.length ≤ 1000 := fun x hx => by have := hS x hx; omega
    clear HL hlt
    by_cases h300 : 300 < n
    · have b1 : (300 : Int) < (n : Int) := by omega
      clear hn
      go_enter Tryd.func4, Tryd.ntmps4
      go_wp2_with (first
        | (go_at_call 6; (with_reducible refine HL2.mono ?_); rintro e ww ⟨rfl, rfl⟩)
        | (go_at_call 7; (with_reducible refine (HA _ (hT.below hb)).mono ?_); rintro e ww ⟨rfl, hx⟩; have hb := hb.trans (hx.mono hb.size); clear hx))
      go_ret
      exact ⟨rfl, hb⟩
    have b1 : ¬ (300 : Int) < (n : Int) := by omega
    have HO := fun w (h : IsStrs w a len cap R) (hp : PTab Tryd.prog w) => sufOfC a len cap R s n w h hS hn (by omega) hp
    have HW := fun w (h : IsStrs w a len cap R) (hp : PTab Tryd.prog w) => sufOwnC a len cap R s n w h hS hn (by omega) hp
    by_cases hok : checkN R = 0 ∧ nameB s = true
    · obtain ⟨e1, hm1, hcase⟩ := own_is hok.1 hok.2
      rw [e1] at HO
      have hwl : (ofL R s).length ≤ maxLen := by have := canon_len (match_cases hm1).2.1; unfold maxLen; omega
      have HM := fun w (h : PTab Tryd.prog w) => matchC s (ofL R s) n _ w hn ht rfl hwl h
      rw [hm1] at HM
      have hk := str_toList
      simp only [] at HO
      rcases hcase with ⟨hw, ho⟩ | ⟨hw, x, hx, -, ho, hm2, hsame⟩
      · rw [ho] at HW
        simp only [] at HW
        have HO2 := fun w (h : IsStrs w a len cap R) (hp : PTab Tryd.prog w) => sufOfC a len cap R [] 0 w h hS rfl (by omega) hp
        generalize ofR R [] = q at *
        obtain ⟨q1, q2⟩ := q
        simp only [] at HO2
        generalize ofL R s = y at *
        clear hn hok e1 hw ho hm1 hwl
        go_enter Tryd.func4, Tryd.ntmps4
        go_wp2_with (first
          | (go_at_call 6; (with_reducible refine HL2.mono ?_); rintro e ww ⟨rfl, rfl⟩)
          | (go_at_call 8; (with_reducible refine (HO _ (hR.below hb) (hT.below hb)).mono ?_); rintro e ww ⟨rfl, hx⟩; have hb := hb.trans (hx.mono hb.size); clear hx)
          | (go_at_call 9; (with_reducible refine (HW _ (hR.below hb) (hT.below hb)).mono ?_); rintro e ww ⟨rfl, hx⟩; have hb := hb.trans (hx.mono hb.size); clear hx)
          | (go_at_call 15; (with_reducible refine (HM _ (hT.below hb)).mono ?_); rintro e ww ⟨rfl, hx⟩; have hb := hb.trans (hx.mono hb.size); clear hx)
          | (go_at_call 8; (with_reducible refine (HO2 _ (hR.below hb) (hT.below hb)).mono ?_); rintro e ww ⟨rfl, hx⟩; have hb := hb.trans (hx.mono hb.size); clear hx)
          | (go_at_call 7; (with_reducible refine (HA _ (hT.below hb)).mono ?_); rintro e ww ⟨rfl, hx⟩; have hb := hb.trans (hx.mono hb.size); clear hx))
        go_ret
        exact ⟨rfl, hb⟩
      · rw [ho] at HW
        simp only [] at HW
        have hol := canon_len (match_cases hm2).2.1
        have HM2 := fun w (h : PTab Tryd.prog w) => matchC s (x ++ 46 :: ofL R s) n _ w hn ht rfl (by unfold maxLen; omega) h
        rw [hm2] at HM2
        have HO2 := fun w (h : IsStrs w a len cap R) (hp : PTab Tryd.prog w) => sufOfC a len cap R (x ++ 46 :: ofL R s) _ w h hS rfl (by omega) hp
        have hq : ofR R (x ++ 46 :: ofL R s) = (ofL R s, 0) ∨ (ofR R (x ++ 46 :: ofL R s)).2 = 1 := by
          unfold ofR
          rw [if_neg (by simp [hok.1])]
          cases hnb : nameB (x ++ 46 :: ofL R s) with
          | true => left; rw [if_pos rfl, hsame hnb]
          | false => right; rfl
        generalize x ++ 46 :: ofL R s = o at *
        generalize ofR R o = q at *
        generalize ofL R s = y at *
        clear hn hok e1 hw ho hm1 hm2 hwl hsame hol
        rcases hq with rfl | hq
        · simp only [] at HO2
          go_enter Tryd.func4, Tryd.ntmps4
          go_wp2_with (first
            | (go_at_call 6; (with_reducible refine HL2.mono ?_); rintro e ww ⟨rfl, rfl⟩)
            | (go_at_call 8; (with_reducible refine (HO _ (hR.below hb) (hT.below hb)).mono ?_); rintro e ww ⟨rfl, hx⟩; have hb := hb.trans (hx.mono hb.size); clear hx)
            | (go_at_call 9; (with_reducible refine (HW _ (hR.below hb) (hT.below hb)).mono ?_); rintro e ww ⟨rfl, hx⟩; have hb := hb.trans (hx.mono hb.size); clear hx)
            | (go_at_call 15; (with_reducible refine (HM _ (hT.below hb)).mono ?_); rintro e ww ⟨rfl, hx⟩; have hb := hb.trans (hx.mono hb.size); clear hx)
            | (go_at_call 15; (with_reducible refine (HM2 _ (hT.below hb)).mono ?_); rintro e ww ⟨rfl, hx⟩; have hb := hb.trans (hx.mono hb.size); clear hx)
            | (go_at_call 8; (with_reducible refine (HO2 _ (hR.below hb) (hT.below hb)).mono ?_); rintro e ww ⟨rfl, hx⟩; have hb := hb.trans (hx.mono hb.size); clear hx)
            | (go_at_call 7; (with_reducible refine (HA _ (hT.below hb)).mono ?_); rintro e ww ⟨rfl, hx⟩; have hb := hb.trans (hx.mono hb.size); clear hx))
          go_ret
          exact ⟨rfl, hb⟩
        · obtain ⟨q1, q2⟩ := q
          simp only [] at hq HO2
          subst hq
          go_enter Tryd.func4, Tryd.ntmps4
          go_wp2_with (first
            | (go_at_call 6; (with_reducible refine HL2.mono ?_); rintro e ww ⟨rfl, rfl⟩)
            | (go_at_call 8; (with_reducible refine (HO _ (hR.below hb) (hT.below hb)).mono ?_); rintro e ww ⟨rfl, hx⟩; have hb := hb.trans (hx.mono hb.size); clear hx)
            | (go_at_call 9; (with_reducible refine (HW _ (hR.below hb) (hT.below hb)).mono ?_); rintro e ww ⟨rfl, hx⟩; have hb := hb.trans (hx.mono hb.size); clear hx)
            | (go_at_call 15; (with_reducible refine (HM _ (hT.below hb)).mono ?_); rintro e ww ⟨rfl, hx⟩; have hb := hb.trans (hx.mono hb.size); clear hx)
            | (go_at_call 15; (with_reducible refine (HM2 _ (hT.below hb)).mono ?_); rintro e ww ⟨rfl, hx⟩; have hb := hb.trans (hx.mono hb.size); clear hx)
            | (go_at_call 8; (with_reducible refine (HO2 _ (hR.below hb) (hT.below hb)).mono ?_); rintro e ww ⟨rfl, hx⟩; have hb := hb.trans (hx.mono hb.size); clear hx)
            | (go_at_call 7; (with_reducible refine (HA _ (hT.below hb)).mono ?_); rintro e ww ⟨rfl, hx⟩; have hb := hb.trans (hx.mono hb.size); clear hx))
          go_ret
          exact ⟨rfl, hb⟩
    · have hnot : checkN R ≠ 0 ∨ nameB s = false := by
        by_cases hc : checkN R = 0
        · right
          cases hnb : nameB s with
          | true => exact absurd ⟨hc, hnb⟩ hok
          | false => rfl
        · exact .inl hc
      obtain ⟨v, hv, e1, -, -, -⟩ := not_is hnot
      rw [e1] at HO
      simp only [] at HO
      have hv1 : (v == 0) = false := by rw [beq_eq_false_iff_ne]; exact hv
      have hv2 : (v != 0) = true := by rw [bne, hv1]; rfl
      clear hn hok hnot e1 HW
      go_enter Tryd.func4, Tryd.ntmps4
      go_wp2_with (first
        | (go_at_call 6; (with_reducible refine HL2.mono ?_); rintro e ww ⟨rfl, rfl⟩)
        | (go_at_call 8; (with_reducible refine (HO _ (hR.below hb) (hT.below hb)).mono ?_); rintro e ww ⟨rfl, hx⟩; have hb := hb.trans (hx.mono hb.size); clear hx)
        | (go_at_call 7; (with_reducible refine (HA _ (hT.below hb)).mono ?_); rintro e ww ⟨rfl, hx⟩; have hb := hb.trans (hx.mono hb.size); clear hx))
      go_ret
      exact ⟨rfl, hb⟩
end Go.Proofs.YtgibhpljlebcdaaDoor
