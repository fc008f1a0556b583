/- Layer 6's laws, walked. -/
import Derived.Test.YtombcefcjonpdaaDoorAsciiText
import Derived.Test.YtombcefcjonpdaaDoorOpen
namespace Go.Proofs.YtombcefcjonpdaaDoor
open Go.RowKit
set_option linter.unusedVariables false

set_option maxRecDepth 100000 in
theorem awake06C (w : World) (hT : PTab Tryd.prog w) : Calls Tryd.prog 7 #[] w fun e w' => e = .returned (.bool true) ∧ Below w.heap.size w w' := by
  have hm : (5 : Nat) ≤ maxLen := by unfold maxLen; omega
  have HN : ∀ w, Calls Tryd.prog 19 #[.string ⟨#[45, 48, 55]⟩] w fun e w' => e = .returned (.tuple #[.int .i64 (-7), .bool true]) ∧ w = w' := fun w => by
    have h := numberC [45, 48, 55] 3 w rfl (by omega)
    have e1 : numL [45, 48, 55] = (-7, true) := by decide +kernel
    rw [e1] at h
    exact h
  have HM : ∀ w, Calls Tryd.prog 11 #[.string ⟨#[32, 97, 32, 98, 32]⟩] w fun e w' => e = .returned (.string ⟨#[97, 32, 98]⟩) ∧ w = w' := fun w => by
    have h := trimC [32, 97, 32, 98, 32] 5 w rfl hm
    have e1 : trimL [32, 97, 32, 98, 32] = [97, 32, 98] := by decide +kernel
    rw [e1] at h
    exact h
  have HL : ∀ w, Calls Tryd.prog 8 #[.string ⟨#[65, 98]⟩] w fun e w' => e = .returned (.string ⟨#[97, 98]⟩) ∧ Below w.heap.size w w' := fun w => lowerC [65, 98] 2 w rfl (by omega)
  have HT : ∀ w, PTab Tryd.prog w → Calls Tryd.prog 23 #[.int .i64 (-40)] w fun e w' => e = .returned (.string ⟨#[45, 52, 48]⟩) ∧ Below w.heap.size w w' := fun w hw => by
    have h := textC (-40) w (by omega) (by omega) hw
    have e1 : Lib.itoa (-40) = [45, 52, 48] := by decide +kernel
    rw [e1] at h
    exact h
  clear hm
  go_enter Tryd.func7, Tryd.ntmps7
  go_wp2_with (first
    | (go_at_call 19; (with_reducible refine (HN _).mono ?_); rintro e1 w1 ⟨rfl, rfl⟩)
    | (go_at_call 11; (with_reducible refine (HM _).mono ?_); rintro e2 w2 ⟨rfl, rfl⟩)
    | (go_at_call 8; (with_reducible refine (HL _).mono ?_); rintro e3 w3 ⟨rfl, hb3⟩)
    | (go_at_call 23; (with_reducible refine (HT _ (hT.below hb3)).mono ?_); rintro e4 w4 ⟨rfl, hb4⟩))
  go_ret
  exact ⟨rfl, hb3.trans (hb4.mono hb3.size)⟩
theorem map_low_low (l : List UInt8) : (l.map low).map low = l.map low := by
  rw [List.map_map]
  congr 1
  funext x
  exact low_low x

theorem asciiLetters_walk (s t : ByteArray) (w : World) (hs : s.size ≤ maxLen) (ht : t.size ≤ maxLen) (hT : PTab Tryd.prog w) :
    Calls Tryd.prog 3 #[.string s, .string t] w fun e w' => e = .returned (.bool true) ∧ Below w.heap.size w w' := by
  obtain ⟨l, rfl⟩ : ∃ l, s = str l := ⟨_, str_of s⟩
  obtain ⟨l2, rfl⟩ : ∃ l2, t = str l2 := ⟨_, str_of t⟩
  obtain ⟨n, hn⟩ : ∃ n, l.length = n := ⟨_, rfl⟩
  obtain ⟨m, hm⟩ : ∃ m, l2.length = m := ⟨_, rfl⟩
  have s1 : (str l).size = n := by rw [str_size, hn]
  have s2 : (str l2).size = m := by rw [str_size, hm]
  rw [s1] at hs
  rw [s2] at ht
  have HA := fun w (h : PTab Tryd.prog w) => awake06C w h
  by_cases hb : n ≤ 500 ∧ m ≤ 500
  · obtain ⟨b1, b2⟩ := hb
    have b1' : ¬ (500 : Int) < (n : Int) := by omega
    have b2' : ¬ (500 : Int) < (m : Int) := by omega
    have H1 := fun w => lowerC l n w hn hs
    have H2 := fun w => lowerC (l.map low) n w (by rw [List.length_map, hn]) hs
    have R1 := fun w => refLowerC l n w hn hs
    have R2 := fun w => refLowerC l2 m w hm ht
    have HS := fun w => sameC l l2 n m w hn hs hm ht
    have HM := fun w => trimC l n w hn hs
    have RM := fun w => refTrimC l n w hn hs
    have HC := fun w => controlC l n w hn hs
    have RC := fun w => refControlC l n w hn hs
    rw [map_low_low] at H2
    unfold GivesStr at H1 H2 R1 R2
    generalize l.map low = z at *
    generalize l2.map low = z2 at *
    generalize trimL l = tr at *
    generalize l.any ctl = ct at *
    have hk := str_toList
    clear hs ht hn hm b1 b2
    go_enter Tryd.func3, Tryd.ntmps3
    have hb := Below.refl w.heap.size w
    go_wp2_with (first
      | (go_at_call 8; first | ((with_reducible refine (H1 _).mono ?_); rintro e ww ⟨rfl, hx⟩; have hb := hb.trans (hx.mono hb.size); clear hx) | ((with_reducible refine (H2 _).mono ?_); rintro e ww ⟨rfl, hx⟩; have hb := hb.trans (hx.mono hb.size); clear hx))
      | (go_at_call 9; first | ((with_reducible refine (R1 _).mono ?_); rintro e ww ⟨rfl, hx⟩; have hb := hb.trans (hx.mono hb.size); clear hx) | ((with_reducible refine (R2 _).mono ?_); rintro e ww ⟨rfl, hx⟩; have hb := hb.trans (hx.mono hb.size); clear hx))
      | (go_at_call 10; first | ((with_reducible refine (HS _).mono ?_); rintro e ww ⟨rfl, hx⟩; have hb := hb.trans (hx.mono hb.size); clear hx))
      | (go_at_call 11; (with_reducible refine (HM _).mono ?_); rintro e ww ⟨rfl, rfl⟩)
      | (go_at_call 12; (with_reducible refine (RM _).mono ?_); rintro e ww ⟨rfl, rfl⟩)
      | (go_at_call 13; (with_reducible refine (HC _).mono ?_); rintro e ww ⟨rfl, rfl⟩)
      | (go_at_call 14; (with_reducible refine (RC _).mono ?_); rintro e ww ⟨rfl, rfl⟩)
      | (go_at_call 7; (with_reducible refine (HA _ (hT.below hb)).mono ?_); rintro e ww ⟨rfl, hx⟩; have hb := hb.trans (hx.mono hb.size); clear hx))
    go_ret
    exact ⟨rfl, hb⟩
  · have hb' := Below.refl w.heap.size w
    by_cases h1 : n ≤ 500
    · have b1 : ¬ (500 : Int) < (n : Int) := by omega
      have b2 : (500 : Int) < (m : Int) := by omega
      clear hb hs ht hn hm
      have hb := hb'
      go_enter Tryd.func3, Tryd.ntmps3
      go_wp2_with (go_at_call 7; (with_reducible refine (HA _ (hT.below hb)).mono ?_); rintro e ww ⟨rfl, hx⟩; have hb := hb.trans (hx.mono hb.size); clear hx)
      go_ret
      exact ⟨rfl, hb⟩
    · have b1 : (500 : Int) < (n : Int) := by omega
      clear hb hs ht hn hm
      have hb := hb'
      go_enter Tryd.func3, Tryd.ntmps3
      go_wp2_with (go_at_call 7; (with_reducible refine (HA _ (hT.below hb)).mono ?_); rintro e ww ⟨rfl, hx⟩; have hb := hb.trans (hx.mono hb.size); clear hx)
      go_ret
      exact ⟨rfl, hb⟩

theorem asciiNumbers_walk (s : ByteArray) (w : World) (hs : s.size ≤ maxLen) (hT : PTab Tryd.prog w) :
    Calls Tryd.prog 5 #[.string s] w fun e w' => e = .returned (.bool true) ∧ Below w.heap.size w w' := by
  obtain ⟨l, rfl⟩ : ∃ l, s = str l := ⟨_, str_of s⟩
  obtain ⟨n, hn⟩ : ∃ n, l.length = n := ⟨_, rfl⟩
  have s1 : (str l).size = n := by rw [str_size, hn]
  rw [s1] at hs
  have HA := fun w (h : PTab Tryd.prog w) => awake06C w h
  have hb := Below.refl w.heap.size w
  by_cases h : n ≤ 500
  · have b1 : ¬ (500 : Int) < (n : Int) := by omega
    have HN := fun w => numberC l n w hn hs
    have RN := fun w => refNumberC l n w hn hs
    have HD := fun w => digitsC l n w hn hs
    have RD := fun w => refDigitsC l n w hn hs
    change ∀ w, Calls Tryd.prog 21 #[.string (str l)] w fun e w' => e = .returned (.int .i64 (lead l : Int)) ∧ w = w' at HD
    generalize lead l = d at *
    generalize numL l = q at *
    obtain ⟨v, g⟩ := q
    simp only [] at HN RN
    clear hs hn h
    go_enter Tryd.func5, Tryd.ntmps5
    go_wp2_with (first
      | (go_at_call 19; (with_reducible refine (HN _).mono ?_); rintro e ww ⟨rfl, rfl⟩)
      | (go_at_call 20; (with_reducible refine (RN _).mono ?_); rintro e ww ⟨rfl, rfl⟩)
      | (go_at_call 21; (with_reducible refine (HD _).mono ?_); rintro e ww ⟨rfl, rfl⟩)
      | (go_at_call 22; (with_reducible refine (RD _).mono ?_); rintro e ww ⟨rfl, rfl⟩)
      | (go_at_call 7; (with_reducible refine (HA _ (hT.below hb)).mono ?_); rintro e ww ⟨rfl, hx⟩; have hb := hb.trans (hx.mono hb.size); clear hx))
    go_ret
    exact ⟨rfl, hb⟩
  · have b1 : (500 : Int) < (n : Int) := by omega
    clear hs hn
    go_enter Tryd.func5, Tryd.ntmps5
    go_wp2_with (go_at_call 7; (with_reducible refine (HA _ (hT.below hb)).mono ?_); rintro e ww ⟨rfl, hx⟩; have hb := hb.trans (hx.mono hb.size); clear hx)
    go_ret
    exact ⟨rfl, hb⟩

theorem asciiTexts_walk (n : Int) (w : World) (hw : (Lit.int .i64 n).wf = true) (hT : PTab Tryd.prog w) :
    Calls Tryd.prog 6 #[.int .i64 n] w fun e w' => e = .returned (.bool true) ∧ Below w.heap.size w w' := by
  obtain ⟨h0, h1⟩ := wfI64 hw
  have HA := fun w (h : PTab Tryd.prog w) => awake06C w h
  have hb := Below.refl w.heap.size w
  have HT := fun w (h : PTab Tryd.prog w) => textC n w h0 h1 h
  have RT := fun w => refTextC n h0 h1 w
  have hlen := Lib.itoa_length_le n h0 h1
  have HN := fun w => numberC (Lib.itoa n) _ w rfl (by unfold maxLen; omega)
  rw [numL_itoa] at HN
  unfold GivesStr at HT RT
  have hk := str_toList
  generalize Lib.itoa n = t at *
  unfold sat at HN
  clear hw hlen
  by_cases c1 : n < -1099511627776
  · rw [if_pos c1] at HN
    have c2 : ¬ 1099511627776 < n := by omega
    have c3 : ((-1099511627776 : Int) == n) = false := by simp; omega
    go_enter Tryd.func6, Tryd.ntmps6
    go_wp2_with (first
      | (go_at_call 23; (with_reducible refine (HT _ (hT.below hb)).mono ?_); rintro e ww ⟨rfl, hx⟩; have hb := hb.trans (hx.mono hb.size); clear hx)
      | (go_at_call 19; (with_reducible refine (HN _).mono ?_); rintro e ww ⟨rfl, rfl⟩)
      | (go_at_call 24; first | ((with_reducible refine (RT _).mono ?_); rintro e ww ⟨rfl, hx⟩; have hb := hb.trans (hx.mono hb.size); clear hx))
      | (go_at_call 7; (with_reducible refine (HA _ (hT.below hb)).mono ?_); rintro e ww ⟨rfl, hx⟩; have hb := hb.trans (hx.mono hb.size); clear hx))
    go_ret
    exact ⟨rfl, hb⟩
  · rw [if_neg c1] at HN
    by_cases c2 : 1099511627776 < n
    · rw [if_pos c2] at HN
      have c3 : ((1099511627776 : Int) == n) = false := by simp; omega
      go_enter Tryd.func6, Tryd.ntmps6
      go_wp2_with (first
        | (go_at_call 23; (with_reducible refine (HT _ (hT.below hb)).mono ?_); rintro e ww ⟨rfl, hx⟩; have hb := hb.trans (hx.mono hb.size); clear hx)
        | (go_at_call 19; (with_reducible refine (HN _).mono ?_); rintro e ww ⟨rfl, rfl⟩)
        | (go_at_call 24; first | ((with_reducible refine (RT _).mono ?_); rintro e ww ⟨rfl, hx⟩; have hb := hb.trans (hx.mono hb.size); clear hx))
        | (go_at_call 7; (with_reducible refine (HA _ (hT.below hb)).mono ?_); rintro e ww ⟨rfl, hx⟩; have hb := hb.trans (hx.mono hb.size); clear hx))
      go_ret
      exact ⟨rfl, hb⟩
    · rw [if_neg c2] at HN
      go_enter Tryd.func6, Tryd.ntmps6
      go_wp2_with (first
        | (go_at_call 23; (with_reducible refine (HT _ (hT.below hb)).mono ?_); rintro e ww ⟨rfl, hx⟩; have hb := hb.trans (hx.mono hb.size); clear hx)
        | (go_at_call 19; (with_reducible refine (HN _).mono ?_); rintro e ww ⟨rfl, rfl⟩)
        | (go_at_call 24; first | ((with_reducible refine (RT _).mono ?_); rintro e ww ⟨rfl, hx⟩; have hb := hb.trans (hx.mono hb.size); clear hx))
        | (go_at_call 7; (with_reducible refine (HA _ (hT.below hb)).mono ?_); rintro e ww ⟨rfl, hx⟩; have hb := hb.trans (hx.mono hb.size); clear hx))
      go_ret
      exact ⟨rfl, hb⟩
end Go.Proofs.YtombcefcjonpdaaDoor
