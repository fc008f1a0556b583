/- Layer 8's laws, walked. -/
import Derived.Test.YtlpehpfbjechpaaDoorHostRef4
import Derived.Test.YtlpehpfbjechpaaDoorAsciiRef
namespace Go.Proofs.YtlpehpfbjechpaaDoor
open Go.RowKit
set_option linter.unusedVariables false

set_option maxRecDepth 100000 in
theorem awake08C (w : World) (hT : PTab Tryd.prog w) : Calls Tryd.prog 7 #[] w fun e w' => e = .returned (.bool true) ∧ Below w.heap.size w w' := by
  have hb := Below.refl w.heap.size w
  have hm : (100 : Nat) ≤ maxLen := by unfold maxLen; omega
  have HC : ∀ w, PTab Tryd.prog w → Calls Tryd.prog 8 #[.string ⟨#[65, 46, 69, 120, 97, 109, 112, 108, 101]⟩] w fun e w' => e = .returned (.tuple #[.string ⟨#[97, 46, 101, 120, 97, 109, 112, 108, 101]⟩, .int .i64 0]) ∧ Below w.heap.size w w' := fun w h => by
    have h := canonC [65, 46, 69, 120, 97, 109, 112, 108, 101] 9 w rfl (by omega) h
    unfold CanonIs at h
    have e0 : (256 < ([65, 46, 69, 120, 97, 109, 112, 108, 101] : List UInt8).length) = False := by simp
    have e1 : canonB (([65, 46, 69, 120, 97, 109, 112, 108, 101] : List UInt8).map low) = true := by decide +kernel
    simp only [e0, e1, if_true, if_false] at h
    exact h
  have HY : ∀ w, PTab Tryd.prog w → Calls Tryd.prog 13 #[.string ⟨#[97, 46, 98, 46, 101, 120, 97, 109, 112, 108, 101]⟩, .string ⟨#[98, 46, 101, 120, 97, 109, 112, 108, 101]⟩] w fun e w' => e = .returned (.bool true) ∧ Below w.heap.size w w' := fun w h => by
    have h := matchC [97, 46, 98, 46, 101, 120, 97, 109, 112, 108, 101] [98, 46, 101, 120, 97, 109, 112, 108, 101] 11 9 w rfl (by omega) rfl (by omega) h
    have e1 : matchB [97, 46, 98, 46, 101, 120, 97, 109, 112, 108, 101] [98, 46, 101, 120, 97, 109, 112, 108, 101] = true := by decide +kernel
    rw [e1] at h
    exact h
  have HN : ∀ w, PTab Tryd.prog w → Calls Tryd.prog 13 #[.string ⟨#[97, 98, 46, 101, 120, 97, 109, 112, 108, 101]⟩, .string ⟨#[98, 46, 101, 120, 97, 109, 112, 108, 101]⟩] w fun e w' => e = .returned (.bool false) ∧ Below w.heap.size w w' := fun w h => by
    have h := matchC [97, 98, 46, 101, 120, 97, 109, 112, 108, 101] [98, 46, 101, 120, 97, 109, 112, 108, 101] 10 9 w rfl (by omega) rfl (by omega) h
    have e1 : matchB [97, 98, 46, 101, 120, 97, 109, 112, 108, 101] [98, 46, 101, 120, 97, 109, 112, 108, 101] = false := by decide +kernel
    rw [e1] at h
    exact h
  have HA : ∀ w, PTab Tryd.prog w → Calls Tryd.prog 10 #[.string ⟨#[49, 46, 50, 46, 51, 46, 52]⟩] w fun e w' => e = .returned (.bool true) ∧ Below w.heap.size w w' := fun w h => by
    have h := addressC [49, 46, 50, 46, 51, 46, 52] 7 w rfl (by omega) h
    have e1 : addrB [49, 46, 50, 46, 51, 46, 52] = true := by decide +kernel
    rw [e1] at h
    exact h
  clear hm
  go_enter Tryd.func7, Tryd.ntmps7
  go_wp2_with (first
    | (go_at_call 8; (with_reducible refine (HC _ (hT.below hb)).mono ?_); rintro e1 w1 ⟨rfl, hx⟩; have hb := hb.trans (hx.mono hb.size); clear hx)
    | (go_at_call 13; (with_reducible refine (HY _ (hT.below hb)).mono ?_); rintro e2 w2 ⟨rfl, hx⟩; have hb := hb.trans (hx.mono hb.size); clear hx)
    | (go_at_call 13; (with_reducible refine (HN _ (hT.below hb)).mono ?_); rintro e3 w3 ⟨rfl, hx⟩; have hb := hb.trans (hx.mono hb.size); clear hx)
    | (go_at_call 10; (with_reducible refine (HA _ (hT.below hb)).mono ?_); rintro e4 w4 ⟨rfl, hx⟩; have hb := hb.trans (hx.mono hb.size); clear hx))
  go_ret
  exact ⟨rfl, hb⟩

set_option maxRecDepth 100000 in
theorem hostMatches_walk (s t : ByteArray) (w : World) (hs : s.size ≤ maxLen) (ht : t.size ≤ maxLen) (hT : PTab Tryd.prog w) :
    Calls Tryd.prog 4 #[.string s, .string t] w fun e w' => e = .returned (.bool true) ∧ Below w.heap.size w w' := by
  obtain ⟨a, rfl⟩ : ∃ a, s = str a := ⟨_, str_of s⟩
  obtain ⟨b, rfl⟩ : ∃ b, t = str b := ⟨_, str_of t⟩
  obtain ⟨n, hn⟩ : ∃ n, a.length = n := ⟨_, rfl⟩
  obtain ⟨m, hm⟩ : ∃ m, b.length = m := ⟨_, rfl⟩
  have s1 : (str a).size = n := by rw [str_size, hn]
  have s2 : (str b).size = m := by rw [str_size, hm]
  rw [s1] at hs
  rw [s2] at ht
  have HA := fun w (h : PTab Tryd.prog w) => awake08C w h
  have HM := fun w (h : PTab Tryd.prog w) => matchC a b n m w hn hs hm ht h
  have HR := fun w => refMatchC a b n m w hn hs hm ht
  have hb := Below.refl w.heap.size w
  generalize matchB a b = q at *
  clear hn hm
  by_cases h1 : 1000 < n
  · have b1 : (1000 : Int) < (n : Int) := by omega
    go_enter Tryd.func4, Tryd.ntmps4
    go_wp2_with (go_at_call 7; (with_reducible refine (HA _ (hT.below hb)).mono ?_); rintro e ww ⟨rfl, hx⟩; have hb := hb.trans (hx.mono hb.size); clear hx)
    go_ret
    exact ⟨rfl, hb⟩
  · have b1 : ¬ (1000 : Int) < (n : Int) := by omega
    by_cases h2 : 1000 < m
    · have b2 : (1000 : Int) < (m : Int) := by omega
      go_enter Tryd.func4, Tryd.ntmps4
      go_wp2_with (go_at_call 7; (with_reducible refine (HA _ (hT.below hb)).mono ?_); rintro e ww ⟨rfl, hx⟩; have hb := hb.trans (hx.mono hb.size); clear hx)
      go_ret
      exact ⟨rfl, hb⟩
    · have b2 : ¬ (1000 : Int) < (m : Int) := by omega
      go_enter Tryd.func4, Tryd.ntmps4
      go_wp2_with (first
        | (go_at_call 13; (with_reducible refine (HM _ (hT.below hb)).mono ?_); rintro e ww ⟨rfl, hx⟩; have hb := hb.trans (hx.mono hb.size); clear hx)
        | (go_at_call 14; (with_reducible refine (HR _).mono ?_); rintro e ww ⟨rfl, hx⟩; have hb := hb.trans (hx.mono hb.size); clear hx)
        | (go_at_call 7; (with_reducible refine (HA _ (hT.below hb)).mono ?_); rintro e ww ⟨rfl, hx⟩; have hb := hb.trans (hx.mono hb.size); clear hx))
      go_ret
      exact ⟨rfl, hb⟩

set_option maxRecDepth 100000 in
theorem hostCanon_walk (s : ByteArray) (w : World) (hs : s.size ≤ maxLen) (hT : PTab Tryd.prog w) :
    Calls Tryd.prog 3 #[.string s] w fun e w' => e = .returned (.bool true) ∧ Below w.heap.size w w' := by
  obtain ⟨l, rfl⟩ : ∃ l, s = str l := ⟨_, str_of s⟩
  obtain ⟨n, hn⟩ : ∃ n, l.length = n := ⟨_, rfl⟩
  have s1 : (str l).size = n := by rw [str_size, hn]
  rw [s1] at hs
  have HA := fun w (h : PTab Tryd.prog w) => awake08C w h
  have hb := Below.refl w.heap.size w
  by_cases h : n ≤ 1000
  · have b1 : ¬ (1000 : Int) < (n : Int) := by omega
    have HC := fun w (h : PTab Tryd.prog w) => canonC l n w hn hs h
    have HL := fun w => refLowerC l n w hn hs
    have HD := fun w (h : PTab Tryd.prog w) => addressC l n w hn hs h
    have HE := fun w => refAddressC l n w hn (by omega)
    have hll : (l.map low).length = n := by rw [List.length_map]; exact hn
    have HK := fun w => refCanonC (l.map low) n w hll hs
    have HC2 := fun w (h : PTab Tryd.prog w) => canonC (l.map low) n w hll hs h
    have e2 : (l.map low).map low = l.map low := by
      rw [List.map_map]
      congr 1
      funext x
      exact low_low x
    unfold CanonIs at HC HC2
    rw [hn] at HC
    rw [hll, e2] at HC2
    unfold GivesStr at HL
    have e0 : str [] = { data := #[] } := rfl
    rw [e0] at HC HC2
    have hk := str_toList
    generalize l.map low = x at *
    generalize addrB l = ad at *
    clear hn hll e2
    by_cases h2 : 256 < n
    · have b2 : (256 : Int) < (n : Int) := by omega
      simp only [if_pos h2] at HC
      clear HC2 HK
      go_enter Tryd.func3, Tryd.ntmps3
      go_wp2_with (first
        | (go_at_call 8; (with_reducible refine (HC _ (hT.below hb)).mono ?_); rintro e ww ⟨rfl, hx⟩; have hb := hb.trans (hx.mono hb.size); clear hx)
        | (go_at_call 9; (with_reducible refine (HL _).mono ?_); rintro e ww ⟨rfl, hx⟩; have hb := hb.trans (hx.mono hb.size); clear hx)
        | (go_at_call 10; (with_reducible refine (HD _ (hT.below hb)).mono ?_); rintro e ww ⟨rfl, hx⟩; have hb := hb.trans (hx.mono hb.size); clear hx)
        | (go_at_call 11; (with_reducible refine (HE _).mono ?_); rintro e ww ⟨rfl, hx⟩; have hb := hb.trans (hx.mono hb.size); clear hx)
        | (go_at_call 7; (with_reducible refine (HA _ (hT.below hb)).mono ?_); rintro e ww ⟨rfl, hx⟩; have hb := hb.trans (hx.mono hb.size); clear hx))
      go_ret
      exact ⟨rfl, hb⟩
    · have b2 : ¬ (256 : Int) < (n : Int) := by omega
      simp only [if_neg h2] at HC HC2
      generalize canonB x = c at *
      cases c with
      | false =>
        simp only [Bool.false_eq_true, if_false] at HC
        clear HC2
        go_enter Tryd.func3, Tryd.ntmps3
        go_wp2_with (first
          | (go_at_call 8; (with_reducible refine (HC _ (hT.below hb)).mono ?_); rintro e ww ⟨rfl, hx⟩; have hb := hb.trans (hx.mono hb.size); clear hx)
          | (go_at_call 9; (with_reducible refine (HL _).mono ?_); rintro e ww ⟨rfl, hx⟩; have hb := hb.trans (hx.mono hb.size); clear hx)
          | (go_at_call 10; (with_reducible refine (HD _ (hT.below hb)).mono ?_); rintro e ww ⟨rfl, hx⟩; have hb := hb.trans (hx.mono hb.size); clear hx)
          | (go_at_call 11; (with_reducible refine (HE _).mono ?_); rintro e ww ⟨rfl, hx⟩; have hb := hb.trans (hx.mono hb.size); clear hx)
          | (go_at_call 12; (with_reducible refine (HK _).mono ?_); rintro e ww ⟨rfl, hx⟩; have hb := hb.trans (hx.mono hb.size); clear hx)
          | (go_at_call 7; (with_reducible refine (HA _ (hT.below hb)).mono ?_); rintro e ww ⟨rfl, hx⟩; have hb := hb.trans (hx.mono hb.size); clear hx))
        go_ret
        exact ⟨rfl, hb⟩
      | true =>
        simp only [if_true] at HC HC2
        go_enter Tryd.func3, Tryd.ntmps3
        go_wp2_with (first
          | (go_at_call 8; (with_reducible refine (HC _ (hT.below hb)).mono ?_); rintro e ww ⟨rfl, hx⟩; have hb := hb.trans (hx.mono hb.size); clear hx)
          | (go_at_call 8; (with_reducible refine (HC2 _ (hT.below hb)).mono ?_); rintro e ww ⟨rfl, hx⟩; have hb := hb.trans (hx.mono hb.size); clear hx)
          | (go_at_call 9; (with_reducible refine (HL _).mono ?_); rintro e ww ⟨rfl, hx⟩; have hb := hb.trans (hx.mono hb.size); clear hx)
          | (go_at_call 10; (with_reducible refine (HD _ (hT.below hb)).mono ?_); rintro e ww ⟨rfl, hx⟩; have hb := hb.trans (hx.mono hb.size); clear hx)
          | (go_at_call 11; (with_reducible refine (HE _).mono ?_); rintro e ww ⟨rfl, hx⟩; have hb := hb.trans (hx.mono hb.size); clear hx)
          | (go_at_call 12; (with_reducible refine (HK _).mono ?_); rintro e ww ⟨rfl, hx⟩; have hb := hb.trans (hx.mono hb.size); clear hx)
          | (go_at_call 7; (with_reducible refine (HA _ (hT.below hb)).mono ?_); rintro e ww ⟨rfl, hx⟩; have hb := hb.trans (hx.mono hb.size); clear hx))
        go_ret
        exact ⟨rfl, hb⟩
  · have b1 : (1000 : Int) < (n : Int) := by omega
    clear hs hn
    go_enter Tryd.func3, Tryd.ntmps3
    go_wp2_with (go_at_call 7; (with_reducible refine (HA _ (hT.below hb)).mono ?_); rintro e ww ⟨rfl, hx⟩; have hb := hb.trans (hx.mono hb.size); clear hx)
    go_ret
    exact ⟨rfl, hb⟩
end Go.Proofs.YtlpehpfbjechpaaDoor
