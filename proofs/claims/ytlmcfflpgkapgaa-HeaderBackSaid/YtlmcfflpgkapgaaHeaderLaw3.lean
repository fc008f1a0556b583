/- Layer 12's laws, walked: the last of a name; the text. -/
import Derived.Test.YtlmcfflpgkapgaaHeaderLaw2
import Derived.Deep.RegionLaw
namespace Go.Proofs.Ytlmcfflpgkapgaa
open Go.RowKit
set_option linter.unusedVariables false

theorem light_is {L : List (List UInt8 × List UInt8)} (h : lightP L = true) : L.length ≤ 40 ∧ ∀ x ∈ L, x.1.length ≤ 300 ∧ x.2.length ≤ 1100 := by
  unfold lightP at h
  rw [Bool.and_eq_true, decide_eq_true_iff, List.all_eq_true] at h
  refine ⟨h.1, fun x hx => ?_⟩
  have := h.2 x hx
  rwa [Bool.and_eq_true, decide_eq_true_iff, decide_eq_true_iff] at this

set_option maxHeartbeats 1000000 in
set_option maxRecDepth 100000 in
theorem headerFinds_walk (a : Option Addr) (n c : Nat) (L : List (List UInt8 × List UInt8)) (s : ByteArray) (w : World) (hL : RowOf encP 2 w a n c L) (hS : ∀ x ∈ L, x.1.length ≤ maxLen ∧ x.2.length ≤ maxLen) (hs : s.size ≤ maxLen) :
    Calls Try.prog 4 #[.slice a n c, .string s] w fun e w' => e = .returned (.bool true) ∧ Below w.heap.size w w' := by
  obtain ⟨l, rfl⟩ : ∃ l, s = str l := ⟨_, str_of s⟩
  obtain ⟨m, hm⟩ : ∃ m, l.length = m := ⟨_, rfl⟩
  have hsz : (str l).size = m := by rw [str_size, hm]
  rw [hsz] at hs
  unfold maxLen at hs
  have hb := Below.refl w.heap.size w
  have HL := light12C a n c L w hL hS
  have hk := str_toList
  cases hlt : lightP L with
  | false =>
    rw [hlt] at HL
    clear hL hS
    go_enter Try.func4, Try.ntmps4
    go_wp2_with (first
      | (go_at_call 12; (with_reducible refine HL.mono ?_); rintro e w1 ⟨rfl, rfl⟩)
      | (go_at_call 7; (with_reducible refine (awake12C _).mono ?_); rintro e w1 ⟨rfl, hx⟩))
    go_ret
    exact ⟨rfl, hx⟩
  | true =>
    rw [hlt] at HL
    obtain ⟨hl1, hl2⟩ := light_is hlt
    by_cases h1 : 300 < m
    · have h1' : (300 : Int) < (m : Int) := by omega
      clear hL hS
      go_enter Try.func4, Try.ntmps4
      go_wp2_with (first
        | (go_at_call 12; (with_reducible refine HL.mono ?_); rintro e w1 ⟨rfl, rfl⟩)
        | (go_at_call 7; (with_reducible refine (awake12C _).mono ?_); rintro e w1 ⟨rfl, hx⟩))
      go_ret
      exact ⟨rfl, hx⟩
    · have h1' : ¬ (300 : Int) < (m : Int) := by omega
      have hn40 : n ≤ 100000 := by rw [← hL.leq]; omega
      have hS1 : ∀ x ∈ L, x.1.length ≤ 100000 := fun x hx => by have := hl2 x hx; omega
      have HO := ownC a n c L w hL hn40
      have HF := fun b c w (h : RowOf encP 2 w b n c L) => headFindC b n c m L l w h hS1 hm (by omega)
      have HR := fun w (h : RowOf encP 2 w a n c L) => refFindHC a n c m L l w h hS1 hm (by omega)
      generalize findH L l = r at *
      obtain ⟨v, t⟩ := r
      dsimp only at *
      have hvv : (v == v) = true := by simp
      clear hl1 hl2 hS h1 hlt
      go_enter Try.func4, Try.ntmps4
      go_wp2_with (first
        | (go_at_call 12; (with_reducible refine HL.mono ?_); rintro e w1 ⟨rfl, rfl⟩)
        | (go_at_call 14; (with_reducible refine HO.mono ?_); rintro e w1 ⟨b, d, rfl, hO, hx⟩; have hr := hO.row encP_len; have hL := hL.below hx; have hb := hb.trans hx; clear hx)
        | (go_at_call 13; (with_reducible refine (HF _ _ _ hr).mono ?_); rintro e w2 ⟨rfl, hx⟩; have hL := hL.below hx; have hb := hb.trans (hx.mono hb.size); clear hx)
        | (go_at_call 15; (with_reducible refine (HR _ hL).mono ?_); rintro e w3 ⟨rfl, hx⟩; have hb := hb.trans (hx.mono hb.size); clear hx)
        | (go_at_call 7; (with_reducible refine (awake12C _).mono ?_); rintro e w4 ⟨rfl, hx⟩; have hb := hb.trans (hx.mono hb.size); clear hx))
      go_ret
      exact ⟨rfl, hb⟩
end Go.Proofs.Ytlmcfflpgkapgaa
