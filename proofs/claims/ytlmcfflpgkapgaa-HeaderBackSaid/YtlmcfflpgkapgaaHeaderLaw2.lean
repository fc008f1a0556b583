/- Layer 12's laws, walked: the example, any header's parts, the last of a name. -/
import Derived.Test.YtlmcfflpgkapgaaHeaderLaw
namespace Go.Proofs.Ytlmcfflpgkapgaa
open Go.RowKit
set_option linter.unusedVariables false

def head12 : List UInt8 := [97, 61, 98, 59, 32, 80, 97, 116, 104, 61, 47, 120, 59, 32, 83, 101, 99, 117, 114, 101]
def attrs12 : List (List UInt8 × List UInt8) := [([80, 97, 116, 104], [47, 120]), ([83, 101, 99, 117, 114, 101], [])]

set_option maxRecDepth 100000 in
theorem awake12C (w : World) : Calls Try.prog 7 #[] w fun e w' => e = .returned (.bool true) ∧ Below w.heap.size w w' := by
  have hb := Below.refl w.heap.size w
  have P1 : parseH head12 = (([97], [98]), attrs12, 0) := by decide +kernel
  have P2 : findH attrs12 [112, 97, 116, 104] = ([47, 120], true) := by decide +kernel
  have HP : ∀ w, Calls Try.prog 8 #[.string ⟨#[97, 61, 98, 59, 32, 80, 97, 116, 104, 61, 47, 120, 59, 32, 83, 101, 99, 117, 114, 101]⟩] w fun e w' => (∃ a c, e = .returned (.tuple #[.agg #[.string ⟨#[97]⟩, .string ⟨#[98]⟩], .slice a 2 c, .int .i64 0]) ∧ RowOf encP 2 w' a 2 c attrs12) ∧ Below w.heap.size w w' := fun w => by
    refine (headParseC head12 20 w rfl (by omega)).mono ?_
    rintro e w' h
    unfold HParseIs at h
    rw [P1] at h
    obtain ⟨⟨a, n, c, rfl, hr⟩, hx⟩ := h
    obtain rfl : 2 = n := hr.leq
    exact ⟨⟨a, c, rfl, hr⟩, hx⟩
  have HF : ∀ a c w, RowOf encP 2 w a 2 c attrs12 → Calls Try.prog 13 #[.slice a 2 c, .string ⟨#[112, 97, 116, 104]⟩] w fun e w' => e = .returned (.tuple #[.string ⟨#[47, 120]⟩, .bool true]) ∧ Below w.heap.size w w' := fun a c w hr => by
    have := headFindC a 2 c 4 attrs12 [112, 97, 116, 104] w hr (by decide) rfl (by omega)
    rw [P2] at this
    exact this
  have hE : ∀ w, Sem.run Try.prog (Op.equalIn 10000 24 (.agg #[.string ⟨#[97]⟩, .string ⟨#[98]⟩]) (.agg #[.string ⟨#[97]⟩, .string ⟨#[98]⟩])) w = Result.ok true w := fun w => eqPair [97] [98] [97] [98] w
  clear P1 P2
  go_enter Try.func7, Try.ntmps7
  go_wp2_with (first
    | (go_at_call 8; (with_reducible refine (HP _).mono ?_); rintro e w1 ⟨⟨a, c, rfl, hr⟩, hx⟩; have hr := hr.below (below_alloc w1 (.cells #[.string ⟨#[97]⟩, .string ⟨#[98]⟩] 24)); have o1 := ObjAt.new w1 #[.string ⟨#[97]⟩, .string ⟨#[98]⟩] 24; have hb := hx.alloc hx.size (.cells #[.string ⟨#[97]⟩, .string ⟨#[98]⟩] 24); generalize hv : w1.alloc (.cells #[.string ⟨#[97]⟩, .string ⟨#[98]⟩] 24) = v at *; clear hx)
    | (go_at_call 13; (with_reducible refine (HF _ _ _ hr).mono ?_); rintro e w2 ⟨rfl, hx⟩; have o1 := o1.below hx o1.lt; have hb := hb.trans (hx.mono hb.size); have c0 := o1.cell 0 rfl; have c1 := o1.cell 1 rfl; clear hx))
  go_ret
  exact ⟨rfl, hb⟩

theorem beq_self_true {α : Type} [BEq α] [LawfulBEq α] (x : α) : (x == x) = true := by simp

set_option maxHeartbeats 1000000 in
set_option maxRecDepth 100000 in
theorem headerParses_walk (s : ByteArray) (w : World) (hs : s.size ≤ maxLen) : Calls Try.prog 3 #[.string s] w fun e w' => e = .returned (.bool true) ∧ Below w.heap.size w w' := by
  obtain ⟨l, rfl⟩ : ∃ l, s = str l := ⟨_, str_of s⟩
  obtain ⟨n, hn⟩ : ∃ n, l.length = n := ⟨_, rfl⟩
  have hsz : (str l).size = n := by rw [str_size, hn]
  rw [hsz] at hs
  unfold maxLen at hs
  have hb := Below.refl w.heap.size w
  by_cases h1 : 5000 < n
  · have h1' : (5000 : Int) < (n : Int) := by omega
    go_enter Try.func3, Try.ntmps3
    go_wp2_with (go_at_call 7; (with_reducible refine (awake12C _).mono ?_); rintro e w1 ⟨rfl, hx⟩)
    go_ret
    exact ⟨rfl, hx⟩
  · have h1' : ¬ (5000 : Int) < (n : Int) := by omega
    have HP := fun w => headParseC l n w hn (by omega)
    have HR := fun w => refHParseC l n w hn (by omega)
    unfold HParseIs at HP HR
    have hll : Hid ((parseH l).2.1.length ≤ 100000) := by
      unfold Hid parseH
      split
      · simp
      · split
        · simp
        · split
          · simp
          · split
            · simp
            · have := splitL_le l 59
              simp only [List.length_map, List.length_drop]
              omega
    generalize parseH l = r at *
    obtain ⟨⟨p1, p2⟩, L, er⟩ := r
    unfold valP at HP HR
    dsimp only at *
    have hE := eqRefPair p1 p2 p1 p2
    rw [beq_self_true, beq_self_true, Bool.and_self] at hE
    clear hn h1
    go_enter Try.func3, Try.ntmps3
    go_wp2_with (first
      | (go_at_call 8; (with_reducible refine (HP _).mono ?_); rintro e w1 ⟨⟨a, m, c, rfl, hr⟩, hx⟩; have hr := hr.below (below_alloc w1 (.cells #[.string (str p1), .string (str p2)] 24)); have o1 := ObjAt.new w1 #[.string (str p1), .string (str p2)] 24; have hb1 := hx.alloc hx.size (.cells #[.string (str p1), .string (str p2)] 24); generalize hv : w1.alloc (.cells #[.string (str p1), .string (str p2)] 24) = v at *; clear hx)
      | (go_at_call 9; (with_reducible refine (HR _).mono ?_); rintro e w2 ⟨⟨a2, m2, c2, rfl, hr2⟩, hx⟩; have hr := hr.below hx; have o1 := o1.below hx o1.lt; have hb2 := hb1.trans (hx.mono hb1.size); have hr := hr.below (below_alloc w2 (.cells #[.string (str p1), .string (str p2)] 29)); have hr2 := hr2.below (below_alloc w2 (.cells #[.string (str p1), .string (str p2)] 29)); have o1 := o1.below (below_alloc w2 (.cells #[.string (str p1), .string (str p2)] 29)) o1.lt; have o2 := ObjAt.new w2 #[.string (str p1), .string (str p2)] 29; have hb3 := hb2.alloc hb2.size (.cells #[.string (str p1), .string (str p2)] 29); generalize hv2 : w2.alloc (.cells #[.string (str p1), .string (str p2)] 29) = v2 at *; have c0 := o1.cell 0 rfl; have c1 := o1.cell 1 rfl; have d0 := o2.cell 0 rfl; have d1 := o2.cell 1 rfl; clear hx)
      | (go_at_call 11; (with_reducible refine (backC _ _ _ _ _ hr (by rw [← hr.leq]; exact hll.out)).mono ?_); rintro e w5 ⟨a5, c5, rfl, hO, hx⟩; have hr5 := hO.row encP_len; have hr2 := hr2.below hx; have hb4 := hb3.trans (hx.mono hb3.size); clear hx)
      | (go_at_call 10; (with_reducible refine (refSameHC _ _ _ _ _ _ _ _ _ hr5 hr2).mono ?_); rintro e w6 ⟨rfl, hq⟩; rw [beq_self_true]; have hx := below_quiet hq; have hb5 := hb4.trans (hx.mono hb4.size); clear hx)
      | (go_at_call 7; (with_reducible refine (awake12C _).mono ?_); rintro e w7 ⟨rfl, hx⟩; have hb6 := hb5.trans (hx.mono hb5.size); clear hx))
    go_ret
    exact ⟨rfl, hb6⟩
end Go.Proofs.Ytlmcfflpgkapgaa
