/- Contracts of layer 12: Print. -/
import Derived.Test.YtlmcfflpgkapgaaHeadText
import Derived.Test.YtlmcfflpgkapgaaHeadParse
import Derived.Test.YtlmcfflpgkapgaaHeadEqual
namespace Go.Proofs.Ytlmcfflpgkapgaa
open Go.RowKit
set_option linter.unusedVariables false

theorem textShortC (p : List UInt8 × List UInt8) (a : Option Addr) (n c : Nat) (L : List (List UInt8 × List UInt8)) (w : World) (hL : RowOf encP 2 w a n c L) (hlen : (textH p L).length ≤ 4096) :
    Calls Try.prog 29 #[valP p, .slice a n c] w fun e w' => e = .returned (.string (str (textH p L))) ∧ Below w.heap.size w w' :=
  (headTextC p a n c L w hL (by omega)).mono fun e w' ⟨T, he, _, hT, hb⟩ => by
    rcases hT with rfl | hT
    · exact ⟨he, hb⟩
    · omega

theorem textLongC (p : List UInt8 × List UInt8) (a : Option Addr) (n c : Nat) (L : List (List UInt8 × List UInt8)) (w : World) (hL : RowOf encP 2 w a n c L) (hlen : (textH p L).length ≤ 100000) (hlo : 4096 < (textH p L).length) :
    Calls Try.prog 29 #[valP p, .slice a n c] w fun e w' => ∃ T, e = .returned (.string (str T)) ∧ Hid (T.length ≤ 100000 ∧ 4096 < T.length) ∧ Below w.heap.size w w' :=
  (headTextC p a n c L w hL hlen).mono fun e w' ⟨T, he, h1, hT, hb⟩ => by
    refine ⟨T, he, ⟨h1, ?_⟩, hb⟩
    rcases hT with rfl | hT
    · exact hlo
    · exact hT.1

theorem parseLongC (T : List UInt8) (w : World) (h : Hid (T.length ≤ 100000 ∧ 4096 < T.length)) :
    Calls Try.prog 8 #[.string (str T)] w fun e w' => (∃ a n c, e = .returned (.tuple #[.agg #[.string ⟨#[]⟩, .string ⟨#[]⟩], .slice a n c, .int .i64 3])) ∧ Below w.heap.size w w' :=
  (headParseC T T.length w rfl h.out.1).mono fun e w' ⟨⟨a, n, c, he, _⟩, hb⟩ => by
    have hp : parseH T = (([], []), [], 3) := by unfold parseH; rw [if_pos h.out.2]
    rw [hp] at he
    exact ⟨⟨a, n, c, he⟩, hb⟩

set_option maxRecDepth 100000 in
theorem headPrintC (p : List UInt8 × List UInt8) (a : Option Addr) (n c : Nat) (L : List (List UInt8 × List UInt8)) (w : World) (hL : RowOf encP 2 w a n c L) (hlen : (textH p L).length ≤ 100000) :
    Calls Try.prog 16 #[valP p, .slice a n c] w fun e w' => e = .returned (.tuple #[.string (str (printH p L).1), .int .i64 (printH p L).2]) ∧ Below w.heap.size w w' := by
  have hk := str_toList
  have hnil : str [] = ⟨#[]⟩ := rfl
  have hb0 := below_alloc w (.cells #[.string (str p.1), .string (str p.2)] 24)
  have o2 := ObjAt.new w #[.string (str p.1), .string (str p.2)] 24
  have hL0 := hL.below hb0
  by_cases hlo : 4096 < (textH p L).length
  · have hp : Hid (printH p L = ([], 1)) := by
      unfold Hid printH
      have hp : parseH (textH p L) = (([], []), [], 3) := by unfold parseH; rw [if_pos hlo]
      rw [hp, if_neg (fun e => by have := congrArg (·.2.2) e; simp at this)]
    have HT := fun w h => textLongC p a n c L w h hlen hlo
    have HP := parseLongC
    unfold valP at HT ⊢
    obtain ⟨p1, p2⟩ := p
    dsimp only at *
    clear hL hlen hlo
    generalize hv : w.alloc (.cells #[.string (str p1), .string (str p2)] 24) = v at *
    have d0 := o2.cell 0 rfl
    have d1 := o2.cell 1 rfl
    go_enter Try.func16, Try.ntmps16
    go_wp2_with (first
      | (go_at_call 29; (with_reducible refine (HT _ hL0).mono ?_); rintro e w1 ⟨T, rfl, hT, hx⟩; have hb1 := hb0.trans (hx.mono hb0.size); clear hx)
      | (go_at_call 8; (with_reducible refine (HP _ _ hT).mono ?_); rintro e w2 ⟨⟨a2, n2, c2, rfl⟩, hx⟩; have hb2 := hb1.trans (hx.mono hb1.size); have hb3 := hb2.alloc hb2.size (.cells #[.string ⟨#[]⟩, .string ⟨#[]⟩] 24); clear hx))
    go_ret2
    exact ⟨by rw [hp.out]; rfl, by assumption⟩
  · have HT := fun w h => textShortC p a n c L w h (by omega)
    have HP := fun w => headParseC (textH p L) (textH p L).length w rfl (by omega)
    have he : (parseH (textH p L)).2.2 = 0 ∨ ((parseH (textH p L)).2.2 == 0) = false ∧ ((parseH (textH p L)).2.2 != 0) = true := by
      unfold parseH
      split
      · exact .inr ⟨rfl, rfl⟩
      · split
        · exact .inr ⟨rfl, rfl⟩
        · split
          · exact .inr ⟨rfl, rfl⟩
          · split
            · exact .inr ⟨rfl, rfl⟩
            · exact .inl rfl
    have hpr : Hid (printH p L = if parseH (textH p L) = (p, L, 0) then (textH p L, 0) else ([], 1)) := rfl
    unfold HParseIs at HP
    generalize parseH (textH p L) = R at *
    obtain ⟨⟨q1, q2⟩, M, er⟩ := R
    generalize textH p L = T at *
    obtain ⟨p1, p2⟩ := p
    unfold valP at *
    dsimp only at *
    have hE := eqHeadPair q1 q2 p1 p2
    have hM := Lib.hid hL
    clear hL hlen hlo
    generalize hv : w.alloc (.cells #[.string (str p1), .string (str p2)] 24) = v at *
    have d0 := o2.cell 0 rfl
    have d1 := o2.cell 1 rfl
    have HE := fun b m c2 w h1 h2 => headEqualC b a m n c2 c M L w h1 h2
    rcases he with rfl | ⟨he1, he2⟩
    · obtain ⟨tb, htb⟩ : ∃ tb, (q1 == p1 && q2 == p2) = tb := ⟨_, rfl⟩
      rw [htb] at hE
      cases tb with
      | false =>
        have hp : Hid (printH (p1, p2) L = ([], 1)) := by
          unfold Hid
          rw [hpr.out, if_neg]
          intro e
          cases e
          simp at htb
        clear hpr htb
        go_enter Try.func16, Try.ntmps16
        go_wp2_with (first
          | (go_at_call 29; (with_reducible refine (HT _ hL0).mono ?_); rintro e w1 ⟨rfl, hx⟩; have hb1 := hb0.trans (hx.mono hb0.size); have o2 := o2.below hx o2.lt; clear hx)
          | (go_at_call 8; (with_reducible refine (HP _).mono ?_); rintro e w2 ⟨⟨a2, n2, c2, rfl, hR⟩, hx⟩; have hb2 := hb1.trans (hx.mono hb1.size); have o2 := o2.below hx o2.lt; have o7 := ObjAt.new w2 #[.string (str q1), .string (str q2)] 24; have hy := below_alloc w2 (.cells #[.string (str q1), .string (str q2)] 24); have hb3 := hb2.trans (hy.mono hb2.size); have o2 := o2.below hy o2.lt; have hR := hR.below hy; generalize hv2 : w2.alloc (.cells #[.string (str q1), .string (str q2)] 24) = v2 at *; have d0 := o2.cell 0 rfl; have d1 := o2.cell 1 rfl; have r0 := o7.cell 0 rfl; have r1 := o7.cell 1 rfl; clear hx hy))
        go_ret2
        exact ⟨by rw [hp.out]; rfl, by assumption⟩
      | true =>
        obtain ⟨tm, htm⟩ : ∃ tm, (M == L) = tm := ⟨_, rfl⟩
        rw [htm] at HE
        rw [Bool.and_eq_true, beq_iff_eq, beq_iff_eq] at htb
        obtain ⟨rfl, rfl⟩ := htb
        have hp : Hid (printH (q1, q2) L = if tm = true then (T, 0) else ([], 1)) := by
          unfold Hid
          rw [hpr.out]
          by_cases h : M = L
          · subst h
            rw [if_pos rfl, if_pos (by rw [← htm]; simp)]
          · rw [if_neg (fun e => h (by cases e; rfl)), if_neg (by rw [← htm, beq_iff_eq]; exact h)]
        clear hpr htm
        cases tm
        all_goals
          go_enter Try.func16, Try.ntmps16
          go_wp2_with (first
            | (go_at_call 29; (with_reducible refine (HT _ hL0).mono ?_); rintro e w1 ⟨rfl, hx⟩; have hb1 := hb0.trans (hx.mono hb0.size); have o2 := o2.below hx o2.lt; clear hx)
            | (go_at_call 8; (with_reducible refine (HP _).mono ?_); rintro e w2 ⟨⟨a2, n2, c2, rfl, hR⟩, hx⟩; have hb2 := hb1.trans (hx.mono hb1.size); have o2 := o2.below hx o2.lt; have o7 := ObjAt.new w2 #[.string (str q1), .string (str q2)] 24; have hy := below_alloc w2 (.cells #[.string (str q1), .string (str q2)] 24); have hb3 := hb2.trans (hy.mono hb2.size); have o2 := o2.below hy o2.lt; have hR := hR.below hy; generalize hv2 : w2.alloc (.cells #[.string (str q1), .string (str q2)] 24) = v2 at *; have d0 := o2.cell 0 rfl; have d1 := o2.cell 1 rfl; have r0 := o7.cell 0 rfl; have r1 := o7.cell 1 rfl; clear hx hy)
            | (go_at_call 30; (with_reducible refine (HE _ _ _ _ hR (hM.out.below hb3)).mono ?_); rintro e w5 ⟨rfl, hq⟩; have hb4 := hb3.trans ((below_quiet hq).mono hb3.size)))
          go_ret2
          exact ⟨by rw [hp.out]; rfl, by assumption⟩
    · have hp : Hid (printH (p1, p2) L = ([], 1)) := by
        unfold Hid
        rw [hpr.out, if_neg]
        intro e
        cases e
        simp at he1
      clear hpr
      go_enter Try.func16, Try.ntmps16
      go_wp2_with (first
        | (go_at_call 29; (with_reducible refine (HT _ hL0).mono ?_); rintro e w1 ⟨rfl, hx⟩; have hb1 := hb0.trans (hx.mono hb0.size); have o2 := o2.below hx o2.lt; clear hx)
        | (go_at_call 8; (with_reducible refine (HP _).mono ?_); rintro e w2 ⟨⟨a2, n2, c2, rfl, hR⟩, hx⟩; have hb2 := hb1.trans (hx.mono hb1.size); have hb3 := hb2.alloc hb2.size (.cells #[.string (str q1), .string (str q2)] 24); clear hx))
      go_ret2
      exact ⟨by rw [hp.out]; rfl, by assumption⟩
end Go.Proofs.Ytlmcfflpgkapgaa
