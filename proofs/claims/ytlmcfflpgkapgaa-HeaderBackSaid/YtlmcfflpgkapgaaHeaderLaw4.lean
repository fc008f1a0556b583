/- Layer 12's laws, walked: the text that is parted so. -/
import Derived.Test.YtlmcfflpgkapgaaHeaderLaw3
namespace Go.Proofs.Ytlmcfflpgkapgaa
open Go.RowKit
set_option linter.unusedVariables false

theorem light_one (p1 p2 : List UInt8) : lightP [(p1, p2)] = (decide (p1.length ≤ 300) && decide (p2.length ≤ 1100)) := by
  unfold lightP
  simp

set_option maxHeartbeats 2000000 in
set_option maxRecDepth 100000 in
theorem headerPrints_walk (p1 p2 : List UInt8) (a : Option Addr) (n c : Nat) (L : List (List UInt8 × List UInt8)) (w : World) (hp1 : (str p1).size ≤ maxLen) (hp2 : (str p2).size ≤ maxLen) (hL : RowOf encP 2 w a n c L) (hS : ∀ x ∈ L, x.1.length ≤ maxLen ∧ x.2.length ≤ maxLen) :
    Calls Try.prog 5 #[.agg #[.string (str p1), .string (str p2)], .slice a n c] w fun e w' => e = .returned (.bool true) ∧ Below w.heap.size w w' := by
  rw [str_size] at hp1 hp2
  have hb0 := below_alloc w (.cells #[.string (str p1), .string (str p2)] 29)
  have o0 := ObjAt.new w #[.string (str p1), .string (str p2)] 29
  have hL0 := hL.below hb0
  generalize hW : w.alloc (.cells #[.string (str p1), .string (str p2)] 29) = W at *
  have HL := light12C a n c L W hL0 hS
  have z0 := o0.cell 0 rfl
  have z1 := o0.cell 1 rfl
  have HL1 := fun (v : World) (r : RowOf encP 2 v (some ⟨W.heap.size, 0, none⟩) 1 1 [(p1, p2)]) => light12C _ 1 1 [(p1, p2)] v r (by intro x hx; rw [List.mem_singleton.1 hx]; exact ⟨hp1, hp2⟩)
  have hnew := OwnZ.new encP_len [(p1, p2)] #[.string (str p1), .string (str p2)] rfl 1 rfl (by unfold maxLen; omega) 29 W
  have hb1 := hb0.trans ((below_alloc W (.cells #[.string (str p1), .string (str p2)] 29)).mono hb0.size)
  rw [light_one] at HL1
  cases hlt : lightP L with
  | false =>
    rw [hlt] at HL
    clear hL hS hL0 hnew HL1
    go_enter Try.func5, Try.ntmps5
    go_wp2_with (first
      | (go_at_call 12; (with_reducible refine HL.mono ?_); rintro e w1 ⟨rfl, rfl⟩)
      | (go_at_call 7; (with_reducible refine (awake12C _).mono ?_); rintro e w1 ⟨rfl, hx⟩; have hb2 := hb0.trans (hx.mono hb0.size)))
    go_ret
    exact ⟨rfl, hb2⟩
  | true =>
    rw [hlt] at HL
    cases hl1 : (decide (p1.length ≤ 300) && decide (p2.length ≤ 1100)) with
    | false =>
      rw [hl1] at HL1
      have HL2 := HL1 _ (hnew.row encP_len)
      clear hL hS hL0 hnew HL1
      go_enter Try.func5, Try.ntmps5
      go_wp2_with (first
        | (go_at_call 12; (with_reducible refine HL.mono ?_); rintro e w1 ⟨rfl, rfl⟩)
        | (go_at_call 12; (with_reducible refine HL2.mono ?_); rintro e w1 ⟨rfl, rfl⟩)
        | (go_at_call 7; (with_reducible refine (awake12C _).mono ?_); rintro e w1 ⟨rfl, hx⟩; have hb2 := hb1.trans (hx.mono hb1.size)))
      go_ret
      exact ⟨rfl, hb2⟩
    | true =>
      rw [hl1] at HL1
      have HL2 := HL1 _ (hnew.row encP_len)
      have hL1 := hL0.below (below_alloc W (.cells #[.string (str p1), .string (str p2)] 29))
      have o1 := o0.below (below_alloc W (.cells #[.string (str p1), .string (str p2)] 29)) o0.lt
      obtain ⟨hc1, hc2⟩ := light_is hlt
      rw [Bool.and_eq_true, decide_eq_true_iff, decide_eq_true_iff] at hl1
      have hlen := text_len (p1, p2) hl1 L hc2
      have hn40 : n ≤ 100000 := by rw [← hL.leq]; omega
      have HO := fun v (h : RowOf encP 2 v a n c L) => ownC a n c L v h hn40
      have HP := fun b d v (h : RowOf encP 2 v b n d L) => headPrintC (p1, p2) b n d L v h (by omega)
      have HX := fun v (h : RowOf encP 2 v a n c L) => refTextHC (p1, p2) a n c L v h (by omega)
      obtain ⟨m, hm⟩ : ∃ m, (textH (p1, p2) L).length = m := ⟨_, rfl⟩
      have HR := fun v => refHParseC (textH (p1, p2) L) m v hm (by omega)
      unfold HParseIs at HR
      unfold valP at HP HX HR
      unfold printH at HP
      generalize hW1 : W.alloc (.cells #[.string (str p1), .string (str p2)] 29) = W1 at *
      generalize textH (p1, p2) L = T at *
      generalize parseH T = R at *
      obtain ⟨⟨q1, q2⟩, M, er⟩ := R
      dsimp only at *
      clear hL hS hL0 hnew HL1 hc1 hc2 hl1 hlt hlen hn40 hm hb0 o0 hp1 hp2
      have hk := str_toList
      have y0 := o1.cell 0 rfl
      have y1 := o1.cell 1 rfl
      have hdr : Below W1.heap.size W1 W1.drew := (Below.refl _ W1).drew
      have hLd := hL1.below hdr
      have od := o1.below hdr o1.lt
      have hbd := hb1.trans (hdr.mono hb1.size)
      have u0 := od.cell 0 rfl
      have u1 := od.cell 1 rfl
      have hnil : str [] = ⟨#[]⟩ := rfl
      by_cases he : er = 0
      · subst he
        by_cases hq : (q1, q2) = (p1, p2)
        · cases hq
          have hE := eqRefPair p1 p2 p1 p2
          rw [beq_self_true, beq_self_true, Bool.and_self] at hE
          by_cases hM : M = L
          · subst hM
            rw [if_pos rfl] at HP
            have hTT : (T == T) = true := by simp
            dsimp only at *
            go_enter Try.func5, Try.ntmps5
            go_wp2_with (first
              | (go_at_call 12; (with_reducible refine HL.mono ?_); rintro e w1 ⟨rfl, rfl⟩)
              | (go_at_call 12; (with_reducible refine HL2.mono ?_); rintro e w1 ⟨rfl, rfl⟩))
            go_region_law (first
              | ((try go_simp); go_at_call 14; (refine (HO _ hLd).mono ?_); rintro e w1 ⟨b, d, rfl, hO, hx⟩; have hr := hO.row encP_len; have hL2 := hLd.below hx; have o2 := od.below hx od.lt; have hb2 := hbd.trans (hx.mono hbd.size); have v0 := o2.cell 0 rfl; have v1 := o2.cell 1 rfl; clear hx)
              | ((try go_simp); go_at_call 16; (refine (HP _ _ _ hr).mono ?_); rintro e w2 ⟨rfl, hx⟩; have hL3 := hL2.below hx; have o3 := o2.below hx o2.lt; have hb3 := hb2.trans (hx.mono hb2.size); have x0 := o3.cell 0 rfl; have x1 := o3.cell 1 rfl; clear hx))
            all_goals
              go_wp2_with (first
                | (go_at_call 17; (with_reducible refine (HX _ hL3).mono ?_); rintro e w3 ⟨rfl, hx⟩; have hL4 := hL3.below hx; have o4 := o3.below hx o3.lt; have hb4 := hb3.trans (hx.mono hb3.size); clear hx)
                | (go_at_call 9; (with_reducible refine (HR _).mono ?_); rintro e w4 ⟨⟨a4, n4, c4, rfl, hr4⟩, hx⟩; have hL5 := (hL4.below hx).below (below_alloc w4 (.cells #[.string (str p1), .string (str p2)] 29)); have hr5 := hr4.below (below_alloc w4 (.cells #[.string (str p1), .string (str p2)] 29)); have o5 := (o4.below hx o4.lt).below (below_alloc w4 (.cells #[.string (str p1), .string (str p2)] 29)) (o4.below hx o4.lt).lt; have o8 := ObjAt.new w4 #[.string (str p1), .string (str p2)] 29; have hb5 := hb4.trans (hx.mono hb4.size); have hb6 := hb5.alloc hb5.size (.cells #[.string (str p1), .string (str p2)] 29); generalize hv : w4.alloc (.cells #[.string (str p1), .string (str p2)] 29) = v at *; have i0 := o5.cell 0 rfl; have i1 := o5.cell 1 rfl; have j0 := o8.cell 0 rfl; have j1 := o8.cell 1 rfl; clear hx)
                | (go_at_call 10; (with_reducible refine (refSameHC _ _ _ _ _ _ _ _ _ hr5 hL5).mono ?_); rintro e w6 ⟨rfl, hq⟩; have hx := below_quiet hq; have hb6 := hb6.trans (hx.mono hb6.size); clear hx hq; rw [beq_self_true])
                | (go_at_call 7; (with_reducible refine (awake12C _).mono ?_); rintro e w7 ⟨rfl, hx⟩; have hb6 := hb6.trans (hx.mono hb6.size); clear hx))
              go_ret
              exact ⟨rfl, hb6⟩
          · have hMf : (M == L) = false := beq_eq_false_iff_ne.2 hM
            rw [if_neg (by rintro h; cases h; exact hM rfl)] at HP
            rw [hnil] at HP
            dsimp only at *
            go_enter Try.func5, Try.ntmps5
            go_wp2_with (first
              | (go_at_call 12; (with_reducible refine HL.mono ?_); rintro e w1 ⟨rfl, rfl⟩)
              | (go_at_call 12; (with_reducible refine HL2.mono ?_); rintro e w1 ⟨rfl, rfl⟩))
            go_region_law (first
              | ((try go_simp); go_at_call 14; (refine (HO _ hLd).mono ?_); rintro e w1 ⟨b, d, rfl, hO, hx⟩; have hr := hO.row encP_len; have hL2 := hLd.below hx; have o2 := od.below hx od.lt; have hb2 := hbd.trans (hx.mono hbd.size); have v0 := o2.cell 0 rfl; have v1 := o2.cell 1 rfl; clear hx)
              | ((try go_simp); go_at_call 16; (refine (HP _ _ _ hr).mono ?_); rintro e w2 ⟨rfl, hx⟩; have hL3 := hL2.below hx; have o3 := o2.below hx o2.lt; have hb3 := hb2.trans (hx.mono hb2.size); have x0 := o3.cell 0 rfl; have x1 := o3.cell 1 rfl; clear hx))
            all_goals
              go_wp2_with (first
                | (go_at_call 17; (with_reducible refine (HX _ hL3).mono ?_); rintro e w3 ⟨rfl, hx⟩; have hL4 := hL3.below hx; have o4 := o3.below hx o3.lt; have hb4 := hb3.trans (hx.mono hb3.size); clear hx)
                | (go_at_call 9; (with_reducible refine (HR _).mono ?_); rintro e w4 ⟨⟨a4, n4, c4, rfl, hr4⟩, hx⟩; have hL5 := (hL4.below hx).below (below_alloc w4 (.cells #[.string (str p1), .string (str p2)] 29)); have hr5 := hr4.below (below_alloc w4 (.cells #[.string (str p1), .string (str p2)] 29)); have o5 := (o4.below hx o4.lt).below (below_alloc w4 (.cells #[.string (str p1), .string (str p2)] 29)) (o4.below hx o4.lt).lt; have o8 := ObjAt.new w4 #[.string (str p1), .string (str p2)] 29; have hb5 := hb4.trans (hx.mono hb4.size); have hb6 := hb5.alloc hb5.size (.cells #[.string (str p1), .string (str p2)] 29); generalize hv : w4.alloc (.cells #[.string (str p1), .string (str p2)] 29) = v at *; have i0 := o5.cell 0 rfl; have i1 := o5.cell 1 rfl; have j0 := o8.cell 0 rfl; have j1 := o8.cell 1 rfl; clear hx)
                | (go_at_call 10; (with_reducible refine (refSameHC _ _ _ _ _ _ _ _ _ hr5 hL5).mono ?_); rintro e w6 ⟨rfl, hq⟩; have hx := below_quiet hq; have hb6 := hb6.trans (hx.mono hb6.size); clear hx hq; rw [hMf])
                | (go_at_call 7; (with_reducible refine (awake12C _).mono ?_); rintro e w7 ⟨rfl, hx⟩; have hb6 := hb6.trans (hx.mono hb6.size); clear hx))
              go_ret
              exact ⟨rfl, hb6⟩
        · have hE := eqRefPair q1 q2 p1 p2
          have e : (q1 == p1 && q2 == p2) = false := by
            rw [Bool.eq_false_iff]
            intro c
            rw [Bool.and_eq_true, beq_iff_eq, beq_iff_eq] at c
            exact hq (by rw [c.1, c.2])
          rw [e] at hE
          rw [if_neg (by rintro h; cases h; exact hq rfl)] at HP
          rw [hnil] at HP
          clear hq e
          dsimp only at *
          go_enter Try.func5, Try.ntmps5
          go_wp2_with (first
            | (go_at_call 12; (with_reducible refine HL.mono ?_); rintro e w1 ⟨rfl, rfl⟩)
            | (go_at_call 12; (with_reducible refine HL2.mono ?_); rintro e w1 ⟨rfl, rfl⟩))
          go_region_law (first
            | ((try go_simp); go_at_call 14; (refine (HO _ hLd).mono ?_); rintro e w1 ⟨b, d, rfl, hO, hx⟩; have hr := hO.row encP_len; have hL2 := hLd.below hx; have o2 := od.below hx od.lt; have hb2 := hbd.trans (hx.mono hbd.size); have v0 := o2.cell 0 rfl; have v1 := o2.cell 1 rfl; clear hx)
            | ((try go_simp); go_at_call 16; (refine (HP _ _ _ hr).mono ?_); rintro e w2 ⟨rfl, hx⟩; have hL3 := hL2.below hx; have o3 := o2.below hx o2.lt; have hb3 := hb2.trans (hx.mono hb2.size); have x0 := o3.cell 0 rfl; have x1 := o3.cell 1 rfl; clear hx))
          all_goals
            go_wp2_with (first
              | (go_at_call 17; (with_reducible refine (HX _ hL3).mono ?_); rintro e w3 ⟨rfl, hx⟩; have hL4 := hL3.below hx; have o4 := o3.below hx o3.lt; have hb4 := hb3.trans (hx.mono hb3.size); clear hx)
              | (go_at_call 9; (with_reducible refine (HR _).mono ?_); rintro e w4 ⟨⟨a4, n4, c4, rfl, hr4⟩, hx⟩; have hL5 := (hL4.below hx).below (below_alloc w4 (.cells #[.string (str q1), .string (str q2)] 29)); have hr5 := hr4.below (below_alloc w4 (.cells #[.string (str q1), .string (str q2)] 29)); have o5 := (o4.below hx o4.lt).below (below_alloc w4 (.cells #[.string (str q1), .string (str q2)] 29)) (o4.below hx o4.lt).lt; have o8 := ObjAt.new w4 #[.string (str q1), .string (str q2)] 29; have hb5 := hb4.trans (hx.mono hb4.size); have hb6 := hb5.alloc hb5.size (.cells #[.string (str q1), .string (str q2)] 29); generalize hv : w4.alloc (.cells #[.string (str q1), .string (str q2)] 29) = v at *; have i0 := o5.cell 0 rfl; have i1 := o5.cell 1 rfl; have j0 := o8.cell 0 rfl; have j1 := o8.cell 1 rfl; clear hx)
              | (go_at_call 10; (with_reducible refine (refSameHC _ _ _ _ _ _ _ _ _ hr5 hL5).mono ?_); rintro e w6 ⟨rfl, hq⟩; have hx := below_quiet hq; have hb6 := hb6.trans (hx.mono hb6.size); clear hx hq)
              | (go_at_call 7; (with_reducible refine (awake12C _).mono ?_); rintro e w7 ⟨rfl, hx⟩; have hb6 := hb6.trans (hx.mono hb6.size); clear hx))
            go_ret
            exact ⟨rfl, hb6⟩
      · have he2 : (er == 0) = false := beq_eq_false_iff_ne.2 he
        have he3 : (er != 0) = true := bne_iff_ne.2 he
        rw [if_neg (by rintro h; cases h; exact he rfl)] at HP
        rw [hnil] at HP
        clear he
        dsimp only at *
        go_enter Try.func5, Try.ntmps5
        go_wp2_with (first
          | (go_at_call 12; (with_reducible refine HL.mono ?_); rintro e w1 ⟨rfl, rfl⟩)
          | (go_at_call 12; (with_reducible refine HL2.mono ?_); rintro e w1 ⟨rfl, rfl⟩))
        go_region_law (first
          | ((try go_simp); go_at_call 14; (refine (HO _ hLd).mono ?_); rintro e w1 ⟨b, d, rfl, hO, hx⟩; have hr := hO.row encP_len; have hL2 := hLd.below hx; have o2 := od.below hx od.lt; have hb2 := hbd.trans (hx.mono hbd.size); have v0 := o2.cell 0 rfl; have v1 := o2.cell 1 rfl; clear hx)
          | ((try go_simp); go_at_call 16; (refine (HP _ _ _ hr).mono ?_); rintro e w2 ⟨rfl, hx⟩; have hL3 := hL2.below hx; have o3 := o2.below hx o2.lt; have hb3 := hb2.trans (hx.mono hb2.size); have x0 := o3.cell 0 rfl; have x1 := o3.cell 1 rfl; clear hx))
        all_goals
          go_wp2_with (first
            | (go_at_call 17; (with_reducible refine (HX _ hL3).mono ?_); rintro e w3 ⟨rfl, hx⟩; have hL4 := hL3.below hx; have o4 := o3.below hx o3.lt; have hb4 := hb3.trans (hx.mono hb3.size); clear hx)
            | (go_at_call 9; (with_reducible refine (HR _).mono ?_); rintro e w4 ⟨⟨a4, n4, c4, rfl, hr4⟩, hx⟩; have hL5 := (hL4.below hx).below (below_alloc w4 (.cells #[.string (str q1), .string (str q2)] 29)); have hr5 := hr4.below (below_alloc w4 (.cells #[.string (str q1), .string (str q2)] 29)); have o5 := (o4.below hx o4.lt).below (below_alloc w4 (.cells #[.string (str q1), .string (str q2)] 29)) (o4.below hx o4.lt).lt; have o8 := ObjAt.new w4 #[.string (str q1), .string (str q2)] 29; have hb5 := hb4.trans (hx.mono hb4.size); have hb6 := hb5.alloc hb5.size (.cells #[.string (str q1), .string (str q2)] 29); generalize hv : w4.alloc (.cells #[.string (str q1), .string (str q2)] 29) = v at *; have i0 := o5.cell 0 rfl; have i1 := o5.cell 1 rfl; have j0 := o8.cell 0 rfl; have j1 := o8.cell 1 rfl; clear hx)
            | (go_at_call 10; (with_reducible refine (refSameHC _ _ _ _ _ _ _ _ _ hr5 hL5).mono ?_); rintro e w6 ⟨rfl, hq⟩; have hx := below_quiet hq; have hb6 := hb6.trans (hx.mono hb6.size); clear hx hq)
            | (go_at_call 7; (with_reducible refine (awake12C _).mono ?_); rintro e w7 ⟨rfl, hx⟩; have hb6 := hb6.trans (hx.mono hb6.size); clear hx))
          go_ret
          exact ⟨rfl, hb6⟩
end Go.Proofs.Ytlmcfflpgkapgaa
