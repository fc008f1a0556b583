/- Contracts and plain words that the laws' proofs stand on. -/
import Derived.Test.YtaodjnkjjmhecaaGreatDoorLibAD
import Derived.Test.YtaodjnkjjmhecaaGreatDoorSfHeap
import Derived.Test.YtaodjnkjjmhecaaGreatDoorSfPartial
import Derived.Test.YtaodjnkjjmhecaaGreatDoorSfPartEq
namespace Go.Proofs.YtaodjnkjjmhecaaGreatDoor
open Go.Shelf Go.RowKit Go.Lib
open Go.Sort (swp)
set_option linter.unusedVariables false
set_option linter.unusedSimpArgs false
set_option linter.unusedSectionVars false
variable {α : Type} [Inhabited α]
set_option maxHeartbeats 12800000 in
set_option maxRecDepth 1000000 in
theorem sfPdq {P : Program} {ρ : Ren} {g : Nat} {lb : Array Value} {sf : Nat} {sb : Array Value} {lt : α → α → Bool} {n blk B : Nat} {S : Array α → World → Prop} {sw : Array α → World → Nat → Nat → World} (L : LaysGg.n14 P ρ) (H : Sorts P g lb sf sb lt n blk B S sw) (hO : Sort.SWO lt)
    (hrev : ∀ (d : Array α) (w : World) (a b : Nat), S d w → a ≤ b → b ≤ n → Calls P (ρ.f 30) #[.agg #[.func (.func g) #[] lb, .func (.func sf) #[] sb], .int .i64 a, .int .i64 b] w fun e w' => e = .returned (.tuple #[]) ∧ InS S blk w (Sort.reverseRange d a b) w')
    (hbrk : ∀ (d : Array α) (w : World) (a b : Nat), S d w → a ≤ b → b ≤ n → Calls P (ρ.f 28) #[.agg #[.func (.func g) #[] lb, .func (.func sf) #[] sb], .int .i64 a, .int .i64 b] w fun e w' => e = .returned (.tuple #[]) ∧ InS S blk w (Sort.breakPatterns d a b) w') :
    ∀ (N a b limit : Nat) (d : Array α) (w : World), b - a < N → S d w → a ≤ b → b ≤ n → limit < 4611686018427387904 → Sort.Below lt a b d →
    Calls P (ρ.f 14) #[.agg #[.func (.func g) #[] lb, .func (.func sf) #[] sb], .int .i64 a, .int .i64 b, .int .i64 limit] w fun e w' => e = .returned (.tuple #[]) ∧ InS S blk w (Sort.pdq lt d a b limit true true) w' := by
  have mixed := L.mixed; have t0 := L.t0; have a0 := L.a0; have z0 := L.z0; have v0 := L.v0; have t3 := L.t3; have a3 := L.a3; have z3 := L.z3; have v3 := L.v3; have t4 := L.t4; have a4 := L.a4; have z4 := L.z4; have v4 := L.v4; have t5 := L.t5; have a5 := L.a5; have z5 := L.z5; have v5 := L.v5; have t9 := L.t9; have a9 := L.a9; have z9 := L.z9; have v9 := L.v9; have t26 := L.t26; have a26 := L.a26; have z26 := L.z26; have v26 := L.v26; have t37 := L.t37; have a37 := L.a37; have z37 := L.z37; have v37 := L.v37; have t41 := L.t41; have a41 := L.a41; have z41 := L.z41; have v41 := L.v41; have t44 := L.t44; have a44 := L.a44; have z44 := L.z44; have v44 := L.v44; have t49 := L.t49; have a49 := L.a49; have z49 := L.z49; have v49 := L.v49; have t51 := L.t51; have a51 := L.a51; have z51 := L.z51; have v51 := L.v51; have t53 := L.t53; have a53 := L.a53; have z53 := L.z53; have v53 := L.v53; have t54 := L.t54; have a54 := L.a54; have z54 := L.z54; have v54 := L.v54; have t58 := L.t58; have a58 := L.a58; have z58 := L.z58; have v58 := L.v58; have t60 := L.t60; have a60 := L.a60; have z60 := L.z60; have v60 := L.v60; have t64 := L.t64; have a64 := L.a64; have z64 := L.z64; have v64 := L.v64; have t66 := L.t66; have a66 := L.a66; have z66 := L.z66; have v66 := L.v66; have t67 := L.t67; have a67 := L.a67; have z67 := L.z67; have v67 := L.v67
  have u44 := run_underlying L.t44
  have eg := H.eg
  have hn := H.small
  have e26 : ∀ args w, (callFunc (ρ.f 26) args).run P w = .ok (.enter (ρ.f 26) args) w := enters_of L.f26 (by kernel_rfl) rfl
  have e27 : ∀ args w, (callFunc (ρ.f 27) args).run P w = .ok (.enter (ρ.f 27) args) w := enters_of L.f27 (by kernel_rfl) rfl
  have e28 : ∀ args w, (callFunc (ρ.f 28) args).run P w = .ok (.enter (ρ.f 28) args) w := enters_of L.f28 (by kernel_rfl) rfl
  have e29 : ∀ args w, (callFunc (ρ.f 29) args).run P w = .ok (.enter (ρ.f 29) args) w := enters_of L.f29 (by kernel_rfl) rfl
  have e30 : ∀ args w, (callFunc (ρ.f 30) args).run P w = .ok (.enter (ρ.f 30) args) w := enters_of L.f30 (by kernel_rfl) rfl
  have e31 : ∀ args w, (callFunc (ρ.f 31) args).run P w = .ok (.enter (ρ.f 31) args) w := enters_of L.f31 (by kernel_rfl) rfl
  have e32 : ∀ args w, (callFunc (ρ.f 32) args).run P w = .ok (.enter (ρ.f 32) args) w := enters_of L.f32 (by kernel_rfl) rfl
  have e33 : ∀ args w, (callFunc (ρ.f 33) args).run P w = .ok (.enter (ρ.f 33) args) w := enters_of L.f33 (by kernel_rfl) rfl
  have e14 : ∀ args w, (callFunc (ρ.f 14) args).run P w = .ok (.enter (ρ.f 14) args) w := enters_of L.f14 (by kernel_rfl) rfl
  intro N
  induction N with
  | zero => intro _ _ _ _ _ h; exact absurd h (Nat.not_lt_zero _)
  | succ N ih =>
    intro a b limit d w hN hS hab hb hlimit hBel0
    have hd : d.size = n := H.size hS
    have REV : Hid _ := hrev
    have BRK : Hid _ := hbrk
    have IH : Hid _ := ih
    clear hrev hbrk ih
    have hne : w.heap.size ≠ blk := by have := H.row; have := H.base hS; omega
    obtain ⟨w1, hw1⟩ : ∃ x, w.alloc (.cells #[.func (.func g) #[] lb, .func (.func sf) #[] sb] (ρ.t 44)) = x := ⟨_, rfl⟩
    have TT : Aside (InS S blk w1 d w1) := by subst hw1; exact H.boxed hS _
    have CC : Hid (∀ (e : Array α) (W : World), InS S blk w1 e W → W.cell? ⟨w.heap.size, 0, none⟩ = some (.func (.func g) #[] lb) ∧ W.cell? ⟨w.heap.size, 1, none⟩ = some (.func (.func sf) #[] sb)) :=
      fun e W h => ⟨h.cell hne (by rw [← hw1]; simp), h.cell hne (by rw [← hw1]; simp)⟩
    have BB : Hid (∀ (e : Array α) (W : World), InS S blk w1 e W → InS S blk w e W) := fun e W h => h.more (by rw [← hw1]; exact below_alloc _ _)
    clear hS
    go_enter L.f14, BodyGg.n14_ntmps ρ
    go_wp2
    go_loopg [1, 2, 3, 8, 9] (b - a) (fun kx s1 s2 s3 s8 s9 wr => ∃ (a' b' lim : Nat) (wb wp : Bool) (dk : Array α), s1 = .int .i64 a' ∧ s2 = .int .i64 b' ∧ s3 = .int .i64 lim ∧ s8 = .bool wb ∧ s9 = .bool wp ∧
      a' ≤ b' ∧ b' ≤ n ∧ b' - a' ≤ kx ∧ kx ≤ b - a ∧ lim ≤ limit ∧ Hid (Sort.Below lt a' b' dk) ∧ Aside (InS S blk w1 dk wr) ∧ Hid (Sort.pdq lt dk a' b' lim wb wp = Sort.pdq lt d a b limit true true))
    case atStart => exact ⟨a, b, limit, true, true, d, rfl, rfl, rfl, rfl, rfl, hab, hb, Nat.le_refl _, Nat.le_refl _, Nat.le_refl _, hBel0, TT, rfl⟩
    case round =>
      clear TT
      obtain ⟨a', b', lim, wb, wp, dk, rfl, rfl, rfl, rfl, rfl, hab', hb', hkx, hkN, hlim, hBel, T, A⟩ := hrel
      have hds : dk.size = n := H.size T.out.s
      obtain ⟨x0, x1⟩ := CC.out _ _ T.out
      by_cases h12 : b' - a' ≤ 12
      · have h12z : (b' : Int) - (a' : Int) ≤ 12 := by omega
        have hc := sfInsert (P := P) (ρ := ρ) { L with } H a' b' dk wr T.out.s hab' hb'
        go_wp2_with (go_at_fn (ρ.f 26); (refine hc.mono ?_); rintro e w2 ⟨rfl, T2⟩)
        (try simp only [Exit.inBlock, Exit.then]); refine bodyPost_ret (results_none rfl _ _ _) rfl ?_
        refine ⟨rfl, BB.out _ _ ?_⟩
        rw [← A.out, Sort.pdq_small h12]
        exact T.out.then T2
      · have h12z : ¬ ((b' : Int) - (a' : Int) ≤ 12) := by omega
        by_cases hl0 : lim = 0
        · subst hl0
          have hc := sfHeap (P := P) (ρ := ρ) { L with } H a' b' dk wr T.out.s hab' hb'
          go_wp2_with (go_at_fn (ρ.f 27); (refine hc.mono ?_); rintro e w2 ⟨rfl, T2⟩)
          (try simp only [Exit.inBlock, Exit.then]); refine bodyPost_ret (results_none rfl _ _ _) rfl ?_
          refine ⟨rfl, BB.out _ _ ?_⟩
          rw [← A.out, Sort.pdq_heap h12 rfl]
          exact T.out.then T2
        · have hl0z : ¬ ((lim : Int) = 0) := by omega
          obtain ⟨s1, B1, hc1, s2, B2, hpv, s3, B3⟩ := Sort.rd_facts (lt := lt) (limit := lim) (wb := wb) (wp := wp) hO Sort.partialInsertionSort_holds Sort.reverseRange_holds (show a' < b' by omega) (show b' ≤ dk.size by omega) hBel.out
          have BE3 : Hid _ := B3
          clear B1 B2 B3 hBel
          -- if !wasBalanced
          go_upto_if 35 with fail
          go_cut [3] from 19 (fun s3 wc => s3 = .int .i64 (Sort.rd lt dk a' b' lim wb wp).lim ∧ Aside (InS S blk w1 (Sort.rd lt dk a' b' lim wb wp).d1 wc))
          case first =>
            cases wb
            · have hc := BRK.out dk wr a' b' T.out.s hab' hb'
              go_wp2_with (go_at_fn (ρ.f 28); (refine hc.mono ?_); rintro e w2 ⟨rfl, T2⟩)
              go_meet
              case rel =>
                refine ⟨?_, T.out.then T2⟩
                show Value.int .i64 ((lim : Int) - 1) = Value.int .i64 ((lim - 1 : Nat) : Int)
                congr 1
                omega
            · go_wp2_with fail
              go_meet
              case rel => exact ⟨rfl, T⟩
          case rest =>
            clear T x0 x1
            obtain ⟨rfl, T⟩ := hcut
            obtain ⟨y0, y1⟩ := CC.out _ _ T.out
            have hc17 := sfPivot (P := P) (ρ := ρ) { L with } H a' b' (Sort.rd lt dk a' b' lim wb wp).d1 wc T.out.s (by omega) hb'
            have hc17' : Calls P (ρ.f 29) #[.agg #[.func (.func g) #[] lb, .func (.func sf) #[] sb], .int .i64 a', .int .i64 b'] wc fun e w' => e = .returned (.tuple #[.int .i64 (Sort.rd lt dk a' b' lim wb wp).c.1, .int .i64 (Sort.hintCode (Sort.rd lt dk a' b' lim wb wp).c.2)]) ∧ Below wc.heap.size wc w' := hc17
            clear hc17
            go_upto_if 50 with (go_at_fn (ρ.f 29); (refine hc17'.mono ?_); rintro e w2 ⟨rfl, hw2⟩)
            have T2 : Aside (InS S blk w1 (Sort.rd lt dk a' b' lim wb wp).d1 w2) := H.below T.out hw2
            clear T y0 y1 hc17' hw2
            obtain ⟨z0, z1⟩ := CC.out _ _ T2.out
            -- if hint == decreasingHint
            go_cut [11, 12] from 19 (fun s11 s12 wc => s11 = .int .i64 (Sort.rd lt dk a' b' lim wb wp).pivot ∧ s12 = .int .i64 (Sort.hintCode (Sort.rd lt dk a' b' lim wb wp).hint) ∧ Aside (InS S blk w1 (Sort.rd lt dk a' b' lim wb wp).d2 wc))
            case first =>
              by_cases hh : (Sort.rd lt dk a' b' lim wb wp).c.2 = .decreasing
              · have hcode : Sort.hintCode (Sort.rd lt dk a' b' lim wb wp).c.2 = 2 := by rw [hh]; rfl
                obtain ⟨e2, epv, eht⟩ := Sort.rd_dec hh
                have hc18 := REV.out (Sort.rd lt dk a' b' lim wb wp).d1 w2 a' b' T2.out.s hab' hb'
                go_wp2_with (go_at_fn (ρ.f 30); (refine hc18.mono ?_); rintro e w3 ⟨rfl, T3⟩)
                go_meet
                case rel =>
                  refine ⟨?_, by rw [eht]; rfl, by rw [e2]; exact T2.out.then T3⟩
                  rw [epv]
                  congr 1
                  omega
              · have hcode : ¬ (Sort.hintCode (Sort.rd lt dk a' b' lim wb wp).c.2 = 2) := fun h => hh (hintCode_two h)
                obtain ⟨e2, epv, eht⟩ := Sort.rd_not hh
                go_wp2_with fail
                go_meet
                case rel => exact ⟨by rw [epv], by rw [eht], by rw [e2]; exact T2⟩
            case rest =>
              clear T2 z0 z1
              obtain ⟨rfl, rfl, T3⟩ := hcut
              obtain ⟨v0, v1⟩ := CC.out _ _ T3.out
              -- wasBalanced && wasPartitioned && hint == increasingHint
              go_upto_region 16 with fail
              go_cut [12, 68] from 19 (fun s12 s68 wx => s12 = .int .i64 (Sort.hintCode (Sort.rd lt dk a' b' lim wb wp).hint) ∧ s68 = .bool (wb && wp && decide ((Sort.rd lt dk a' b' lim wb wp).hint = .increasing)) ∧ wx = wc)
              case first =>
                cases wb <;> cases wp <;> cases hh3 : (Sort.rd lt dk a' b' lim _ _).hint <;>
                  (have hcode3 := congrArg Sort.hintCode hh3
                   simp only [Sort.hintCode] at hcode3
                   go_wp2_with fail
                   go_meet
                   exact ⟨by simp [hh3, Sort.hintCode], by simp [hh3, Sort.hintCode], rfl⟩)
              case rest =>
                obtain ⟨rfl, rfl, rfl⟩ := hcut
                -- if .. partialInsertionSort_func(..) return
                go_upto_if 68 with fail
                go_cut [] from 19 (fun wx => (Sort.rd lt dk a' b' lim wb wp).pi.2 = false ∧ Aside (InS S blk w1 (Sort.rd lt dk a' b' lim wb wp).pi.1 wx))
                case first =>
                  cases h68 : (wb && wp && decide ((Sort.rd lt dk a' b' lim wb wp).hint = .increasing))
                  · have epi := Sort.rd_pi_no h68
                    go_wp2_with fail
                    go_meet
                    case rel => exact ⟨by rw [epi], by rw [epi]; exact T3⟩
                  · have epi := Sort.rd_pi_yes h68
                    have hc19 := sfPartial (P := P) (ρ := ρ) { L with } H a' b' (Sort.rd lt dk a' b' lim wb wp).d2 wc T3.out.s (by omega) hb'
                    rw [← epi] at hc19
                    go_wp2_with (go_at_fn (ρ.f 31); (refine hc19.mono ?_); rintro e w4 ⟨rfl, T4⟩)
                    all_goals first
                      | (have hp2 : (Sort.rd lt dk a' b' lim wb wp).pi.2 = false := by rw [epi]; assumption
                         go_meet
                         exact ⟨hp2, T3.out.then T4⟩)
                      | (have hp2 : (Sort.rd lt dk a' b' lim wb wp).pi.2 = true := by rw [epi]; assumption
                         (try simp only [Exit.inBlock, Exit.then]); refine bodyPost_ret (results_none rfl _ _ _) rfl ?_
                         refine ⟨rfl, BB.out _ _ ?_⟩
                         rw [← A.out, Sort.pdq_done h12 hl0 hp2]
                         exact T3.out.then T4)
                case rest =>
                  clear T3 v0 v1
                  obtain ⟨hp2, T5⟩ := hcut
                  obtain ⟨t0', t1'⟩ := CC.out _ _ T5.out
                  -- a > 0 && !data.Less(a-1, pivot)
                  go_upto_region 18 with fail
                  go_cut [83] from 19 (fun s83 wx => s83 = .bool (decide (a' > 0) && !lt (Sort.rd lt dk a' b' lim wb wp).pi.1[a' - 1]! (Sort.rd lt dk a' b' lim wb wp).pi.1[(Sort.rd lt dk a' b' lim wb wp).pivot]!) ∧ Aside (InS S blk w1 (Sort.rd lt dk a' b' lim wb wp).pi.1 wx))
                  case first =>
                    rcases Nat.eq_zero_or_pos a' with ha0 | ha0
                    · have ha0z : decide ((a' : Int) > 0) = false := decide_eq_false (by omega)
                      go_wp2_with fail
                      go_meet
                      case rel => exact ⟨by simp [ha0], T5⟩
                    · have ha0z : (a' : Int) > 0 := by omega
                      have hl := H.lessT T5.out (a' - 1) (Sort.rd lt dk a' b' lim wb wp).pivot (by omega) (by omega)
                      rw [show ((a' - 1 : Nat) : Int) = (a' : Int) - 1 by omega] at hl
                      cases hlv : lt (Sort.rd lt dk a' b' lim wb wp).pi.1[a' - 1]! (Sort.rd lt dk a' b' lim wb wp).pi.1[(Sort.rd lt dk a' b' lim wb wp).pivot]! <;>
                        (rw [hlv] at hl
                         go_wp2_with (go_at_fn g; (refine hl.mono ?_); rintro e w2 ⟨rfl, T6⟩)
                         go_meet
                         exact ⟨by simp [ha0, hlv], T6⟩)
                  case rest =>
                    clear T5 t0' t1'
                    obtain ⟨rfl, T6⟩ := hcut
                    obtain ⟨q0, q1⟩ := CC.out _ _ T6.out
                    cases h87 : (decide (a' > 0) && !lt (Sort.rd lt dk a' b' lim wb wp).pi.1[a' - 1]! (Sort.rd lt dk a' b' lim wb wp).pi.1[(Sort.rd lt dk a' b' lim wb wp).pivot]!)
                    · obtain ⟨mid, ap, d4, hx⟩ : ∃ mid ap d4, Sort.partition lt (Sort.rd lt dk a' b' lim wb wp).pi.1 a' b' (Sort.rd lt dk a' b' lim wb wp).pivot = (mid, ap, d4) := ⟨_, _, _, rfl⟩
                      obtain ⟨r1, r2, r3, r4, r5, r6, r7⟩ := Sort.round_part hO (Sort.partition_holds lt) hpv.1 hpv.2 (show b' ≤ (Sort.rd lt dk a' b' lim wb wp).pi.1.size by omega) BE3.out hx
                      have hc22 := sfPartition (P := P) (ρ := ρ) { L with } H a' b' (Sort.rd lt dk a' b' lim wb wp).pivot (Sort.rd lt dk a' b' lim wb wp).pi.1 wc T6.out.s hpv.1 hpv.2 hb'
                      rw [hx] at hc22
                      have X : Hid (Sort.partition lt (Sort.rd lt dk a' b' lim wb wp).pi.1 a' b' (Sort.rd lt dk a' b' lim wb wp).pivot = (mid, ap, d4)) := hx
                      have R4 : Hid _ := r4
                      have R5 : Hid _ := r5
                      have R6 : Hid _ := r6
                      have R7 : Hid _ := r7
                      clear hx r4 r5 r6 r7
                      go_upto_if 109 with (go_at_fn (ρ.f 33); (refine hc22.mono ?_); rintro e w7 ⟨rfl, T7'⟩)
                      have hx := X.out
                      have T7 : Aside (InS S blk w1 d4 w7) := T6.out.then T7'
                      have hs4 : d4.size = n := H.size T7.out.s
                      clear q0 q1 T7' hc22
                      obtain ⟨p0, p1⟩ := CC.out _ _ T7.out
                      by_cases h4 : mid - a' < b' - mid
                      · have h4z : (mid : Int) - (a' : Int) < (b' : Int) - (mid : Int) := by omega
                        have hih := IH.out a' mid (Sort.rd lt dk a' b' lim wb wp).lim d4 w7 (by omega) T7.out.s (by omega) (by omega) (Nat.lt_of_le_of_lt (Nat.le_trans Sort.rd_lim_le hlim) hlimit) R4.out
                        obtain ⟨pL, sL⟩ := Sort.pdq_sorts lt hO d4 a' mid (Sort.rd lt dk a' b' lim wb wp).lim true true (by omega) (by omega) R4.out
                        have NB : Hid _ := (R6.out _ pL sL).1
                        clear pL sL
                        go_wp2_with (go_at_fn (ρ.f 14); (refine hih.mono ?_); rintro e w8 ⟨rfl, T8⟩)
                        go_roundg (b' - (mid + 1))
                        case measure => omega
                        case rel =>
                          refine ⟨mid + 1, b', (Sort.rd lt dk a' b' lim wb wp).lim, decide (mid - a' ≥ (b' - a') / 8), ap, Sort.pdq lt d4 a' mid (Sort.rd lt dk a' b' lim wb wp).lim true true, by simp, rfl, rfl, ?_, rfl, by omega, by omega, Nat.le_refl _, by omega, Nat.le_trans Sort.rd_lim_le hlim, NB, T7.out.then T8, ?_⟩
                          · exact congrArg Value.bool (eighth (by omega) (by omega))
                          · show _ = _
                            rw [← A.out, Sort.pdq_left h12 hl0 hp2 h87 (by rw [hx]; exact ⟨r1, r2⟩) (by rw [hx]; exact h4), hx]
                      · have h4z : ¬ ((mid : Int) - (a' : Int) < (b' : Int) - (mid : Int)) := by omega
                        have hih := IH.out (mid + 1) b' (Sort.rd lt dk a' b' lim wb wp).lim d4 w7 (by omega) T7.out.s (by omega) (by omega) (Nat.lt_of_le_of_lt (Nat.le_trans Sort.rd_lim_le hlim) hlimit) R5.out
                        rw [show ((mid + 1 : Nat) : Int) = (mid : Int) + 1 by omega] at hih
                        obtain ⟨pL, sL⟩ := Sort.pdq_sorts lt hO d4 (mid + 1) b' (Sort.rd lt dk a' b' lim wb wp).lim true true (by omega) (by omega) R5.out
                        have NB : Hid _ := (R7.out _ pL sL).1
                        clear pL sL
                        go_wp2_with (go_at_fn (ρ.f 14); (refine hih.mono ?_); rintro e w8 ⟨rfl, T8⟩)
                        go_roundg (mid - a')
                        case measure => omega
                        case rel =>
                          refine ⟨a', mid, (Sort.rd lt dk a' b' lim wb wp).lim, decide (b' - mid ≥ (b' - a') / 8), ap, Sort.pdq lt d4 (mid + 1) b' (Sort.rd lt dk a' b' lim wb wp).lim true true, rfl, rfl, rfl, ?_, rfl, by omega, by omega, Nat.le_refl _, by omega, Nat.le_trans Sort.rd_lim_le hlim, NB, T7.out.then T8, ?_⟩
                          · exact congrArg Value.bool (eighth (by omega) (by omega))
                          · show _ = _
                            rw [← A.out, Sort.pdq_right h12 hl0 hp2 h87 (by rw [hx]; exact ⟨r1, r2⟩) (by rw [hx]; exact h4), hx]
                    · have h87' := h87
                      simp only [Bool.and_eq_true, decide_eq_true_eq, Bool.not_eq_true'] at h87'
                      obtain ⟨mid, d4, hx⟩ : ∃ mid d4, Sort.partitionEqual lt (Sort.rd lt dk a' b' lim wb wp).pi.1 a' b' (Sort.rd lt dk a' b' lim wb wp).pivot = (mid, d4) := ⟨_, _, rfl⟩
                      obtain ⟨r1, r2, r3, r4, _⟩ := Sort.round_eq hO (Sort.partitionEqual_holds lt) h87'.1 hpv.1 hpv.2 (show b' ≤ (Sort.rd lt dk a' b' lim wb wp).pi.1.size by omega) BE3.out h87'.2 hx
                      have hc21 := sfPartEq (P := P) (ρ := ρ) { L with } H a' b' (Sort.rd lt dk a' b' lim wb wp).pivot (Sort.rd lt dk a' b' lim wb wp).pi.1 wc T6.out.s hpv.1 hpv.2 hb'
                      rw [hx] at hc21
                      have X : Hid (Sort.partitionEqual lt (Sort.rd lt dk a' b' lim wb wp).pi.1 a' b' (Sort.rd lt dk a' b' lim wb wp).pivot = (mid, d4)) := hx
                      have R4 : Hid _ := r4
                      clear hx r4 h87'
                      go_wp2_with (go_at_fn (ρ.f 32); (refine hc21.mono ?_); rintro e w7 ⟨rfl, T7⟩)
                      go_roundg (b' - mid)
                      case measure => omega
                      case rel =>
                        have hx := X.out
                        refine ⟨mid, b', (Sort.rd lt dk a' b' lim wb wp).lim, wb, wp, d4, rfl, rfl, rfl, rfl, rfl, r2, hb', Nat.le_refl _, by omega, Nat.le_trans Sort.rd_lim_le hlim, R4, T6.out.then T7, ?_⟩
                        show _ = _
                        rw [← A.out, Sort.pdq_eq h12 hl0 hp2 h87 (by rw [hx]; exact ⟨r1, r2⟩), hx]
end Go.Proofs.YtaodjnkjjmhecaaGreatDoor
