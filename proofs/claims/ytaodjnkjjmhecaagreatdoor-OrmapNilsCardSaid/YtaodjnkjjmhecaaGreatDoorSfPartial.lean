/- Contracts and plain words that the laws' proofs stand on. -/
import Derived.Test.YtaodjnkjjmhecaaGreatDoorSfPartition
namespace Go.Proofs.YtaodjnkjjmhecaaGreatDoor
open Go.Shelf Go.RowKit Go.Lib
open Go.Sort (swp)
set_option linter.unusedVariables false
set_option linter.unusedSimpArgs false
set_option linter.unusedSectionVars false
variable {α : Type} [Inhabited α]
set_option maxHeartbeats 8000000 in
set_option maxRecDepth 1000000 in
theorem sfPartial {P : Program} {ρ : Ren} {g : Nat} {lb : Array Value} {sf : Nat} {sb : Array Value} {lt : α → α → Bool} {n blk B : Nat} {S : Array α → World → Prop} {sw : Array α → World → Nat → Nat → World} (L : LaysGg.n31 P ρ) (H : Sorts P g lb sf sb lt n blk B S sw) (a b : Nat) (d : Array α) (w : World) (hS : S d w) (hab : a < b) (hb : b ≤ n) :
    Calls P (ρ.f 31) #[.agg #[.func (.func g) #[] lb, .func (.func sf) #[] sb], .int .i64 a, .int .i64 b] w fun e w' => e = .returned (.bool (Sort.partialInsertionSort lt d a b).2) ∧ InS S blk w (Sort.partialInsertionSort lt d a b).1 w' := by
  have mixed := L.mixed; have t0 := L.t0; have a0 := L.a0; have z0 := L.z0; have v0 := L.v0; have t3 := L.t3; have a3 := L.a3; have z3 := L.z3; have v3 := L.v3; have t4 := L.t4; have a4 := L.a4; have z4 := L.z4; have v4 := L.v4; have t26 := L.t26; have a26 := L.a26; have z26 := L.z26; have v26 := L.v26; have t37 := L.t37; have a37 := L.a37; have z37 := L.z37; have v37 := L.v37; have t44 := L.t44; have a44 := L.a44; have z44 := L.z44; have v44 := L.v44
  have u44 := run_underlying L.t44
  have eg := H.eg
  have hn := H.small
  have hne : w.heap.size ≠ blk := by have := H.row; have := H.base hS; omega
  obtain ⟨w1, hw1⟩ : ∃ x, w.alloc (.cells #[.func (.func g) #[] lb, .func (.func sf) #[] sb] (ρ.t 44)) = x := ⟨_, rfl⟩
  have TT : Aside (InS S blk w1 d w1) := by subst hw1; exact H.boxed hS _
  have CC : Hid (∀ (e : Array α) (W : World), InS S blk w1 e W → W.cell? ⟨w.heap.size, 0, none⟩ = some (.func (.func g) #[] lb) ∧ W.cell? ⟨w.heap.size, 1, none⟩ = some (.func (.func sf) #[] sb)) :=
    fun e W h => ⟨h.cell hne (by rw [← hw1]; simp), h.cell hne (by rw [← hw1]; simp)⟩
  have BB : Hid (∀ (e : Array α) (W : World), InS S blk w1 e W → InS S blk w e W) := fun e W h => h.more (by rw [← hw1]; exact below_alloc _ _)
  clear hS
  have HL : Hid (∀ (e : Array α) (W : World) (j : Nat), InS S blk w1 e W → 1 ≤ j → j < n → Calls P g (#[.int .i64 (j : Int), .int .i64 ((j : Int) - 1)] ++ lb) W fun x w' => x = .returned (.bool (lt e[j]! e[j - 1]!)) ∧ InS S blk w1 e w') := fun e W j T h1 h2 => by
    have hl := H.lessT T j (j - 1) h2 (by omega)
    rw [show ((j - 1 : Nat) : Int) = (j : Int) - 1 by omega] at hl
    exact hl
  have HS : Hid (∀ (e : Array α) (W : World) (j : Nat), InS S blk w1 e W → 1 ≤ j → j < n → (callFunc sf (#[.int .i64 (j : Int), .int .i64 ((j : Int) - 1)] ++ sb)).run P W = .ok (.value (.tuple #[])) (sw e W j (j - 1)) ∧ InS S blk w1 (swp e j (j - 1)) (sw e W j (j - 1))) := fun e W j T h1 h2 => by
    have hl := H.swapT T j (j - 1) h2 (by omega)
    rw [show ((j - 1 : Nat) : Int) = (j : Int) - 1 by omega] at hl
    exact hl
  go_enter L.f31, BodyGg.n31_ntmps ρ
  go_wp2
  go_loopg [7, 8] 5 (fun g1 s7 s8 wr => ∃ (i s : Nat) (dk : Array α), s7 = .int .i64 i ∧ s8 = .int .i64 s ∧ s ≤ 5 ∧ 5 - s ≤ g1 ∧ a < i ∧ i ≤ b ∧ Aside (InS S blk w1 dk wr) ∧ Hid (Sort.partialIns lt a b (5 - s) i dk = Sort.partialIns lt a b 5 (a + 1) d))
  case atStart => exact ⟨a + 1, 0, d, by go_num, rfl, by omega, by omega, by omega, by omega, TT, rfl⟩
  case round =>
    clear TT
    obtain ⟨i, s, dk, rfl, rfl, hs5, hg1, hai, hib, T, HO⟩ := hrel
    by_cases hs : s < 5
    · have hsz5 : (s : Int) < 5 := by omega
      obtain ⟨wo, hwo⟩ : ∃ wo, wo = wr := ⟨wr, rfl⟩
      subst hwo
      go_wp2
      go_loopg [7] (b - i) (fun g2 s7 wr => ∃ (kx : Nat), s7 = .int .i64 kx ∧ i ≤ kx ∧ kx ≤ b ∧ b - kx ≤ g2 ∧ Aside (InS S blk w1 dk wr) ∧ Hid (Sort.scanSorted lt dk b kx = Sort.scanSorted lt dk b i))
      case atStart => exact ⟨i, rfl, Nat.le_refl _, hib, Nat.le_refl _, T, rfl⟩
      case round =>
        clear T
        obtain ⟨kx, rfl, hik, hkb, hg2, T, HSc⟩ := hrel
        obtain ⟨c0, c1⟩ := CC.out _ _ T.out
        by_cases hkb' : kx < b
        · have hkz : (kx : Int) < (b : Int) := by omega
          have hl := HL.out dk _ kx T.out (by omega) (by omega)
          cases hlv : lt dk[kx]! dk[kx - 1]! with
          | false =>
            rw [hlv] at hl
            go_wp2_with (go_at_fn g; (refine hl.mono ?_); rintro e w' ⟨rfl, T2⟩)
            go_roundg (b - (kx + 1))
            case measure => omega
            case rel => exact ⟨kx + 1, by go_num, by omega, by omega, Nat.le_refl _, T2, (show Hid _ from by rw [← HSc.out, scanSorted_go lt dk b kx hkb' hlv]; exact rfl)⟩
          | true =>
            rw [hlv] at hl
            have HK : Hid (Sort.scanSorted lt dk b i = kx) := by show _ = _; rw [← HSc.out, scanSorted_stop lt dk b kx (Or.inr hlv)]
            have hkne : ((kx : Int) == (b : Int)) = false := beq_eq_false_iff_ne.2 (by omega)
            clear HSc
            by_cases h50 : b - a < 50
            · have h50z : (b : Int) - (a : Int) < 50 := by omega
              have HV : Hid (Sort.partialInsertionSort lt d a b = (dk, false)) := by
                show _ = _
                unfold Sort.partialInsertionSort
                rw [← HO.out, pi_short lt a b s i dk hs (by rw [HK.out]; omega) h50]
              go_wp2_with (go_at_fn g; (refine hl.mono ?_); rintro e w' ⟨rfl, T2⟩)
              rw [HV.out]
              go_ret
              exact ⟨rfl, BB.out _ _ T2⟩
            · have h50z : ¬ ((b : Int) - (a : Int) < 50) := by omega
              by_cases hka : kx - a ≥ 2
              · have hkaz : (2 : Int) ≤ (kx : Int) - (a : Int) := by omega
                go_wp2_with (go_at_fn g; (refine hl.mono ?_); rintro e w' ⟨rfl, T2⟩; obtain ⟨hs1, T3⟩ := HS.out dk _ kx T2 (by omega) (by omega); have c2 := (CC.out _ _ T2).2)
                go_loopg [9] (kx - 1) (fun g3 s9 wr => ∃ (j : Nat) (dj : Array α), s9 = .int .i64 j ∧ j ≤ kx - 1 ∧ j ≤ g3 ∧ Aside (InS S blk w1 dj wr) ∧ Hid (Sort.shiftDown lt j dj = Sort.shiftDown lt (kx - 1) (swp dk kx (kx - 1))))
                case atStart => exact ⟨kx - 1, swp dk kx (kx - 1), by congr 1; omega, Nat.le_refl _, Nat.le_refl _, T3, rfl⟩
                case round =>
                  clear T T2 T3 hs1 c0 c1 c2 hl
                  obtain ⟨j, dj, rfl, hjk, hg3, T, HDn⟩ := hrel
                  obtain ⟨c0, c1⟩ := CC.out _ _ T.out
                  by_cases hj1 : 1 ≤ j
                  · have hj1z : (1 : Int) ≤ (j : Int) := by omega
                    have hl2 := HL.out dj _ j T.out (by omega) (by omega)
                    cases hlv2 : lt dj[j]! dj[j - 1]! with
                    | true =>
                      rw [hlv2] at hl2
                      go_wp2_with (go_at_fn g; (refine hl2.mono ?_); rintro e w' ⟨rfl, T2⟩; obtain ⟨hs2, T3⟩ := HS.out dj _ j T2 (by omega) (by omega); have c2 := (CC.out _ _ T2).2)
                      go_roundg (j - 1)
                      case measure => omega
                      case rel => exact ⟨j - 1, swp dj j (j - 1), by congr 1; omega, by omega, Nat.le_refl _, T3, (show Hid _ from by rw [← HDn.out, shiftDown_go lt j dj hj1 hlv2]; exact rfl)⟩
                    | false =>
                      rw [hlv2] at hl2
                      have HD : Hid (Sort.fixDown lt a kx (swp dk kx (kx - 1)) = dj) := by show _ = _; unfold Sort.fixDown; rw [if_pos hka, ← HDn.out, shiftDown_stop lt j dj (Or.inr hlv2)]
                      by_cases hbk : b - kx ≥ 2
                      · have hbkz : (2 : Int) ≤ (b : Int) - (kx : Int) := by omega
                        go_wp2_with (go_at_fn g; (refine hl2.mono ?_); rintro e w' ⟨rfl, T2⟩)
                        go_loopg [10] (b - (kx + 1)) (fun g4 s10 wr => ∃ (ju : Nat) (du : Array α), s10 = .int .i64 ju ∧ kx + 1 ≤ ju ∧ ju ≤ b ∧ b - ju ≤ g4 ∧ Aside (InS S blk w1 du wr) ∧ Hid (Sort.shiftUp lt b ju du = Sort.shiftUp lt b (kx + 1) dj))
                        case atStart => exact ⟨kx + 1, dj, by go_num, Nat.le_refl _, by omega, Nat.le_refl _, T2, rfl⟩
                        case round =>
                          clear T
                          obtain ⟨ju, du, rfl, hkj, hjb, hg4, T, HU⟩ := hrel
                          obtain ⟨c0, c1⟩ := CC.out _ _ T.out
                          by_cases hjb' : ju < b
                          · have hjz : (ju : Int) < (b : Int) := by omega
                            have hl3 := HL.out du _ ju T.out (by omega) (by omega)
                            cases hlv3 : lt du[ju]! du[ju - 1]! with
                            | true =>
                              rw [hlv3] at hl3
                              go_wp2_with (go_at_fn g; (refine hl3.mono ?_); rintro e w' ⟨rfl, T2⟩; obtain ⟨hs3, T3⟩ := HS.out du _ ju T2 (by omega) (by omega); have c2 := (CC.out _ _ T2).2)
                              go_roundg (b - (ju + 1))
                              case measure => omega
                              case rel => exact ⟨ju + 1, swp du ju (ju - 1), by go_num, by omega, by omega, Nat.le_refl _, T3, (show Hid _ from by rw [← HU.out, shiftUp_go lt b ju du hjb' hlv3]; exact rfl)⟩
                            | false =>
                              rw [hlv3] at hl3
                              go_wp2_with (go_at_fn g; (refine hl3.mono ?_); rintro e w' ⟨rfl, T2⟩)
                              go_roundg (5 - (s + 1))
                              case measure => omega
                              case rel => exact ⟨kx, s + 1, du, rfl, by go_num, by omega, Nat.le_refl _, by omega, by omega, T2, (show Hid _ from by rw [← HO.out, pi_go lt a b s i kx dk hs HK.out (by omega) h50, HD.out, show Sort.fixUp lt b kx dj = du from by unfold Sort.fixUp; rw [if_pos hbk, ← HU.out, shiftUp_stop lt b ju du (Or.inr hlv3)]]; exact rfl)⟩
                          · have hjz : ¬ (ju : Int) < (b : Int) := by omega
                            go_wp2
                            go_roundg (5 - (s + 1))
                            case measure => omega
                            case rel => exact ⟨kx, s + 1, du, rfl, by go_num, by omega, Nat.le_refl _, by omega, by omega, T, (show Hid _ from by rw [← HO.out, pi_go lt a b s i kx dk hs HK.out (by omega) h50, HD.out, show Sort.fixUp lt b kx dj = du from by unfold Sort.fixUp; rw [if_pos hbk, ← HU.out, shiftUp_stop lt b ju du (Or.inl (by omega))]]; exact rfl)⟩
                      · have hbkz : ¬ (2 : Int) ≤ (b : Int) - (kx : Int) := by omega
                        go_wp2_with (go_at_fn g; (refine hl2.mono ?_); rintro e w' ⟨rfl, T2⟩)
                        go_roundg (5 - (s + 1))
                        case measure => omega
                        case rel => exact ⟨kx, s + 1, dj, rfl, by go_num, by omega, Nat.le_refl _, by omega, by omega, T2, (show Hid _ from by rw [← HO.out, pi_go lt a b s i kx dk hs HK.out (by omega) h50, HD.out, show Sort.fixUp lt b kx dj = dj from by unfold Sort.fixUp; rw [if_neg hbk]]; exact rfl)⟩
                  · have hj1z : ¬ (1 : Int) ≤ (j : Int) := by omega
                    have HD : Hid (Sort.fixDown lt a kx (swp dk kx (kx - 1)) = dj) := by show _ = _; unfold Sort.fixDown; rw [if_pos hka, ← HDn.out, shiftDown_stop lt j dj (Or.inl (by omega))]
                    by_cases hbk : b - kx ≥ 2
                    · have hbkz : (2 : Int) ≤ (b : Int) - (kx : Int) := by omega
                      go_wp2
                      go_loopg [10] (b - (kx + 1)) (fun g4 s10 wr => ∃ (ju : Nat) (du : Array α), s10 = .int .i64 ju ∧ kx + 1 ≤ ju ∧ ju ≤ b ∧ b - ju ≤ g4 ∧ Aside (InS S blk w1 du wr) ∧ Hid (Sort.shiftUp lt b ju du = Sort.shiftUp lt b (kx + 1) dj))
                      case atStart => exact ⟨kx + 1, dj, by go_num, Nat.le_refl _, by omega, Nat.le_refl _, T, rfl⟩
                      case round =>
                        clear T
                        obtain ⟨ju, du, rfl, hkj, hjb, hg4, T, HU⟩ := hrel
                        obtain ⟨c0, c1⟩ := CC.out _ _ T.out
                        by_cases hjb' : ju < b
                        · have hjz : (ju : Int) < (b : Int) := by omega
                          have hl3 := HL.out du _ ju T.out (by omega) (by omega)
                          cases hlv3 : lt du[ju]! du[ju - 1]! with
                          | true =>
                            rw [hlv3] at hl3
                            go_wp2_with (go_at_fn g; (refine hl3.mono ?_); rintro e w' ⟨rfl, T2⟩; obtain ⟨hs3, T3⟩ := HS.out du _ ju T2 (by omega) (by omega); have c2 := (CC.out _ _ T2).2)
                            go_roundg (b - (ju + 1))
                            case measure => omega
                            case rel => exact ⟨ju + 1, swp du ju (ju - 1), by go_num, by omega, by omega, Nat.le_refl _, T3, (show Hid _ from by rw [← HU.out, shiftUp_go lt b ju du hjb' hlv3]; exact rfl)⟩
                          | false =>
                            rw [hlv3] at hl3
                            go_wp2_with (go_at_fn g; (refine hl3.mono ?_); rintro e w' ⟨rfl, T2⟩)
                            go_roundg (5 - (s + 1))
                            case measure => omega
                            case rel => exact ⟨kx, s + 1, du, rfl, by go_num, by omega, Nat.le_refl _, by omega, by omega, T2, (show Hid _ from by rw [← HO.out, pi_go lt a b s i kx dk hs HK.out (by omega) h50, HD.out, show Sort.fixUp lt b kx dj = du from by unfold Sort.fixUp; rw [if_pos hbk, ← HU.out, shiftUp_stop lt b ju du (Or.inr hlv3)]]; exact rfl)⟩
                        · have hjz : ¬ (ju : Int) < (b : Int) := by omega
                          go_wp2
                          go_roundg (5 - (s + 1))
                          case measure => omega
                          case rel => exact ⟨kx, s + 1, du, rfl, by go_num, by omega, Nat.le_refl _, by omega, by omega, T, (show Hid _ from by rw [← HO.out, pi_go lt a b s i kx dk hs HK.out (by omega) h50, HD.out, show Sort.fixUp lt b kx dj = du from by unfold Sort.fixUp; rw [if_pos hbk, ← HU.out, shiftUp_stop lt b ju du (Or.inl (by omega))]]; exact rfl)⟩
                    · have hbkz : ¬ (2 : Int) ≤ (b : Int) - (kx : Int) := by omega
                      go_wp2
                      go_roundg (5 - (s + 1))
                      case measure => omega
                      case rel => exact ⟨kx, s + 1, dj, rfl, by go_num, by omega, Nat.le_refl _, by omega, by omega, T, (show Hid _ from by rw [← HO.out, pi_go lt a b s i kx dk hs HK.out (by omega) h50, HD.out, show Sort.fixUp lt b kx dj = dj from by unfold Sort.fixUp; rw [if_neg hbk]]; exact rfl)⟩
              · have hkaz : ¬ (2 : Int) ≤ (kx : Int) - (a : Int) := by omega
                obtain ⟨D, hD⟩ : ∃ D, D = swp dk kx (kx - 1) := ⟨_, rfl⟩
                have HD : Hid (Sort.fixDown lt a kx (swp dk kx (kx - 1)) = D) := by show _ = _; unfold Sort.fixDown; rw [if_neg hka, hD]
                have HS1 : Hid (∀ W, InS S blk w1 dk W → (callFunc sf (#[.int .i64 (kx : Int), .int .i64 ((kx : Int) - 1)] ++ sb)).run P W = .ok (.value (.tuple #[])) (sw dk W kx (kx - 1)) ∧ InS S blk w1 D (sw dk W kx (kx - 1))) := fun W h => by rw [hD]; exact HS.out dk W kx h (by omega) (by omega)
                clear hD
                by_cases hbk : b - kx ≥ 2
                · have hbkz : (2 : Int) ≤ (b : Int) - (kx : Int) := by omega
                  go_wp2_with (go_at_fn g; (refine hl.mono ?_); rintro e w' ⟨rfl, T2⟩; obtain ⟨hs1, T3⟩ := HS1.out _ T2; have c2 := (CC.out _ _ T2).2)
                  go_loopg [10] (b - (kx + 1)) (fun g4 s10 wr => ∃ (ju : Nat) (du : Array α), s10 = .int .i64 ju ∧ kx + 1 ≤ ju ∧ ju ≤ b ∧ b - ju ≤ g4 ∧ Aside (InS S blk w1 du wr) ∧ Hid (Sort.shiftUp lt b ju du = Sort.shiftUp lt b (kx + 1) D))
                  case atStart => exact ⟨kx + 1, D, by go_num, Nat.le_refl _, by omega, Nat.le_refl _, T3, rfl⟩
                  case round =>
                    clear T
                    obtain ⟨ju, du, rfl, hkj, hjb, hg4, T, HU⟩ := hrel
                    obtain ⟨c0, c1⟩ := CC.out _ _ T.out
                    by_cases hjb' : ju < b
                    · have hjz : (ju : Int) < (b : Int) := by omega
                      have hl3 := HL.out du _ ju T.out (by omega) (by omega)
                      cases hlv3 : lt du[ju]! du[ju - 1]! with
                      | true =>
                        rw [hlv3] at hl3
                        go_wp2_with (go_at_fn g; (refine hl3.mono ?_); rintro e w' ⟨rfl, T2⟩; obtain ⟨hs3, T3⟩ := HS.out du _ ju T2 (by omega) (by omega); have c2 := (CC.out _ _ T2).2)
                        go_roundg (b - (ju + 1))
                        case measure => omega
                        case rel => exact ⟨ju + 1, swp du ju (ju - 1), by go_num, by omega, by omega, Nat.le_refl _, T3, (show Hid _ from by rw [← HU.out, shiftUp_go lt b ju du hjb' hlv3]; exact rfl)⟩
                      | false =>
                        rw [hlv3] at hl3
                        go_wp2_with (go_at_fn g; (refine hl3.mono ?_); rintro e w' ⟨rfl, T2⟩)
                        go_roundg (5 - (s + 1))
                        case measure => omega
                        case rel => exact ⟨kx, s + 1, du, rfl, by go_num, by omega, Nat.le_refl _, by omega, by omega, T2, (show Hid _ from by rw [← HO.out, pi_go lt a b s i kx dk hs HK.out (by omega) h50, HD.out, show Sort.fixUp lt b kx D = du from by unfold Sort.fixUp; rw [if_pos hbk, ← HU.out, shiftUp_stop lt b ju du (Or.inr hlv3)]]; exact rfl)⟩
                    · have hjz : ¬ (ju : Int) < (b : Int) := by omega
                      go_wp2
                      go_roundg (5 - (s + 1))
                      case measure => omega
                      case rel => exact ⟨kx, s + 1, du, rfl, by go_num, by omega, Nat.le_refl _, by omega, by omega, T, (show Hid _ from by rw [← HO.out, pi_go lt a b s i kx dk hs HK.out (by omega) h50, HD.out, show Sort.fixUp lt b kx D = du from by unfold Sort.fixUp; rw [if_pos hbk, ← HU.out, shiftUp_stop lt b ju du (Or.inl (by omega))]]; exact rfl)⟩
                · exfalso; omega
        · obtain rfl : kx = b := by omega
          have hkz : ¬ (kx : Int) < (kx : Int) := by omega
          have HV : Hid (Sort.partialInsertionSort lt d a kx = (dk, true)) := by
            show _ = _
            unfold Sort.partialInsertionSort
            rw [← HO.out, pi_true lt a kx s i dk hs (by rw [← HSc.out, scanSorted_stop lt dk kx kx (Or.inl (by omega))])]
          go_wp2
          rw [HV.out]
          go_ret
          exact ⟨rfl, BB.out _ _ T.out⟩
    · obtain rfl : s = 5 := by omega
      have HV : Hid (Sort.partialInsertionSort lt d a b = (dk, false)) := by
        show _ = _
        unfold Sort.partialInsertionSort
        rw [← HO.out, pi_end]
      go_wp2
      rw [HV.out]
      go_ret
      exact ⟨rfl, BB.out _ _ T.out⟩
end Go.Proofs.YtaodjnkjjmhecaaGreatDoor
