/- Contracts and plain words that the laws' proofs stand on. -/
import Derived.Test.YtaodjnkjjmhecaaGreatDoorLibAZ
namespace Go.Proofs.YtaodjnkjjmhecaaGreatDoor
open Go.Shelf Go.RowKit Go.Lib
open Go.Sort (swp)
set_option linter.unusedVariables false
set_option linter.unusedSimpArgs false
set_option linter.unusedSectionVars false
variable {α : Type} [Inhabited α]
set_option maxHeartbeats 8000000 in
set_option maxRecDepth 1000000 in
theorem sfPartition {P : Program} {ρ : Ren} {g : Nat} {lb : Array Value} {sf : Nat} {sb : Array Value} {lt : α → α → Bool} {n blk B : Nat} {S : Array α → World → Prop} {sw : Array α → World → Nat → Nat → World} (L : LaysGg.n33 P ρ) (H : Sorts P g lb sf sb lt n blk B S sw) (a b pivot : Nat) (d : Array α) (w : World) (hS : S d w) (hap : a ≤ pivot) (hpb : pivot < b) (hb : b ≤ n) :
    Calls P (ρ.f 33) #[.agg #[.func (.func g) #[] lb, .func (.func sf) #[] sb], .int .i64 a, .int .i64 b, .int .i64 pivot] w fun e w' =>
      e = .returned (.tuple #[.int .i64 (Sort.partition lt d a b pivot).1, .bool (Sort.partition lt d a b pivot).2.1]) ∧ InS S blk w (Sort.partition lt d a b pivot).2.2 w' := by
  have mixed := L.mixed; have t0 := L.t0; have a0 := L.a0; have z0 := L.z0; have v0 := L.v0; have t3 := L.t3; have a3 := L.a3; have z3 := L.z3; have v3 := L.v3; have t4 := L.t4; have a4 := L.a4; have z4 := L.z4; have v4 := L.v4; have t26 := L.t26; have a26 := L.a26; have z26 := L.z26; have v26 := L.v26; have t37 := L.t37; have a37 := L.a37; have z37 := L.z37; have v37 := L.v37; have t44 := L.t44; have a44 := L.a44; have z44 := L.z44; have v44 := L.v44
  have u44 := run_underlying L.t44
  have eg := H.eg
  have hn := H.small
  have hne : w.heap.size ≠ blk := by have := H.row; have := H.base hS; omega
  obtain ⟨w1, hw1⟩ : ∃ x, w.alloc (.cells #[.func (.func g) #[] lb, .func (.func sf) #[] sb] (ρ.t 44)) = x := ⟨_, rfl⟩
  have TT : Aside (InS S blk w1 d w1) := by subst hw1; exact H.boxed hS _
  have CC : Hid (∀ (e : Array α) (W : World), InS S blk w1 e W → W.cell? ⟨w.heap.size, 0, none⟩ = some (.func (.func g) #[] lb) ∧ W.cell? ⟨w.heap.size, 1, none⟩ = some (.func (.func sf) #[] sb)) :=
    fun e W h => ⟨h.cell hne (by rw [← hw1]; simp), h.cell hne (by rw [← hw1]; simp)⟩
  have BB : Hid (∀ (e : Array α) (W : World), InS S blk w1 e W → InS S blk w e W) := fun e W h => h.more (by rw [← hw1]; exact below_alloc _ _)
  clear hS
  obtain ⟨c0, c1⟩ := CC.out _ _ TT.out
  obtain ⟨hs, T1⟩ := H.swapT TT.out a pivot (by omega) (by omega)
  obtain ⟨dk, hdk⟩ : ∃ dk, dk = swp d a pivot := ⟨_, rfl⟩
  obtain ⟨i, hi⟩ : ∃ i, i = a + 1 := ⟨_, rfl⟩
  obtain ⟨j, hj⟩ : ∃ j, j = b - 1 := ⟨_, rfl⟩
  rw [← hdk] at T1
  have T : Aside _ := T1
  clear T1
  have hij : i ≤ j + 1 := by omega
  have Hi : Hid (i = a + 1) := hi
  have Hj : Hid (j = b - 1) := hj
  have Hdk : Hid (dk = swp d a pivot) := hdk
  have hai : a < i := by omega
  have hjb : j < b := by omega
  go_enter L.f33, BodyGg.n33_ntmps ρ
  go_wp2
  rw [show ((a : Int) + 1) = (i : Int) by omega, show ((b : Int) - 1) = (j : Int) by omega]
  clear hi hj hdk TT hs c0 c1
  go_loopg [10] (j + 1 - i) (fun kx si wr => ∃ (i' : Nat), si = .int .i64 i' ∧ i ≤ i' ∧ i' ≤ j + 1 ∧ j + 1 - i' ≤ kx ∧ Aside (InS S blk w1 dk wr) ∧ Hid (Sort.scanUp (fun x => lt x dk[a]!) dk j i' = Sort.scanUp (fun x => lt x dk[a]!) dk j i))
  case atStart => exact ⟨i, rfl, Nat.le_refl _, hij, Nat.le_refl _, T, rfl⟩
  case round =>
    clear T
    obtain ⟨i', rfl, hii, hij', hkx, T, hsc⟩ := hrel
    obtain ⟨c0, c1⟩ := CC.out _ _ T.out
    by_cases hle : i' ≤ j
    · have hl := H.lessT T.out i' a (by omega) (by omega)
      cases hlv : lt dk[i']! dk[a]! with
      | true =>
        rw [hlv] at hl
        go_wp2_with (go_at_fn g; (refine hl.mono ?_); rintro e w2 ⟨rfl, T2⟩)
        go_roundg (j + 1 - (i' + 1))
        case measure => omega
        case rel => exact ⟨i' + 1, by go_num, by omega, by omega, Nat.le_refl _, T2, (scanUp_go (fun x => lt x dk[a]!) dk j i' hle (by simp [hlv])).symm.trans hsc.out⟩
      | false =>
        rw [hlv] at hl
        have hi2 : Hid (i' = Sort.scanUp (fun x => lt x dk[a]!) dk j i) := (scanUp_end (fun x => lt x dk[a]!) dk j i' (Or.inr (by simp [hlv]))).symm.trans hsc.out
        clear hsc
        go_wp2_with (go_at_fn g; (refine hl.mono ?_); rintro e w2 ⟨rfl, T2⟩)
        clear c0 c1 hl T
        have T : Aside (InS S blk w1 dk w2) := T2
        clear T2
        go_loopg [11] j (fun ky sj wr => ∃ (j' : Nat), sj = .int .i64 j' ∧ j' ≤ j ∧ i' ≤ j' + 1 ∧ j' ≤ ky ∧ Aside (InS S blk w1 dk wr) ∧ Hid (Sort.scanDown (fun x => !lt x dk[a]!) dk i' j' = Sort.scanDown (fun x => !lt x dk[a]!) dk i' j))
        case atStart => exact ⟨j, rfl, Nat.le_refl _, hij', Nat.le_refl _, T, rfl⟩
        case round =>
          clear T
          obtain ⟨j', rfl, hjj, hij2, hky, T, hsd⟩ := hrel
          obtain ⟨c0, c1⟩ := CC.out _ _ T.out
          by_cases hle2 : i' ≤ j'
          · have hl2 := H.lessT T.out j' a (by omega) (by omega)
            cases hlv2 : lt dk[j']! dk[a]! with
            | false =>
              rw [hlv2] at hl2
              go_wp2_with (go_at_fn g; (refine hl2.mono ?_); rintro e w2 ⟨rfl, T2⟩)
              go_roundg (j' - 1)
              case measure => omega
              case rel => exact ⟨j' - 1, by go_num, by omega, by omega, Nat.le_refl _, T2, (scanDown_go (fun x => !lt x dk[a]!) dk i' j' hle2 (by omega) (by simp [hlv2])).symm.trans hsd.out⟩
            | true =>
              rw [hlv2] at hl2
              have hj2 : Hid (j' = Sort.scanDown (fun x => !lt x dk[a]!) dk i' j) := (scanDown_end (fun x => !lt x dk[a]!) dk i' j' (Or.inr (by simp [hlv2]))).symm.trans hsd.out
              have hlt3 := part_scans_lt lt a i j dk (by omega) hi2.out hj2.out hle2
              have HS : Hid (∀ W, InS S blk w1 dk W → _) := fun W h => H.swapT (W := W) h i' j' (by omega) (by omega)
              go_wp2_with (go_at_fn g; (refine hl2.mono ?_); rintro e w2 ⟨rfl, T2⟩; obtain ⟨hs, T3⟩ := HS.out _ T2; have c2 := (CC.out _ _ T2).2)
              rw [decide_eq_false (show ¬ j' < i' by omega)]
              obtain ⟨I0, hI0⟩ : ∃ I0 : Nat, I0 = i' + 1 := ⟨_, rfl⟩
              obtain ⟨J0, hJ0⟩ : ∃ J0 : Nat, J0 = j' - 1 := ⟨_, rfl⟩
              obtain ⟨D0, hD0⟩ : ∃ D0 : Array α, D0 = swp dk i' j' := ⟨_, rfl⟩
              have PF : Hid (Sort.partition lt d a b pivot = ((Sort.partLoop lt a I0 J0 D0).1, false, swp (Sort.partLoop lt a I0 J0 D0).2 (Sort.partLoop lt a I0 J0 D0).1 a)) := by
                rw [hI0, hJ0, hD0]; exact part_first_go lt d a b pivot Hi.out Hj.out Hdk.out hi2.out hj2.out (by omega)
              have T4 : Aside (InS S blk w1 D0 (sw dk w2 i' j')) := by rw [hD0]; exact T3
              have eI : (i' : Int) + 1 = (I0 : Int) := by omega
              have eJ : (j' : Int) - 1 = (J0 : Int) := by omega
              rw [eI, eJ]
              have hI1 : a < I0 := by omega
              have hI2 : I0 ≤ J0 + 1 := by omega
              have hI3 : J0 < b := by omega
              clear hI0 hJ0 hD0 eI eJ
              go_loopg [10, 11] (J0 + 1 - (I0)) (fun kx si sj wr => ∃ (i j : Nat) (dk : Array α), si = .int .i64 i ∧ sj = .int .i64 j ∧ a < i ∧ i ≤ j + 1 ∧ j < b ∧ j + 1 - i ≤ kx ∧ Aside (InS S blk w1 dk wr) ∧ Hid (Sort.partLoop lt a i j dk = Sort.partLoop lt a (I0) (J0) (D0)))
              case atStart => exact ⟨I0, J0, D0, by go_num, by go_num, by omega, by omega, by omega, by omega, T4, rfl⟩
              case round =>
                clear T4 T3 T2 T hs c0 c1 c2 hl2 HS hj2 hi2 hlt3 hsd hij hlv2 hle2 hI1 hI2 hI3
                obtain ⟨i, j, dk, rfl, rfl, hai, hij, hjb, hkz, T, HE⟩ := hrel
                obtain ⟨wo, hwo⟩ : ∃ wo, wo = wr := ⟨wr, rfl⟩
                subst hwo
                go_wp2
                go_loopg [10] (j + 1 - i) (fun kx si wr => ∃ (i' : Nat), si = .int .i64 i' ∧ i ≤ i' ∧ i' ≤ j + 1 ∧ j + 1 - i' ≤ kx ∧ Aside (InS S blk w1 dk wr) ∧ Hid (Sort.scanUp (fun x => lt x dk[a]!) dk j i' = Sort.scanUp (fun x => lt x dk[a]!) dk j i))
                case atStart => exact ⟨i, rfl, Nat.le_refl _, hij, Nat.le_refl _, T, rfl⟩
                case round =>
                  clear T
                  obtain ⟨i', rfl, hii, hij', hkx, T, hsc⟩ := hrel
                  obtain ⟨c0, c1⟩ := CC.out _ _ T.out
                  by_cases hle : i' ≤ j
                  · have hl := H.lessT T.out i' a (by omega) (by omega)
                    cases hlv : lt dk[i']! dk[a]! with
                    | true =>
                      rw [hlv] at hl
                      go_wp2_with (go_at_fn g; (refine hl.mono ?_); rintro e w2 ⟨rfl, T2⟩)
                      go_roundg (j + 1 - (i' + 1))
                      case measure => omega
                      case rel => exact ⟨i' + 1, by go_num, by omega, by omega, Nat.le_refl _, T2, (scanUp_go (fun x => lt x dk[a]!) dk j i' hle (by simp [hlv])).symm.trans hsc.out⟩
                    | false =>
                      rw [hlv] at hl
                      have hi2 : Hid (i' = Sort.scanUp (fun x => lt x dk[a]!) dk j i) := (scanUp_end (fun x => lt x dk[a]!) dk j i' (Or.inr (by simp [hlv]))).symm.trans hsc.out
                      clear hsc
                      go_wp2_with (go_at_fn g; (refine hl.mono ?_); rintro e w2 ⟨rfl, T2⟩)
                      clear c0 c1 hl T
                      have T : Aside (InS S blk w1 dk w2) := T2
                      clear T2
                      go_loopg [11] j (fun ky sj wr => ∃ (j' : Nat), sj = .int .i64 j' ∧ j' ≤ j ∧ i' ≤ j' + 1 ∧ j' ≤ ky ∧ Aside (InS S blk w1 dk wr) ∧ Hid (Sort.scanDown (fun x => !lt x dk[a]!) dk i' j' = Sort.scanDown (fun x => !lt x dk[a]!) dk i' j))
                      case atStart => exact ⟨j, rfl, Nat.le_refl _, hij', Nat.le_refl _, T, rfl⟩
                      case round =>
                        clear T
                        obtain ⟨j', rfl, hjj, hij2, hky, T, hsd⟩ := hrel
                        obtain ⟨c0, c1⟩ := CC.out _ _ T.out
                        by_cases hle2 : i' ≤ j'
                        · have hl2 := H.lessT T.out j' a (by omega) (by omega)
                          cases hlv2 : lt dk[j']! dk[a]! with
                          | false =>
                            rw [hlv2] at hl2
                            go_wp2_with (go_at_fn g; (refine hl2.mono ?_); rintro e w2 ⟨rfl, T2⟩)
                            go_roundg (j' - 1)
                            case measure => omega
                            case rel => exact ⟨j' - 1, by go_num, by omega, by omega, Nat.le_refl _, T2, (scanDown_go (fun x => !lt x dk[a]!) dk i' j' hle2 (by omega) (by simp [hlv2])).symm.trans hsd.out⟩
                          | true =>
                            rw [hlv2] at hl2
                            have hj2 : Hid (j' = Sort.scanDown (fun x => !lt x dk[a]!) dk i' j) := (scanDown_end (fun x => !lt x dk[a]!) dk i' j' (Or.inr (by simp [hlv2]))).symm.trans hsd.out
                            have hlt3 := part_scans_lt lt a i j dk (by omega) hi2.out hj2.out hle2
                            have HS : Hid (∀ W, InS S blk w1 dk W → _) := fun W h => H.swapT (W := W) h i' j' (by omega) (by omega)
                            go_wp2_with (go_at_fn g; (refine hl2.mono ?_); rintro e w2 ⟨rfl, T2⟩; obtain ⟨hs, T3⟩ := HS.out _ T2; have c2 := (CC.out _ _ T2).2)
                            go_roundg (j' - 1 + 1 - (i' + 1))
                            case measure => omega
                            case rel => exact ⟨i' + 1, j' - 1, swp dk i' j', by go_num, by go_num, by omega, by omega, by omega, Nat.le_refl _, T3, (part_go lt a i j dk hi2.out hj2.out (by omega)).symm.trans HE.out⟩
                        · have hj2 : Hid (j' = Sort.scanDown (fun x => !lt x dk[a]!) dk i' j) := (scanDown_end (fun x => !lt x dk[a]!) dk i' j' (Or.inl hle2)).symm.trans hsd.out
                          have hgt : j' < i' := by omega
                          obtain ⟨hs, T3⟩ := H.swapT T.out j' a (by omega) (by omega)
                          have T4 : Aside _ := T3
                          clear T3
                          go_wp2
                          go_ret2
                          rw [PF.out, ← HE.out, part_break lt a i j dk hi2.out hj2.out hgt]
                          exact ⟨rfl, BB.out _ _ T4.out⟩
                  · have hi2 : Hid (i' = Sort.scanUp (fun x => lt x dk[a]!) dk j i) := (scanUp_end (fun x => lt x dk[a]!) dk j i' (Or.inl hle)).symm.trans hsc.out
                    clear hsc
                    go_wp2
                    clear c0 c1
                    go_loopg [11] j (fun ky sj wr => ∃ (j' : Nat), sj = .int .i64 j' ∧ j' ≤ j ∧ i' ≤ j' + 1 ∧ j' ≤ ky ∧ Aside (InS S blk w1 dk wr) ∧ Hid (Sort.scanDown (fun x => !lt x dk[a]!) dk i' j' = Sort.scanDown (fun x => !lt x dk[a]!) dk i' j))
                    case atStart => exact ⟨j, rfl, Nat.le_refl _, hij', Nat.le_refl _, T, rfl⟩
                    case round =>
                      clear T
                      obtain ⟨j', rfl, hjj, hij2, hky, T, hsd⟩ := hrel
                      obtain ⟨c0, c1⟩ := CC.out _ _ T.out
                      by_cases hle2 : i' ≤ j'
                      · exact absurd hle2 (by omega)
                      · have hj2 : Hid (j' = Sort.scanDown (fun x => !lt x dk[a]!) dk i' j) := (scanDown_end (fun x => !lt x dk[a]!) dk i' j' (Or.inl hle2)).symm.trans hsd.out
                        have hgt : j' < i' := by omega
                        obtain ⟨hs, T3⟩ := H.swapT T.out j' a (by omega) (by omega)
                        have T4 : Aside _ := T3
                        clear T3
                        go_wp2
                        go_ret2
                        rw [PF.out, ← HE.out, part_break lt a i j dk hi2.out hj2.out hgt]
                        exact ⟨rfl, BB.out _ _ T4.out⟩
          · have hj2 : Hid (j' = Sort.scanDown (fun x => !lt x dk[a]!) dk i' j) := (scanDown_end (fun x => !lt x dk[a]!) dk i' j' (Or.inl hle2)).symm.trans hsd.out
            have hgt : j' < i' := by omega
            obtain ⟨hs, T3⟩ := H.swapT T.out j' a (by omega) (by omega)
            have T4 : Aside _ := T3
            clear T3
            go_wp2
            go_ret2
            rw [part_first_break lt d a b pivot Hi.out Hj.out Hdk.out hi2.out hj2.out hgt]
            exact ⟨rfl, BB.out _ _ T4.out⟩
    · have hi2 : Hid (i' = Sort.scanUp (fun x => lt x dk[a]!) dk j i) := (scanUp_end (fun x => lt x dk[a]!) dk j i' (Or.inl hle)).symm.trans hsc.out
      clear hsc
      go_wp2
      clear c0 c1
      go_loopg [11] j (fun ky sj wr => ∃ (j' : Nat), sj = .int .i64 j' ∧ j' ≤ j ∧ i' ≤ j' + 1 ∧ j' ≤ ky ∧ Aside (InS S blk w1 dk wr) ∧ Hid (Sort.scanDown (fun x => !lt x dk[a]!) dk i' j' = Sort.scanDown (fun x => !lt x dk[a]!) dk i' j))
      case atStart => exact ⟨j, rfl, Nat.le_refl _, hij', Nat.le_refl _, T, rfl⟩
      case round =>
        clear T
        obtain ⟨j', rfl, hjj, hij2, hky, T, hsd⟩ := hrel
        obtain ⟨c0, c1⟩ := CC.out _ _ T.out
        by_cases hle2 : i' ≤ j'
        · exact absurd hle2 (by omega)
        · have hj2 : Hid (j' = Sort.scanDown (fun x => !lt x dk[a]!) dk i' j) := (scanDown_end (fun x => !lt x dk[a]!) dk i' j' (Or.inl hle2)).symm.trans hsd.out
          have hgt : j' < i' := by omega
          obtain ⟨hs, T3⟩ := H.swapT T.out j' a (by omega) (by omega)
          have T4 : Aside _ := T3
          clear T3
          go_wp2
          go_ret2
          rw [part_first_break lt d a b pivot Hi.out Hj.out Hdk.out hi2.out hj2.out hgt]
          exact ⟨rfl, BB.out _ _ T4.out⟩
end Go.Proofs.YtaodjnkjjmhecaaGreatDoor
