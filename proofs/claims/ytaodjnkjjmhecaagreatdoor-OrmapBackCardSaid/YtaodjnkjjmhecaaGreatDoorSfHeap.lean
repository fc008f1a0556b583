/- Contracts and plain words that the laws' proofs stand on. -/
import Derived.Test.YtaodjnkjjmhecaaGreatDoorSfPartition
namespace Go.Proofs.YtaodjnkjjmhecaaGreatDoor
open Go.Shelf Go.RowKit Go.Lib
open Go.Sort (swp)
set_option linter.unusedVariables false
set_option linter.unusedSimpArgs false
set_option linter.unusedSectionVars false
variable {α : Type} [Inhabited α]
set_option maxHeartbeats 8000000 in
set_option maxRecDepth 1000000 in
theorem sfSift {P : Program} {ρ : Ren} {g : Nat} {lb : Array Value} {sf : Nat} {sb : Array Value} {lt : α → α → Bool} {n blk B : Nat} {S : Array α → World → Prop} {sw : Array α → World → Nat → Nat → World} (L : LaysGg.n34 P ρ) (H : Sorts P g lb sf sb lt n blk B S sw) (lo hi first : Nat) (d : Array α) (w : World) (hS : S d w) (hlo : lo ≤ hi) (hb : first + hi ≤ n) :
    Calls P (ρ.f 34) #[.agg #[.func (.func g) #[] lb, .func (.func sf) #[] sb], .int .i64 lo, .int .i64 hi, .int .i64 first] w fun e w' => e = .returned (.tuple #[]) ∧ InS S blk w (Sort.siftDown lt hi first lo d) w' := by
  have mixed := L.mixed; have t0 := L.t0; have a0 := L.a0; have z0 := L.z0; have v0 := L.v0; have t3 := L.t3; have a3 := L.a3; have z3 := L.z3; have v3 := L.v3; have t4 := L.t4; have a4 := L.a4; have z4 := L.z4; have v4 := L.v4; have t26 := L.t26; have a26 := L.a26; have z26 := L.z26; have v26 := L.v26; have t37 := L.t37; have a37 := L.a37; have z37 := L.z37; have v37 := L.v37; have t44 := L.t44; have a44 := L.a44; have z44 := L.z44; have v44 := L.v44
  have u44 := run_underlying L.t44
  have eg := H.eg
  have hn := H.small
  have hne : w.heap.size ≠ blk := by have := H.row; have := H.base hS; omega
  obtain ⟨w1, hw1⟩ : ∃ x, w.alloc (.cells #[.func (.func g) #[] lb, .func (.func sf) #[] sb] (ρ.t 44)) = x := ⟨_, rfl⟩
  have TT : Aside (InS S blk w1 d w1) := by subst hw1; exact H.boxed hS _
  have CC : Hid (∀ (e : Array α) (W : World), InS S blk w1 e W → W.cell? ⟨w.heap.size, 0, none⟩ = some (.func (.func g) #[] lb) ∧ W.cell? ⟨w.heap.size, 1, none⟩ = some (.func (.func sf) #[] sb)) :=
    fun e W h => ⟨h.cell hne (by rw [← hw1]; simp), h.cell hne (by rw [← hw1]; simp)⟩
  have BB : Hid (∀ (e : Array α) (W : World), InS S blk w1 e W → InS S blk w e W) := fun e W h => h.more (by rw [← hw1]; exact below_alloc _ _)
  clear hS
  go_enter L.f34, BodyGg.n34_ntmps ρ
  go_wp2
  go_loopg [8] (hi - lo) (fun kx s8 wr => ∃ (root : Nat) (dk : Array α), s8 = .int .i64 root ∧ root ≤ hi ∧ hi - root ≤ kx ∧ Aside (InS S blk w1 dk wr) ∧ Hid (Sort.siftDown lt hi first root dk = Sort.siftDown lt hi first lo d))
  case atStart => exact ⟨lo, d, rfl, hlo, Nat.le_refl _, TT, rfl⟩
  case round =>
    clear TT
    obtain ⟨root, dk, rfl, hr, hkx, T, HE⟩ := hrel
    obtain ⟨c0, c1⟩ := CC.out _ _ T.out
    by_cases h0 : hi ≤ 2 * root + 1
    · have h0z : (hi : Int) ≤ 2 * (root : Int) + 1 := by omega
      go_wp2
      go_end0
      refine ⟨rfl, BB.out _ _ ?_⟩
      rw [← HE.out, Sort.sd_end lt dk h0]
      exact T.out
    · have h0z : ¬ ((hi : Int) ≤ 2 * (root : Int) + 1) := by omega
      by_cases h1 : 2 * root + 2 < hi
      · have h1z : 2 * (root : Int) + 1 + 1 < (hi : Int) := by omega
        have hl1 := H.lessT T.out (first + (2 * root + 1)) (first + (2 * root + 2)) (by omega) (by omega)
        rw [show ((first + (2 * root + 1) : Nat) : Int) = (first : Int) + (2 * (root : Int) + 1) by omega, show ((first + (2 * root + 2) : Nat) : Int) = (first : Int) + (2 * (root : Int) + 1) + 1 by omega] at hl1
        cases hL : lt dk[first + (2 * root + 1)]! dk[first + (2 * root + 2)]! with
        | true =>
          rw [hL] at hl1
          have hl2 : Hid (∀ W, InS S blk w1 dk W → _) := fun W h => H.lessT (W := W) h (first + root) (first + (2 * root + 2)) (by omega) (by omega)
          have HS : Hid (∀ W, InS S blk w1 dk W → _) := fun W h => H.swapT (W := W) h (first + root) (first + (2 * root + 2)) (by omega) (by omega)
          rw [show ((first + root : Nat) : Int) = (first : Int) + (root : Int) by omega, show ((first + (2 * root + 2) : Nat) : Int) = (first : Int) + (2 * (root : Int) + 1 + 1) by omega] at hl2 HS
          cases hG : lt dk[first + root]! dk[first + (2 * root + 2)]! with
          | true =>
            rw [hG] at hl2
            go_wp2_with (first | (go_at_fn g; (refine hl1.mono ?_); rintro e w2 ⟨rfl, T2⟩; obtain ⟨c2, c3⟩ := CC.out _ _ T2) | (go_at_fn g; (refine (hl2.out _ T2).mono ?_); rintro e w3 ⟨rfl, T3⟩; obtain ⟨c4, c5⟩ := CC.out _ _ T3; obtain ⟨hs, T4⟩ := HS.out _ T3))
            go_roundg (hi - (2 * root + 2))
            case measure => omega
            case rel => exact ⟨2 * root + 2, swp dk (first + root) (first + (2 * root + 2)), by go_num, by omega, Nat.le_refl _, T4, (show Hid _ from by rw [← HE.out, Sort.sd_right_go lt dk h1 hL hG]; exact rfl)⟩
          | false =>
            rw [hG] at hl2
            go_wp2_with (first | (go_at_fn g; (refine hl1.mono ?_); rintro e w2 ⟨rfl, T2⟩; obtain ⟨c2, c3⟩ := CC.out _ _ T2) | (go_at_fn g; (refine (hl2.out _ T2).mono ?_); rintro e w3 ⟨rfl, T3⟩; obtain ⟨c4, c5⟩ := CC.out _ _ T3; skip))
            (try simp only [Exit.inBlock, Exit.then]); refine bodyPost_ret (results_none rfl _ _ _) rfl ?_
            refine ⟨rfl, BB.out _ _ ?_⟩
            rw [← HE.out, Sort.sd_right_stop lt dk h1 hL hG]
            exact T3
        | false =>
          rw [hL] at hl1
          have hl2 : Hid (∀ W, InS S blk w1 dk W → _) := fun W h => H.lessT (W := W) h (first + root) (first + (2 * root + 1)) (by omega) (by omega)
          have HS : Hid (∀ W, InS S blk w1 dk W → _) := fun W h => H.swapT (W := W) h (first + root) (first + (2 * root + 1)) (by omega) (by omega)
          rw [show ((first + root : Nat) : Int) = (first : Int) + (root : Int) by omega, show ((first + (2 * root + 1) : Nat) : Int) = (first : Int) + (2 * (root : Int) + 1) by omega] at hl2 HS
          cases hG : lt dk[first + root]! dk[first + (2 * root + 1)]! with
          | true =>
            rw [hG] at hl2
            go_wp2_with (first | (go_at_fn g; (refine hl1.mono ?_); rintro e w2 ⟨rfl, T2⟩; obtain ⟨c2, c3⟩ := CC.out _ _ T2) | (go_at_fn g; (refine (hl2.out _ T2).mono ?_); rintro e w3 ⟨rfl, T3⟩; obtain ⟨c4, c5⟩ := CC.out _ _ T3; obtain ⟨hs, T4⟩ := HS.out _ T3))
            go_roundg (hi - (2 * root + 1))
            case measure => omega
            case rel => exact ⟨2 * root + 1, swp dk (first + root) (first + (2 * root + 1)), by go_num, by omega, Nat.le_refl _, T4, (show Hid _ from by rw [← HE.out, Sort.sd_left_go lt dk (by omega) (fun _ => hL) hG]; exact rfl)⟩
          | false =>
            rw [hG] at hl2
            go_wp2_with (first | (go_at_fn g; (refine hl1.mono ?_); rintro e w2 ⟨rfl, T2⟩; obtain ⟨c2, c3⟩ := CC.out _ _ T2) | (go_at_fn g; (refine (hl2.out _ T2).mono ?_); rintro e w3 ⟨rfl, T3⟩; obtain ⟨c4, c5⟩ := CC.out _ _ T3; skip))
            (try simp only [Exit.inBlock, Exit.then]); refine bodyPost_ret (results_none rfl _ _ _) rfl ?_
            refine ⟨rfl, BB.out _ _ ?_⟩
            rw [← HE.out, Sort.sd_left_stop lt dk (by omega) (fun _ => hL) hG]
            exact T3
      · have h1z : ¬ (2 * (root : Int) + 1 + 1 < (hi : Int)) := by omega
        have hl2 : Hid (∀ W, InS S blk w1 dk W → _) := fun W h => H.lessT (W := W) h (first + root) (first + (2 * root + 1)) (by omega) (by omega)
        have HS : Hid (∀ W, InS S blk w1 dk W → _) := fun W h => H.swapT (W := W) h (first + root) (first + (2 * root + 1)) (by omega) (by omega)
        rw [show ((first + root : Nat) : Int) = (first : Int) + (root : Int) by omega, show ((first + (2 * root + 1) : Nat) : Int) = (first : Int) + (2 * (root : Int) + 1) by omega] at hl2 HS
        cases hG : lt dk[first + root]! dk[first + (2 * root + 1)]! with
        | true =>
          rw [hG] at hl2
          go_wp2_with (go_at_fn g; (refine (hl2.out _ T.out).mono ?_); rintro e w3 ⟨rfl, T3⟩; obtain ⟨c4, c5⟩ := CC.out _ _ T3; obtain ⟨hs, T4⟩ := HS.out _ T3)
          go_roundg (hi - (2 * root + 1))
          case measure => omega
          case rel => exact ⟨2 * root + 1, swp dk (first + root) (first + (2 * root + 1)), by go_num, by omega, Nat.le_refl _, T4, (show Hid _ from by rw [← HE.out, Sort.sd_left_go lt dk (by omega) (fun h => absurd h h1) hG]; exact rfl)⟩
        | false =>
          rw [hG] at hl2
          go_wp2_with (go_at_fn g; (refine (hl2.out _ T.out).mono ?_); rintro e w3 ⟨rfl, T3⟩; obtain ⟨c4, c5⟩ := CC.out _ _ T3; skip)
          (try simp only [Exit.inBlock, Exit.then]); refine bodyPost_ret (results_none rfl _ _ _) rfl ?_
          refine ⟨rfl, BB.out _ _ ?_⟩
          rw [← HE.out, Sort.sd_left_stop lt dk (by omega) (fun h => absurd h h1) hG]
          exact T3
set_option maxHeartbeats 8000000 in
set_option maxRecDepth 1000000 in
theorem sfHeap {P : Program} {ρ : Ren} {g : Nat} {lb : Array Value} {sf : Nat} {sb : Array Value} {lt : α → α → Bool} {n blk B : Nat} {S : Array α → World → Prop} {sw : Array α → World → Nat → Nat → World} (L : LaysGg.n27 P ρ) (H : Sorts P g lb sf sb lt n blk B S sw) (a b : Nat) (d : Array α) (w : World) (hS : S d w) (hab : a ≤ b) (hb : b ≤ n) :
    Calls P (ρ.f 27) #[.agg #[.func (.func g) #[] lb, .func (.func sf) #[] sb], .int .i64 a, .int .i64 b] w fun e w' => e = .returned (.tuple #[]) ∧ InS S blk w (Sort.heapSort lt d a b) w' := by
  have mixed := L.mixed; have t0 := L.t0; have a0 := L.a0; have z0 := L.z0; have v0 := L.v0; have t3 := L.t3; have a3 := L.a3; have z3 := L.z3; have v3 := L.v3; have t4 := L.t4; have a4 := L.a4; have z4 := L.z4; have v4 := L.v4; have t26 := L.t26; have a26 := L.a26; have z26 := L.z26; have v26 := L.v26; have t37 := L.t37; have a37 := L.a37; have z37 := L.z37; have v37 := L.v37; have t44 := L.t44; have a44 := L.a44; have z44 := L.z44; have v44 := L.v44
  have u44 := run_underlying L.t44
  have eg := H.eg
  have hn := H.small
  have e34 : ∀ args w, (callFunc (ρ.f 34) args).run P w = .ok (.enter (ρ.f 34) args) w := enters_of L.f34 (by kernel_rfl) rfl
  have hne : w.heap.size ≠ blk := by have := H.row; have := H.base hS; omega
  obtain ⟨w1, hw1⟩ : ∃ x, w.alloc (.cells #[.func (.func g) #[] lb, .func (.func sf) #[] sb] (ρ.t 44)) = x := ⟨_, rfl⟩
  have TT : Aside (InS S blk w1 d w1) := by subst hw1; exact H.boxed hS _
  have CC : Hid (∀ (e : Array α) (W : World), InS S blk w1 e W → W.cell? ⟨w.heap.size, 0, none⟩ = some (.func (.func g) #[] lb) ∧ W.cell? ⟨w.heap.size, 1, none⟩ = some (.func (.func sf) #[] sb)) :=
    fun e W h => ⟨h.cell hne (by rw [← hw1]; simp), h.cell hne (by rw [← hw1]; simp)⟩
  have BB : Hid (∀ (e : Array α) (W : World), InS S blk w1 e W → InS S blk w e W) := fun e W h => h.more (by rw [← hw1]; exact below_alloc _ _)
  clear hS
  have ecast : ((b - a : Nat) : Int) = (b : Int) - (a : Int) := by omega
  go_enter L.f27, BodyGg.n27_ntmps ρ
  go_wp2
  go_loopg [9] ((b - a - 1) / 2 + 1) (fun kx s9 wr => s9 = .int .i64 ((kx : Int) - 1) ∧ kx ≤ (b - a - 1) / 2 + 1 ∧ ∃ (dk : Array α), Aside (InS S blk w1 dk wr) ∧ Hid (Sort.heapBuild lt (b - a) a kx dk = Sort.heapBuild lt (b - a) a ((b - a - 1) / 2 + 1) d))
  case atStart => exact ⟨by rw [half_start hab], Nat.le_refl _, d, TT, rfl⟩
  case round =>
    clear TT
    obtain ⟨rfl, hkk, dk, T, HE⟩ := hrel
    cases gk with
    | zero =>
      have hB : Hid (dk = Sort.heapBuild lt (b - a) a ((b - a - 1) / 2 + 1) d) := HE.out
      clear HE hkk
      obtain ⟨wo, hwo⟩ : ∃ wo, wo = wr := ⟨wr, rfl⟩
      subst hwo
      go_wp2
      go_loopg [10] (b - a) (fun kx s10 wr => s10 = .int .i64 ((kx : Int) - 1) ∧ kx ≤ b - a ∧ ∃ (dj : Array α), Aside (InS S blk w1 dj wr) ∧ Hid (Sort.heapPop lt a kx dj = Sort.heapPop lt a (b - a) dk))
      case atStart => exact ⟨by rw [ecast], Nat.le_refl _, dk, T, rfl⟩
      case round =>
        clear T
        obtain ⟨rfl, hkk, dj, T, HE2⟩ := hrel
        cases gk with
        | zero =>
          go_wp2
          go_end0
          refine ⟨rfl, BB.out _ _ ?_⟩
          have e : dj = Sort.heapSort lt d a b := by rw [Sort.heapSort, ← hB.out, ← HE2.out]; rfl
          rw [← e]
          exact T.out
        | succ kx =>
          obtain ⟨c0, c1⟩ := CC.out _ _ T.out
          obtain ⟨hs, T2⟩ := H.swapT T.out a (a + kx) (by omega) (by omega)
          rw [show ((a + kx : Nat) : Int) = (a : Int) + (kx : Int) by omega] at hs
          generalize sw dj wr a (a + kx) = w2 at hs T2
          obtain ⟨c2, c3⟩ := CC.out _ _ T2
          have hcall := sfSift (P := P) (ρ := ρ) { L with } H 0 kx a (swp dj a (a + kx)) w2 T2.s (Nat.zero_le _) (by omega)
          have T3 : Aside (InS S blk w1 (swp dj a (a + kx)) w2) := T2
          clear T2 T
          go_wp2_with (go_at_fn (ρ.f 34); (refine hcall.mono ?_); rintro e w3 ⟨rfl, T4⟩)
          go_roundg kx
          case measure => omega
          case rel => exact ⟨by simp, by omega, Sort.siftDown lt kx a 0 (swp dj a (a + kx)), T3.out.then T4, HE2⟩
    | succ kx =>
      obtain ⟨c0, c1⟩ := CC.out _ _ T.out
      have hcall := sfSift (P := P) (ρ := ρ) { L with } H kx (b - a) a dk wr T.out.s (by omega) (by omega)
      rw [ecast] at hcall
      go_wp2_with (go_at_fn (ρ.f 34); (refine hcall.mono ?_); rintro e w3 ⟨rfl, T4⟩)
      go_roundg kx
      case measure => omega
      case rel => exact ⟨by simp, by omega, Sort.siftDown lt (b - a) a kx dk, T.out.then T4, HE⟩
end Go.Proofs.YtaodjnkjjmhecaaGreatDoor
