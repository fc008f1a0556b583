/- Contracts and plain words that the laws' proofs stand on. -/
import Derived.Test.YtaodjnkjjmhecaaGreatDoorLibAE
namespace Go.Proofs.YtaodjnkjjmhecaaGreatDoor
open Go.RowKit
set_option linter.unusedVariables false
theorem eqMark (x y : DotN) (w : World) : Sem.run Tryz.prog (Op.equalIn 10000 149 (.agg #[.int .i64 x.dev, .int .i64 x.inc, .int .i64 x.seq]) (.agg #[.int .i64 y.dev, .int .i64 y.inc, .int .i64 y.seq])) w = Result.ok (sameD x y) w := by
  unfold sameD
  cases h1 : x.dev == y.dev <;> cases h2 : x.inc == y.inc <;> cases h3 : x.seq == y.seq <;> simp [go_sem, h1, h2, h3]
set_option maxHeartbeats 1000000 in
set_option maxRecDepth 100000 in
theorem refSameMC (a b : Option Addr) (n m c1 c2 : Nat) (L M : List DotN) (w : World) (hL : RowOf encD 3 w a n c1 L) (hM : RowOf encD 3 w b m c2 M) :
    Calls Tryz.prog 77 #[.slice a n c1, .slice b m c2] w fun e w' => e = .returned (.bool (sameDs L M)) ∧ ∃ k, w' = w.drewN k := by
  have hn := hL.leq
  have hm := hM.leq
  by_cases hnm : n = m
  · subst hnm
    have hcm := hL.capm
    have hcl := hL.cle
    unfold maxLen at hcm
    have HL := Lib.hid hL
    have HM := Lib.hid hM
    have Hn := Lib.hid hn
    have Hm := Lib.hid hm
    clear hL hM hn hm
    go_enter Tryz.func77, Tryz.ntmps77
    go_wp2
    go_loopw [5] (fun i wr => ∃ k q : Nat, k ≤ n ∧ i = .int .i64 (k : Int) ∧ Hid (L.take k = M.take k) ∧ wr = w.drewN q) (fun i _ => n - (intOf i).toNat)
    case atStart => exact ⟨0, 0, Nat.zero_le _, rfl, rfl, rfl⟩
    case round =>
      obtain ⟨k, q, hk, rfl, hs, rfl⟩ := hrel
      by_cases hlt : k < n
      · have hlt' : (k : Int) < (n : Int) := by omega
        obtain ⟨x, g1, o1, hx, rfl, c0, c1, c2⟩ := dot_at HL.out k hlt
        obtain ⟨y, g2, o2, hy, rfl, d0, d1, d2⟩ := dot_at HM.out k hlt
        have hT : Hid (x = y → L.take (k + 1) = M.take (k + 1)) := fun e => by rw [take_snocI hx, take_snocI hy, hs.out, e]
        have hN : Hid (x ≠ y → sameDs L M = false) := fun e => by
          rw [Bool.eq_false_iff]
          intro c
          rw [sameDs_iff] at c
          subst c
          rw [hx] at hy
          exact e (by cases hy; rfl)
        have hE := eqMark x y
        clear hx hy
        by_cases hxy : x = y
        · have h3 := Lib.hid (hT.out hxy)
          rw [sameD_iff.2 hxy] at hE
          clear hT hN hs hxy
          go_wp2_with fail
          go_quiet (fail)
          go_wp2
          go_roundw
          case rel => exact ⟨k + 1, _, by omega, by go_num, h3, by first | rfl | simp⟩
          case measure => simp [intOf]; omega
        · have h2 := Lib.hid (hN.out hxy)
          rw [Bool.eq_false_iff.2 (fun c => hxy (sameD_iff.1 c))] at hE
          clear hT hN hs hxy
          go_wp2_with fail
          go_quiet (fail)
          go_wp2
          go_ret
          exact ⟨by rw [h2.out]; rfl, _, World.drewN_drewN _ _ _⟩
      · obtain rfl : k = n := by omega
        have e : Hid (sameDs L M = true) := by
          have h1 := hs.out
          rw [List.take_of_length_le (by rw [Hn.out]; exact Nat.le_refl _), List.take_of_length_le (by rw [Hm.out]; exact Nat.le_refl _)] at h1
          unfold Hid
          rw [sameDs_iff]
          exact h1
        go_wp2
        go_ret
        exact ⟨by rw [e.out]; rfl, q, rfl⟩
  · have h1 : sameDs L M = false := by
      rw [Bool.eq_false_iff]
      intro c
      rw [sameDs_iff] at c
      subst c
      exact hnm (hn.symm.trans hm)
    have h2 : ¬ (n : Int) = (m : Int) := by omega
    have h3 : ((n : Int) == (m : Int)) = false := beq_eq_false_iff_ne.2 h2
    rw [h1]
    clear hL hM hn hm
    go_enter Tryz.func77, Tryz.ntmps77
    go_wp2
    go_ret
    exact ⟨rfl, 0, rfl⟩
end Go.Proofs.YtaodjnkjjmhecaaGreatDoor
