/- Contracts of layer 12: slices.Equal at pairs. -/
import Derived.Test.YtlmcfflpgkapgaaHeaderRef3
namespace Go.Proofs.Ytlmcfflpgkapgaa
open Go.RowKit
set_option linter.unusedVariables false

theorem eqHeadPair (a b c d : List UInt8) (w : World) : Sem.run Try.prog (Op.equalIn 10000 24 (.agg #[.string (str a), .string (str b)]) (.agg #[.string (str c), .string (str d)])) w = Result.ok (a == c && b == d) w := by
  have hk := str_toList
  cases h1 : a == c <;> cases h2 : b == d <;> simp [go_sem, hk, h1, h2]

set_option maxRecDepth 100000 in
theorem headEqualC (a b : Option Addr) (n m c1 c2 : Nat) (L M : List (List UInt8 × List UInt8)) (w : World) (hL : RowOf encP 2 w a n c1 L) (hM : RowOf encP 2 w b m c2 M) :
    Calls Try.prog 30 #[.slice a n c1, .slice b m c2] w fun e w' => e = .returned (.bool (L == M)) ∧ ∃ k, w' = w.drewN k := by
  have hn := hL.leq
  have hm := hM.leq
  by_cases hnm : n = m
  · subst hnm
    have hcm := hL.capm
    have hcl := hL.cle
    unfold maxLen at hcm
    have HL := Lib.hid hL
    have HM := Lib.hid hM
    have Hn := Lib.hid hn
    have Hm := Lib.hid hm
    have hdr : ∀ k, Below w.heap.size w (w.drewN k) := fun k => below_drawn (Below.refl _ w) k
    clear hL hM hn hm
    go_enter Try.func30, Try.ntmps30
    go_wp2
    go_loopw [13] (fun i wr => ∃ k q : Nat, k ≤ n ∧ i = .int .i64 (k : Int) ∧ Hid (L.take k = M.take k) ∧ wr = w.drewN q) (fun i _ => n - (intOf i).toNat)
    case atStart => exact ⟨0, 0, Nat.zero_le _, rfl, rfl, rfl⟩
    case round =>
      obtain ⟨k, q, hk, rfl, hs, rfl⟩ := hrel
      by_cases hlt : k < n
      · have hlt' : (k : Int) < (n : Int) := by omega
        obtain ⟨x1, x2, g1, o1, hx, rfl, cx0, cx1⟩ := pair_at HL.out k hlt
        obtain ⟨y1, y2, g2, o2, hy, rfl, cy0, cy1⟩ := pair_at HM.out k hlt
        have hT : Hid ((x1, x2) = (y1, y2) → L.take (k + 1) = M.take (k + 1)) := fun e => by
          obtain ⟨h1, e1⟩ := List.getElem?_eq_some_iff.1 hx
          obtain ⟨h2, e2⟩ := List.getElem?_eq_some_iff.1 hy
          rw [List.take_succ_eq_append_getElem h1, List.take_succ_eq_append_getElem h2, hs.out, e1, e2, e]
        have hN : Hid ((x1, x2) ≠ (y1, y2) → (L == M) = false) := fun e => by
          rw [beq_eq_false_iff_ne]
          rintro rfl
          rw [hx] at hy
          exact e (by cases hy; rfl)
        have hE := eqHeadPair x1 x2 y1 y2
        clear hx hy
        by_cases hxy : (x1, x2) = (y1, y2)
        · have h2 := hT.out hxy
          have h3 := Lib.hid h2
          clear h2 hT hN hs
          cases hxy
          rw [show (x1 == x1 && x2 == x2) = true by simp] at hE
          go_wp2_with fail
          go_quiet (fail)
          go_wp2
          go_roundw
          case rel => exact ⟨k + 1, _, by omega, by go_num, h3, by first | rfl | simp⟩
          case measure => simp [intOf]; omega
        · have h2 := Lib.hid (hN.out hxy)
          have e : (x1 == y1 && x2 == y2) = false := by
            rw [Bool.eq_false_iff]
            intro c
            rw [Bool.and_eq_true, beq_iff_eq, beq_iff_eq] at c
            exact hxy (by rw [c.1, c.2])
          rw [e] at hE
          clear hT hN hs hxy e
          go_wp2_with fail
          go_quiet (fail)
          go_wp2
          go_ret
          exact ⟨by rw [h2.out]; rfl, _, World.drewN_drewN _ _ _⟩
      · obtain rfl : k = n := by omega
        have e : Hid ((L == M) = true) := by
          have h1 := hs.out
          rw [List.take_of_length_le (by rw [Hn.out]; exact Nat.le_refl _), List.take_of_length_le (by rw [Hm.out]; exact Nat.le_refl _)] at h1
          unfold Hid
          rw [h1]
          simp
        go_wp2
        go_ret
        exact ⟨by rw [e.out]; rfl, q, rfl⟩
  · have h1 : (L == M) = false := by
      rw [beq_eq_false_iff_ne]
      rintro rfl
      exact hnm (hn.symm.trans hm)
    have h2 : ¬ (n : Int) = (m : Int) := by omega
    have h3 : ((n : Int) == (m : Int)) = false := beq_eq_false_iff_ne.2 h2
    rw [h1]
    clear hL hM hn hm
    go_enter Try.func30, Try.ntmps30
    go_wp2
    go_ret
    exact ⟨rfl, 0, rfl⟩

end Go.Proofs.Ytlmcfflpgkapgaa
