/- Contracts of the reference of layer 11. -/
import Derived.Test.YtilgcphpieiliaaPathPlain
import Derived.Test.YtilgcphpieiliaaHostRef
import Derived.Test.YtilgcphpieiliaaHostRef2
namespace Go.Proofs.Ytilgcphpieiliaa
open Go.RowKit
set_option linter.unusedVariables false

theorem first_slash {l : List UInt8} (hl : 0 < l.length) : (((l.getD 0 0).toNat : Int) == 47) = decide (l.getD 0 0 = 47) := by
  have := u8_is (l.getD 0 0) 47 (by omega)
  rw [Bool.eq_iff_iff, decide_eq_true_iff]
  have e : (((l.getD 0 0).toNat : Int) == 47) = (l.getD 0 0 == 47) := this.symm
  rw [e, beq_iff_eq]

set_option maxRecDepth 100000 in
theorem refDefaultC (l : List UInt8) (n : Nat) (w : World) (hl : l.length = n) (hm : n ≤ maxLen) :
    Calls Try.prog 9 #[.string (str l)] w fun e w' => e = .returned (.string (str (defaultL l))) ∧ w = w' := by
  have hsz : (str l).size = n := by rw [str_size, hl]
  unfold maxLen at hm
  have hx : ∀ k, (str l).extract 0 k = str (l.take k) := fun k => by rw [str_extract]; simp
  have HL := Lib.hid hl
  obtain ⟨G, hG⟩ : ∃ G, defaultL l = G := ⟨_, rfl⟩
  rw [hG]
  have HG := Lib.hid hG
  clear hl hG
  go_enter Try.func9, Try.ntmps9
  go_wp2
  go_loopw [3, 4] (fun v i wr => ∃ k : Nat, k ≤ n ∧ v = .int .i64 ((lastS l k : Int) - 1) ∧ i = .int .i64 (k : Int) ∧ w = wr) (fun _ i _ => n - (intOf i).toNat)
  case atStart => exact ⟨0, Nat.zero_le _, rfl, rfl, rfl⟩
  case round =>
    obtain ⟨k, hk, rfl, rfl, rfl⟩ := hrel
    have hle := lastS_le l k
    by_cases hlt : k < n
    · have hlt' : (k : Int) < (n : Int) := by omega
      have hi := run_index_str (P := Try.prog) w 9 l .i64 k Try.underlying9 (by rw [HL.out]; exact hlt)
      have HS : Hid (lastS l (k + 1) = if (l.getD k 0 == 47) = true then k + 1 else lastS l k) := rfl
      have e0 := u8_is (l.getD k 0) 47 (by omega)
      obtain ⟨b, hb1, hb2⟩ : ∃ b, (l.getD k 0 == 47) = b ∧ (((l.getD k 0).toNat : Int) == 47) = b := ⟨_, rfl, e0.symm⟩
      rw [hb1] at HS
      clear e0 hb1
      generalize (l.getD k 0).toNat = x at *
      generalize lastS l k = q at *
      cases b
      · have HS2 : Hid (lastS l (k + 1) = q) := by unfold Hid; rw [HS.out]; rfl
        clear HS
        go_wp2
        go_roundw
        case rel => exact ⟨k + 1, by omega, by rw [HS2.out], by go_num, by first | rfl | trivial⟩
        case measure => simp [intOf]; omega
      · have HS2 : Hid (lastS l (k + 1) = k + 1) := by unfold Hid; rw [HS.out]; rfl
        clear HS
        go_wp2
        go_roundw
        case rel => exact ⟨k + 1, by omega, by rw [HS2.out]; congr 1; omega, by go_num, by first | rfl | trivial⟩
        case measure => simp [intOf]; omega
    · obtain rfl : k = n := by omega
      have HG2 := Lib.hid HG.out
      unfold defaultL at HG2
      rw [HL.out] at HG2
      generalize lastS l k = q at *
      by_cases hq : q ≤ 1
      · have hq' : (q : Int) - 1 ≤ 0 := by omega
        have HE : Hid (G = [47]) := by unfold Hid; rw [← HG2.out, if_pos (.inl hq)]
        clear HG HG2
        go_wp2
        go_ret
        exact ⟨by rw [HE.out]; rfl, rfl⟩
      · have hq' : ¬ (q : Int) - 1 ≤ 0 := by omega
        have i0 := first_str (P := Try.prog) w 9 l Try.underlying9 (by rw [HL.out]; omega)
        have e0 := first_slash (l := l) (by rw [HL.out]; omega)
        obtain ⟨m, rfl⟩ : ∃ m, q = m + 1 := ⟨q - 1, by omega⟩
        have hm1 : ((m + 1 : Nat) : Int) - 1 = (m : Int) := by omega
        have hx1 := hx m
        by_cases h47 : l.getD 0 0 = 47
        · have HE : Hid (G = l.take m) := by
            unfold Hid
            rw [← HG2.out, if_neg (by rintro (c | c) <;> contradiction)]
            rfl
          rw [decide_eq_true h47] at e0
          have e1 : (((l.getD 0 0).toNat : Int) != 47) = false := by rw [bne, e0]; rfl
          have hm2 : (m : Int) ≤ (k : Int) := by omega
          have hm3 : (0 : Int) ≤ (m : Int) := by omega
          generalize (l.getD 0 0).toNat = x at *
          clear HG HG2 h47 hx
          go_wp2
          go_ret
          exact ⟨by rw [HE.out, ← hx1]; rfl, rfl⟩
        · have HE : Hid (G = [47]) := by unfold Hid; rw [← HG2.out, if_pos (.inr h47)]
          rw [decide_eq_false h47] at e0
          have e1 : (((l.getD 0 0).toNat : Int) != 47) = true := by rw [bne, e0]; rfl
          generalize (l.getD 0 0).toNat = x at *
          clear HG HG2 h47 hx
          go_wp2
          go_ret
          exact ⟨by rw [HE.out]; rfl, rfl⟩
end Go.Proofs.Ytilgcphpieiliaa
