/- The walk of the law on a number's bytes, both ways round. -/
import Derived.Test.YtcfgekjlfpkejaaBitHigh
import Derived.Test.YtcfgekjlfpkejaaOpen
namespace Go.Proofs.Ytcfgekjlfpkejaa
open Go.RowKit
set_option linter.unusedVariables false

theorem bitsBytes_no (n k : Int) (w : World) (h0 : 0 ≤ n) (h1 : n ≤ 18446744073709551615) (h2 : -9223372036854775808 ≤ k) (h3 : k ≤ 9223372036854775807)
    (h : k < 1 ∨ 1 ≤ k ∧ 8 < k ∨ 1 ≤ k ∧ k ≤ 8 ∧ roomI n (8 * k) = false) :
    Calls Try.prog 3 #[.int .u64 n, .int .i64 k] w fun e w' => e = .returned (.bool true) ∧ Below w.heap.size w w' := by
  have H : Hid (k < 1 ∨ 8 < k ∨ roomI n (8 * k) = false) := by rcases h with h | h | h <;> unfold Hid <;> first | omega | exact .inl h | exact .inr (.inl h.2) | exact .inr (.inr h.2.2)
  rcases h with h | ⟨g1, g2⟩ | ⟨g1, g2, g3⟩
  all_goals
    go_enter Try.func3, Try.ntmps3
    go_wp2_with (first
      | (go_at_call 8; (with_reducible refine (bytesNo _ _ _ h0 h1 h2 h3 H.out).mono ?_); rintro e w' ⟨rfl, rfl⟩)
      | (go_at_call 9; (with_reducible refine (highNo _ _ _ h0 h1 h2 h3 H.out).mono ?_); rintro e w' ⟨rfl, rfl⟩)
      | (go_at_call 10; (with_reducible refine (refRoomC _ _ _ h0 h1 (by omega) (by omega)).mono ?_); rintro e w' ⟨rfl, rfl⟩)
      | (go_at_call 11; (with_reducible refine (awakeC _).mono ?_); rintro e w' ⟨rfl, hb⟩))
    go_ret
    exact ⟨rfl, hb⟩

set_option maxRecDepth 100000 in
theorem bitsBytes_yes (n : Int) (K : Nat) (w : World) (h0 : 0 ≤ n) (h1 : n ≤ 18446744073709551615) (h2 : 1 ≤ K) (h3 : K ≤ 8) (hr : roomI n (8 * (K : Int)) = true) :
    Calls Try.prog 3 #[.int .u64 n, .int .i64 (K : Int)] w fun e w' => e = .returned (.bool true) ∧ Below w.heap.size w w' := by
  have HB := fun w => bytesYes n K w h0 h1 h2 h3 hr
  have HH := fun w => highYes n K w h0 h1 h2 h3 hr
  have HR := fun w => refBytesC n K w h0 h1 h3
  have HS := fun (w : World) (a b : Option Addr) (c d : Nat) (ha : Reads w a ((lowBytes n K).map (Value.int .u8))) (hb : Reads w b ((lowBytes n K).map (Value.int .u8))) => sameC (lowBytes n K) a b c d w ha hb (by rw [lowBytes_length]; unfold maxLen; omega)
  have HQ : Hid (roomI n (8 * (K : Int)) = true) := hr
  clear hr
  have hl := lowBytes_length n K
  have hl' : (lowBytes n K).reverse.length = K := by rw [List.length_reverse, hl]
  have hrev : Hid (∀ i, i < K → (lowBytes n K).reverse.getD i 0 = (lowBytes n K).getD (K - 1 - i) 0) := by
    intro i hi
    rw [getD_of_lt _ _ (by omega), getD_of_lt _ _ (by omega), List.getElem_reverse]
    simp only [hl]
  have HL := Lib.hid hl
  have HL' := Lib.hid hl'
  unfold GivesBytes at HB HH
  unfold GivesRow at HR
  simp only [hl, hl'] at HB HH HR HS
  clear hl hl'
  generalize lowBytes n K = l at HB HH HR HS HL HL' hrev
  go_enter Try.func3, Try.ntmps3
  go_wp2_with (first
    | (go_at_call 8; refine (HB _).mono ?_; rintro e w1 ⟨g1, cap1, rfl, hown1, hb1⟩)
    | (go_at_call 9; refine (HH _).mono ?_; rintro e w2 ⟨g2, cap2, rfl, hown2, hb2⟩)
    | (go_at_call 10; (with_reducible refine (refRoomC _ _ _ h0 h1 (by omega) (by omega)).mono ?_); rw [HQ.out]; rintro e w' ⟨rfl, rfl⟩)
    | (go_at_call 12; refine (HR _).mono ?_; rintro e w3 ⟨v3, rfl, hown3, hb3⟩; obtain ⟨a3, cap3, rfl, hr3, -, -, -, -⟩ := owns_reads hown3))
  obtain ⟨_, _, e1, hr1, -, -, hlt1, -⟩ := owns_reads hown1
  cases e1
  obtain ⟨_, _, e2, hr2, -, -, hlt2, -⟩ := owns_reads hown2
  cases e2
  have hr1' := (hr1.below' hb2).below' hb3
  have hr2' := hr2.below' hb3
  have hbb : Below w.heap.size w w3 := hb1.trans ((hb2.mono hb1.size).trans (hb3.mono (Nat.le_trans hb1.size hb2.size)))
  clear hr1 hr2 hb1 hb2 hb3 hown1 hown2 hown3 hlt1 hlt2
  go_wp2_with (first
    | (go_at_call 13; (with_reducible refine (HS _ _ _ _ _ hr1' hr3).mono ?_); rintro e w' ⟨rfl, m, rfl⟩))
  go_loopw [10] (fun i wr => ∃ k : Nat, k ≤ K ∧ i = .int .i64 k ∧ ∃ m, wr = w3.drewN m) (fun i _ => K - (intOf i).toNat)
  case atStart => exact ⟨0, Nat.zero_le _, rfl, _, rfl⟩
  case round =>
    obtain ⟨k, hk, rfl, m', rfl⟩ := hrel
    by_cases hlt : k < K
    · obtain ⟨B2, off2, e2, c2⟩ := hr2'.at k (by rw [HL'.out]; exact hlt)
      obtain ⟨B3, off3, rfl, c3⟩ := hr3.at (K - 1 - k) (by rw [HL.out]; omega)
      cases e2
      rw [hrev.out k hlt] at c2
      obtain ⟨j, hj⟩ : ∃ j, j + k + 1 = K := ⟨K - 1 - k, by omega⟩
      have ej : K - 1 - k = j := by omega
      rw [ej] at c2 c3
      generalize l.getD j 0 = x at c2 c3
      have HJ := Lib.hid hj
      have q1 : (K : Int) - 1 - (k : Int) = (j : Int) := by omega
      have q2 : (j : Int) < (K : Int) := by omega
      have q3 : (k : Int) < (K : Int) := by omega
      rw [Nat.zero_add] at c2
      clear hr1' hr2' hr3 HB HH HR HS hj ej
      go_wp2_with fail
      go_quiet (fail)
      go_wp2
      go_roundw
      case rel => exact ⟨k + 1, by omega, by go_num, _, rfl⟩
      case measure => simp [intOf]; omega
    · go_wp2_with (go_at_call 11; (with_reducible refine (awakeC _).mono ?_); rintro e w' ⟨rfl, hb⟩)
      go_ret
      exact ⟨rfl, (below_drewN hbb m').trans (hb.mono hbb.size)⟩

theorem bitsBytes_walk (n k : Int) (w : World) (w0 : (Lit.int .u64 n).wf = true) (w1 : (Lit.int .i64 k).wf = true) :
    Calls Try.prog 3 #[.int .u64 n, .int .i64 k] w fun e w' => e = .returned (.bool true) ∧ Below w.heap.size w w' := by
  have b0 := wfU64 w0
  have b1 := wfI64 w1
  by_cases c1 : k < 1
  · exact bitsBytes_no n k w b0.1 b0.2 b1.1 b1.2 (.inl c1)
  · by_cases c2 : 8 < k
    · exact bitsBytes_no n k w b0.1 b0.2 b1.1 b1.2 (.inr (.inl ⟨by omega, c2⟩))
    · cases hr : roomI n (8 * k)
      · exact bitsBytes_no n k w b0.1 b0.2 b1.1 b1.2 (.inr (.inr ⟨by omega, by omega, hr⟩))
      · obtain ⟨K, rfl⟩ := Int.eq_ofNat_of_zero_le (show 0 ≤ k by omega)
        exact bitsBytes_yes n K w b0.1 b0.2 (by omega) (by omega) hr
end Go.Proofs.Ytcfgekjlfpkejaa
