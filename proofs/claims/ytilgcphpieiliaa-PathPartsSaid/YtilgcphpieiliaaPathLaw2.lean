/- Layer 11's laws on directories, walked. -/
import Derived.Test.YtilgcphpieiliaaPathLaw
import Derived.Deep.RegionHeld3
namespace Go.Proofs.Ytilgcphpieiliaa
open Go.RowKit
set_option linter.unusedVariables false

set_option maxRecDepth 100000 in
theorem pathDefaults_walk (s : ByteArray) (w : World) (hs : s.size ≤ maxLen) :
    Calls Try.prog 3 #[.string s] w fun e w' => e = .returned (.bool true) ∧ Below w.heap.size w w' := by
  obtain ⟨l, rfl⟩ : ∃ l, s = str l := ⟨_, str_of s⟩
  obtain ⟨n, hn⟩ : ∃ n, l.length = n := ⟨_, rfl⟩
  have s1 : (str l).size = n := by rw [str_size, hn]
  rw [s1] at hs
  have HA := fun w => awake11C w
  have hb := Below.refl w.heap.size w
  by_cases h1 : 500 < n
  · have b1 : (500 : Int) < (n : Int) := by omega
    clear hn
    go_enter Try.func3, Try.ntmps3
    go_wp2_with (go_at_call 7; (with_reducible refine (HA _).mono ?_); rintro e ww ⟨rfl, hx⟩; have hb := hb.trans (hx.mono hb.size); clear hx)
    go_ret
    exact ⟨rfl, hb⟩
  have b1 : ¬ (500 : Int) < (n : Int) := by omega
  have HD := fun w => pathDefaultC l n w hn (by omega)
  have HR := fun w => refDefaultC l n w hn hs
  have HP := fun w => pathDepthC l n w hn (by omega)
  have hdl := default_le l
  have HM := fun w => pathMatchC l (defaultL l) n _ w hn (by omega) rfl (by omega)
  have hfit := @default_fit l
  have hk := str_toList
  have HL := Lib.hid hn
  generalize defaultL l = d at *
  obtain ⟨f, hf⟩ : ∃ f, fitP l d = f := ⟨_, rfl⟩
  rw [hf] at HM hfit
  clear hn hdl hf
  go_enter Try.func3, Try.ntmps3
  go_wp2_with (go_at_call 8; (with_reducible refine (HD _).mono ?_); rintro e w1 ⟨rfl, hx⟩; have hb := hb.trans (hx.mono hb.size); clear hx)
  go_loopw [4, 5] (fun v i wr => ∃ k : Nat, k ≤ n ∧ v = .int .i64 (slashN (l.take k) : Int) ∧ i = .int .i64 (k : Int) ∧ w1 = wr) (fun _ i _ => n - (intOf i).toNat)
  case atStart => exact ⟨0, Nat.zero_le _, rfl, rfl, rfl⟩
  case round =>
    obtain ⟨k, hkn, rfl, rfl, rfl⟩ := hrel
    have hle : slashN (l.take k) ≤ k := by
      unfold slashN
      have := List.countP_le_length (p := (· == (47 : UInt8))) (l := l.take k)
      rw [List.length_take] at this
      omega
    by_cases hlt : k < n
    · have hlt' : (k : Int) < (n : Int) := by omega
      have hi := run_index_str (P := Try.prog) w1 9 l .i64 k Try.underlying9 (by rw [HL.out]; exact hlt)
      have HS := Lib.hid (slash_take (l := l) (k := k) (by rw [HL.out]; exact hlt))
      have e0 := u8_is (l.getD k 0) 47 (by omega)
      obtain ⟨b, hb1, hb2⟩ : ∃ b, (l.getD k 0 == 47) = b ∧ (((l.getD k 0).toNat : Int) == 47) = b := ⟨_, rfl, e0.symm⟩
      rw [hb1] at HS
      clear e0 hb1 hfit
      generalize (l.getD k 0).toNat = x at *
      generalize slashN (l.take k) = q at *
      cases b
      · have HS2 : Hid (slashN (l.take (k + 1)) = q) := by unfold Hid; rw [HS.out]; rfl
        clear HS
        go_wp2
        go_roundw
        case rel => exact ⟨k + 1, by omega, by rw [HS2.out], by go_num, by first | rfl | trivial⟩
        case measure => simp [intOf]; omega
      · have HS2 : Hid (slashN (l.take (k + 1)) = q + 1) := by unfold Hid; rw [HS.out]; rfl
        clear HS
        go_wp2
        go_roundw
        case rel => exact ⟨k + 1, by omega, by rw [HS2.out]; go_num, by go_num, by first | rfl | trivial⟩
        case measure => simp [intOf]; omega
    · obtain rfl : k = n := by omega
      have e1 : l.take k = l := List.take_of_length_le (by rw [HL.out]; exact Nat.le_refl _)
      rw [e1] at hle ⊢
      generalize slashN l = q at *
      rcases Nat.eq_zero_or_pos k with h0 | h0
      · obtain rfl : l = [] := List.eq_nil_of_length_eq_zero (HL.out.trans h0)
        subst h0
        clear hfit
        go_wp2_with (first
          | (go_at_call 9; (with_reducible refine (HR _).mono ?_); rintro e ww ⟨rfl, rfl⟩)
          | (go_at_call 10; (with_reducible refine (HP _).mono ?_); rintro e ww ⟨rfl, hx⟩; have hb := hb.trans (hx.mono hb.size); clear hx)
          | (go_at_call 7; (with_reducible refine (HA _).mono ?_); rintro e ww ⟨rfl, hx⟩; have hb := hb.trans (hx.mono hb.size); clear hx))
        go_ret
        exact ⟨rfl, hb⟩
      · have hbn : (l == []) = false := by
          cases l with
          | nil => have := HL.out; simp at this; omega
          | cons x xs => rfl
        have i0 := fun w => first_str (P := Try.prog) w 9 l Try.underlying9 (by rw [HL.out]; omega)
        have e0 := first_slash (l := l) (by rw [HL.out]; omega)
        have hk0 : (0 : Int) < (k : Int) := by omega
        by_cases h47 : l.getD 0 0 = 47
        · obtain rfl := hfit h47 (by rw [HL.out]; exact h0)
          rw [decide_eq_true h47] at e0
          have e2 : (((l.getD 0 0).toNat : Int) != 47) = false := by rw [bne, e0]; rfl
          generalize (l.getD 0 0).toNat = x at *
          clear hfit h47 e1
          go_wp2_with (first
            | (go_at_call 9; (with_reducible refine (HR _).mono ?_); rintro e ww ⟨rfl, rfl⟩)
            | (go_at_call 10; (with_reducible refine (HP _).mono ?_); rintro e ww ⟨rfl, hx⟩; have hb := hb.trans (hx.mono hb.size); clear hx)
            | (go_at_call 11; (with_reducible refine (HM _).mono ?_); rintro e ww ⟨rfl, hx⟩; have hb := hb.trans (hx.mono hb.size); clear hx)
            | (go_at_call 7; (with_reducible refine (HA _).mono ?_); rintro e ww ⟨rfl, hx⟩; have hb := hb.trans (hx.mono hb.size); clear hx))
          go_ret
          exact ⟨rfl, hb⟩
        · rw [decide_eq_false h47] at e0
          have e2 : (((l.getD 0 0).toNat : Int) != 47) = true := by rw [bne, e0]; rfl
          generalize (l.getD 0 0).toNat = x at *
          clear hfit h47 e1
          go_wp2_with (first
            | (go_at_call 9; (with_reducible refine (HR _).mono ?_); rintro e ww ⟨rfl, rfl⟩)
            | (go_at_call 10; (with_reducible refine (HP _).mono ?_); rintro e ww ⟨rfl, hx⟩; have hb := hb.trans (hx.mono hb.size); clear hx)
            | (go_at_call 11; (with_reducible refine (HM _).mono ?_); rintro e ww ⟨rfl, hx⟩; have hb := hb.trans (hx.mono hb.size); clear hx)
            | (go_at_call 7; (with_reducible refine (HA _).mono ?_); rintro e ww ⟨rfl, hx⟩; have hb := hb.trans (hx.mono hb.size); clear hx))
          go_ret
          exact ⟨rfl, hb⟩
end Go.Proofs.Ytilgcphpieiliaa
