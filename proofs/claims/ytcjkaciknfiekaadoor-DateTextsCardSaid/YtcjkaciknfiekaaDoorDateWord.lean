/- Contracts of layer 7: tokens. -/
import Derived.Test.YtcjkaciknfiekaaDoorDateDelim
import Derived.Test.YtcjkaciknfiekaaDoorAsciiText
import Derived.BigQuiet
namespace Go.Proofs.YtcjkaciknfiekaaDoor
open Go.RowKit
set_option linter.unusedVariables false

theorem fi_lt {l : List UInt8} {p : UInt8 → Bool} {k : Nat} (h : k < l.findIdx p) : p (l.getD k 0) = false := by
  have hk : k < l.length := Nat.lt_of_lt_of_le h List.findIdx_le_length
  have := List.not_of_lt_findIdx h
  simpa [List.getD, hk] using this
theorem fi_at {l : List UInt8} {p : UInt8 → Bool} (h : l.findIdx p < l.length) : p (l.getD (l.findIdx p) 0) = true := by
  have := List.findIdx_getElem (w := h)
  simpa [List.getD, h] using this
theorem getD_dropD (l : List UInt8) (F j : Nat) : (l.drop F).getD j 0 = l.getD (F + j) 0 := by
  simp [List.getD]

theorem nextC (l : List UInt8) (n : Nat) (w : World) (hl : l.length = n) (hm : n ≤ maxLen) :
    Calls Tryd.prog 35 #[.string (str l)] w fun e w' => e = .returned (.tuple #[.string (str (wordD l)), .string (str (restD l))]) ∧ ∃ q, w' = w.drewN q := by
  have hsz : (str l).size = n := by rw [str_size, hl]
  obtain ⟨A, hA⟩ : ∃ A, l.findIdx (fun x => !delim x) = A := ⟨_, rfl⟩
  obtain ⟨F, hF⟩ : ∃ F, (l.drop A).findIdx delim = F := ⟨_, rfl⟩
  have hAn : A ≤ n := by rw [← hA, ← hl]; exact List.findIdx_le_length
  have hFn : A + F ≤ n := by
    have : F ≤ (l.drop A).length := by rw [← hF]; exact List.findIdx_le_length
    rw [List.length_drop] at this
    omega
  have hx1 : (str l).extract A (A + F) = str (wordD l) := by
    rw [str_extract]
    unfold wordD skipD
    rw [hA, hF, Nat.add_sub_cancel_left]
  have hx2 : (str l).extract (A + F) n = str (restD l) := by
    rw [str_extract]
    unfold restD skipD
    rw [hA, hF, List.drop_drop, List.take_of_length_le (by rw [List.length_drop]; omega)]
  have h1 : Hid (∀ k, k < A → delim (l.getD k 0) = true) := by
    intro k hk
    have := fi_lt (l := l) (p := fun x => !delim x) (k := k) (by rw [hA]; exact hk)
    simpa using this
  have h2 : Hid (A < n → delim (l.getD A 0) = false) := by
    intro h
    have := fi_at (l := l) (p := fun x => !delim x) (by rw [hA, hl]; exact h)
    rw [hA] at this
    simpa using this
  have h3 : Hid (∀ k, k < F → delim (l.getD (A + k) 0) = false) := by
    intro k hk
    have := fi_lt (l := l.drop A) (p := delim) (k := k) (by rw [hF]; exact hk)
    rw [getD_dropD] at this
    exact this
  have h4 : Hid (A + F < n → delim (l.getD (A + F) 0) = true) := by
    intro h
    have := fi_at (l := l.drop A) (p := delim) (by rw [hF, List.length_drop]; omega)
    rw [hF, getD_dropD] at this
    exact this
  have HL := Lib.hid hl
  clear hA hF hl
  generalize wordD l = W at *
  generalize restD l = R at *
  unfold maxLen at hm
  go_enter Tryd.func35, Tryd.ntmps35
  go_wp2
  go_loopw [4] (fun i wr => ∃ k : Nat, k ≤ A ∧ i = .int .i64 (k : Int) ∧ w = wr) (fun i _ => A - (intOf i).toNat)
  case atStart => exact ⟨0, Nat.zero_le _, rfl, rfl⟩
  case round =>
    obtain ⟨k, hk, rfl, rfl⟩ := hrel
    rcases (show k < A ∨ (k = A ∧ A < n) ∨ (k = A ∧ A = n) by omega) with hlt | hlt | hlt
    · have hi := run_index_str (P := Tryd.prog) w 9 l .i64 k Tryd.underlying9 (by rw [HL.out]; omega)
      have hkn : (k : Int) < (n : Int) := by omega
      have HD := delimC (l.getD k 0) w
      rw [h1.out k hlt] at HD
      generalize (l.getD k 0).toNat = x at *
      clear hx1 hx2
      go_wp2_with (go_at_call 44; (with_reducible refine HD.mono ?_); rintro e w2 ⟨rfl, rfl⟩)
      go_roundw
      case rel => exact ⟨k + 1, by omega, by go_num, by first | rfl | trivial⟩
      case measure => simp [intOf]; omega
    · obtain ⟨rfl, hkl⟩ := hlt
      have hi := run_index_str (P := Tryd.prog) w 9 l .i64 k Tryd.underlying9 (by rw [HL.out]; omega)
      have hkn : (k : Int) < (n : Int) := by omega
      have HD := delimC (l.getD k 0) w
      rw [h2.out hkl] at HD
      generalize (l.getD k 0).toNat = x at *
      go_wp2_with (go_at_call 44; (with_reducible refine HD.mono ?_); rintro e w2 ⟨rfl, rfl⟩)
      go_loopw [5] (fun i wr => ∃ j : Nat, j ≤ F ∧ i = .int .i64 ((k + j : Nat) : Int) ∧ w = wr) (fun i _ => k + F - (intOf i).toNat)
      case atStart => exact ⟨0, Nat.zero_le _, rfl, rfl⟩
      case round =>
        obtain ⟨j, hj, rfl, rfl⟩ := hrel
        clear hi HD
        rcases (show j < F ∨ (j = F ∧ k + F < n) ∨ (j = F ∧ k + F = n) by omega) with hlt | hlt | hlt
        · have hi := run_index_str (P := Tryd.prog) w 9 l .i64 (k + j) Tryd.underlying9 (by rw [HL.out]; omega)
          have HD := delimC (l.getD (k + j) 0) w
          rw [h3.out j hlt] at HD
          generalize (l.getD (k + j) 0).toNat = x at *
          have hkf : k + j < k + F := by omega
          obtain ⟨J, hJ⟩ : ∃ J, k + j = J := ⟨_, rfl⟩
          rw [hJ] at hi hkf ⊢
          have hkn : (J : Int) < (n : Int) := by omega
          have HJ := Lib.hid hJ
          clear hx1 hx2 hJ
          go_wp2_with (go_at_call 44; (with_reducible refine HD.mono ?_); rintro e w2 ⟨rfl, rfl⟩)
          go_roundw
          case rel => exact ⟨j + 1, by omega, by have := HJ.out; subst this; congr 1 <;> (push_cast; omega), by first | rfl | trivial⟩
          case measure => simp [intOf]; omega
        · obtain ⟨rfl, hkl⟩ := hlt
          have hi := run_index_str (P := Tryd.prog) w 9 l .i64 (k + j) Tryd.underlying9 (by rw [HL.out]; omega)
          have HD := delimC (l.getD (k + j) 0) w
          rw [h4.out hkl] at HD
          generalize (l.getD (k + j) 0).toNat = x at *
          have hkf : k ≤ k + j := by omega
          clear h1 h2 h3 h4
          generalize k + j = J at *
          have hkn : (J : Int) < (n : Int) := by omega
          have hkn2 : (k : Int) ≤ (J : Int) := by omega
          go_wp2_with (go_at_call 44; (with_reducible refine HD.mono ?_); rintro e w2 ⟨rfl, rfl⟩)
          go_quiet (fail)
          go_wp2
          go_ret2
          exact ⟨rfl, _, rfl⟩
        · obtain ⟨rfl, hkl⟩ := hlt
          have hkf : k ≤ k + j := by omega
          clear h1 h2 h3 h4
          generalize k + j = J at *
          obtain rfl : J = n := hkl
          have hkn2 : (k : Int) ≤ (J : Int) := by omega
          have hR : str R = ByteArray.empty := by rw [← hx2]; simp
          go_wp2
          go_quiet (fail)
          go_wp2
          go_ret2
          exact ⟨by rw [hR]; rfl, _, rfl⟩
    · obtain ⟨rfl, rfl⟩ := hlt
      obtain rfl : F = 0 := by omega
      rw [Nat.add_zero] at hx1 hx2
      clear h1 h2 h3 h4
      go_wp2
      go_loopw [5] (fun i wr => i = .int .i64 (k : Int) ∧ w = wr) (fun i _ => 0)
      case atStart => exact ⟨rfl, rfl⟩
      case round =>
        obtain ⟨rfl, rfl⟩ := hrel
        have hR : str R = ByteArray.empty := by rw [← hx2]; simp
        have hW : str W = ByteArray.empty := by rw [← hx1]; simp
        go_wp2
        go_quiet (fail)
        go_wp2
        go_ret2
        exact ⟨by rw [hR, hW]; rfl, _, rfl⟩
end Go.Proofs.YtcjkaciknfiekaaDoor
