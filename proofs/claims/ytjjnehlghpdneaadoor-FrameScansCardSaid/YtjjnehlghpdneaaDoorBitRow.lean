/- Contracts of layer 1's functions over slices of bytes. -/
import Derived.Test.YtjjnehlghpdneaaDoorBitMem
import Derived.Test.YtjjnehlghpdneaaDoorMem
import Derived.BigRegion
namespace Go.Proofs.YtjjnehlghpdneaaDoor
open Go.RowKit
set_option linter.unusedVariables false

theorem sameC (l : List Int) (a b : Option Addr) (c d : Nat) (w : World) (ha : Reads w a (l.map (Value.int .u8))) (hb : Reads w b (l.map (Value.int .u8))) (hm : l.length ≤ maxLen) :
    Calls Tryd.prog 9 #[.slice a l.length c, .slice b l.length d] w fun e w' => e = .returned (.bool true) ∧ ∃ n, w' = w.drewN n := by
  unfold maxLen at hm
  generalize hn : l.length = n at hm ⊢
  have hN := Lib.hid hn
  clear hn
  go_enter Tryd.func9, Tryd.ntmps9
  go_wp2
  go_loopw [5] (fun i wr => ∃ k : Nat, k ≤ n ∧ i = .int .i64 k ∧ ∃ m, wr = w.drewN m) (fun i _ => n - (intOf i).toNat)
  case atStart => exact ⟨0, Nat.zero_le _, rfl, 0, rfl⟩
  case round =>
    obtain ⟨k, hk, rfl, m, rfl⟩ := hrel
    by_cases hlt : k < n
    · obtain ⟨B, off, rfl, c0⟩ := ha.at k (by rw [hN.out]; exact hlt)
      obtain ⟨B', off', rfl, c1⟩ := hb.at k (by rw [hN.out]; exact hlt)
      generalize l.getD k 0 = x at c0 c1
      have hlt' : (k : Int) < (n : Int) := by omega
      clear ha hb
      go_wp2_with fail
      go_quiet (fail)
      go_wp2
      go_roundw
      case rel => exact ⟨k + 1, by omega, by go_num, _, rfl⟩
      case measure => simp [intOf]; omega
    · go_wp2
      go_ret
      exact ⟨rfl, m, rfl⟩

theorem numberShort (a : Option Addr) (c : Nat) (w : World) :
    Calls Tryd.prog 36 #[.slice a 0 c] w fun e w' => e = .returned (.tuple #[.int .u64 0, .int .i64 2]) ∧ w = w' := by
  go_enter Tryd.func36, Tryd.ntmps36
  go_wp2
  go_ret2
  exact ⟨rfl, rfl⟩

theorem numberLong (a : Option Addr) (n c : Nat) (w : World) (h : 8 < n) (hm : n ≤ maxLen) :
    Calls Tryd.prog 36 #[.slice a n c] w fun e w' => e = .returned (.tuple #[.int .u64 0, .int .i64 3]) ∧ w = w' := by
  unfold maxLen at hm
  have h0 : ((n : Int) == 0) = false := by simp; omega
  go_enter Tryd.func36, Tryd.ntmps36
  go_wp2
  go_ret2
  exact ⟨rfl, rfl⟩

theorem numberC (l : List Int) (a : Option Addr) (c : Nat) (w : World) (ha : Reads w a (l.map (Value.int .u8))) (hl : IsBytes l) (h1 : 1 ≤ l.length) (h8 : l.length ≤ 8) :
    Calls Tryd.prog 36 #[.slice a l.length c] w fun e w' => e = .returned (.tuple #[.int .u64 (leNum l), .int .i64 0]) ∧ w = w' := by
  generalize hn : l.length = n at h1 h8 ⊢
  have hN := Lib.hid hn
  clear hn
  have h0 : ((n : Int) == 0) = false := by simp; omega
  go_enter Tryd.func36, Tryd.ntmps36
  go_wp2
  go_loop [4, 14] (fun v i => ∃ k : Nat, k ≤ n ∧ i = .int .i64 k ∧ v = .int .u64 (leNum (l.take k))) (fun _ i => n - (intOf i).toNat)
  case atStart => exact ⟨0, Nat.zero_le _, rfl, rfl⟩
  case round =>
    obtain ⟨k, hk, rfl, rfl⟩ := hrel
    by_cases hlt : k < n
    · obtain ⟨B, off, rfl, c0⟩ := ha.at k (by rw [hN.out]; exact hlt)
      have hx := hl.getD k
      have hb := leNum_bd _ (hl.take k)
      rw [List.length_take_of_le (by rw [hN.out]; omega)] at hb
      have hT := Lib.hid (leNum_take l k (by rw [hN.out]; exact hlt))
      have hO := Lib.hid (or_join _ _ k hb.1 hb.2 hx.1 hx.2 (by omega))
      generalize l.getD k 0 = x at c0 hx hT hO
      have hlt' : (k : Int) < (n : Int) := by omega
      clear ha hb
      go_wp2
      go_round
      case rel => exact ⟨k + 1, by omega, by go_num, by rw [hT.out, ← hO.out]⟩
      case measure => simp [intOf]; omega
    · go_wp2
      go_ret2
      have : k = n := by omega
      exact ⟨ret2 (by rw [this, List.take_of_length_le (by rw [hN.out]; omega)]) rfl, rfl⟩

theorem refNumberC (l : List Int) (a : Option Addr) (c : Nat) (w : World) (ha : Reads w a (l.map (Value.int .u8))) (hl : IsBytes l) (h8 : l.length ≤ 8) :
    Calls Tryd.prog 28 #[.slice a l.length c] w fun e w' => e = .returned (.int .u64 (leNum l)) ∧ w = w' := by
  generalize hn : l.length = n at h8 ⊢
  have hN := Lib.hid hn
  clear hn
  go_enter Tryd.func28, Tryd.ntmps28
  go_wp2
  go_loop [3, 4] (fun v i => ∃ k : Nat, k ≤ n ∧ i = .int .i64 ((k : Int) - 1) ∧ v = .int .u64 (leNum (l.drop k))) (fun _ i => (intOf i + 1).toNat)
  case atStart => exact ⟨n, Nat.le_refl _, rfl, by rw [List.drop_of_length_le (by rw [hN.out]; omega)]; rfl⟩
  case round =>
    obtain ⟨k, hk, rfl, rfl⟩ := hrel
    by_cases hlt : 0 < k
    · obtain ⟨j, rfl⟩ : ∃ j, k = j + 1 := ⟨k - 1, by omega⟩
      obtain ⟨B, off, rfl, c0⟩ := ha.at j (by rw [hN.out]; omega)
      have hx := hl.getD j
      have hT := Lib.hid (leNum_drop l j (by rw [hN.out]; omega))
      have hb := leNum_le _ (hl.drop j) (by rw [List.length_drop, hN.out]; omega)
      rw [hT.out] at hb
      have hb2 := (leNum_bd _ (hl.drop (j + 1))).1
      generalize l.getD j 0 = x at c0 hx hT hb
      generalize leNum (l.drop (j + 1)) = M at hb hT hb2 ⊢
      clear ha
      have e : (((j + 1 : Nat) : Int) - 1) = (j : Int) := by omega
      rw [e]
      clear e
      go_wp2
      go_round
      case rel => exact ⟨j, by omega, rfl, by rw [hT.out]; congr 1; omega⟩
      case measure => simp [intOf]
    · have : k = 0 := by omega
      subst this
      go_wp2
      go_ret
      exact ⟨rfl, rfl⟩
end Go.Proofs.YtjjnehlghpdneaaDoor
