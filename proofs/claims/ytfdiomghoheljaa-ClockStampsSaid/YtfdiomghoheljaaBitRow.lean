/- Contracts of layer 1's functions over slices of bytes. -/
import Derived.Test.YtfdiomghoheljaaBitMem
import Derived.Test.YtfdiomghoheljaaMem
import Derived.BigRegion
namespace Go.Proofs.Ytfdiomghoheljaa
open Go.RowKit
set_option linter.unusedVariables false

theorem sameC (l : List Int) (a b : Option Addr) (c d : Nat) (w : World) (ha : Reads w a (l.map (Value.int .u8))) (hb : Reads w b (l.map (Value.int .u8))) (hm : l.length ≤ maxLen) :
    Calls Try.prog 25 #[.slice a l.length c, .slice b l.length d] w fun e w' => e = .returned (.bool true) ∧ ∃ n, w' = w.drewN n := by
  unfold maxLen at hm
  generalize hn : l.length = n at hm ⊢
  have hN := Lib.hid hn
  clear hn
  go_enter Try.func25, Try.ntmps25
  go_wp2
  go_loopw [5] (fun i wr => ∃ k : Nat, k ≤ n ∧ i = .int .i64 k ∧ ∃ m, wr = w.drewN m) (fun i _ => n - (intOf i).toNat)
  case atStart => exact ⟨0, Nat.zero_le _, rfl, 0, rfl⟩
  case round =>
    obtain ⟨k, hk, rfl, m, rfl⟩ := hrel
    by_cases hlt : k < n
    · obtain ⟨B, off, rfl, c0⟩ := ha.at k (by rw [hN.out]; exact hlt)
      obtain ⟨B', off', rfl, c1⟩ := hb.at k (by rw [hN.out]; exact hlt)
      generalize l.getD k 0 = x at c0 c1
      have hlt' : (k : Int) < (n : Int) := by omega
      clear ha hb
      go_wp2_with fail
      go_quiet (fail)
      go_wp2
      go_roundw
      case rel => exact ⟨k + 1, by omega, by go_num, _, rfl⟩
      case measure => simp [intOf]; omega
    · go_wp2
      go_ret
      exact ⟨rfl, m, rfl⟩

end Go.Proofs.Ytfdiomghoheljaa
