/- Contracts of the reference of layer 8. -/
import Derived.Test.YtilgcphpieiliaaHost4
import Derived.Test.YtilgcphpieiliaaAsciiRef3
import Derived.Deep.RegionHeld3
namespace Go.Proofs.Ytilgcphpieiliaa
open Go.RowKit
set_option linter.unusedVariables false

theorem first_str {P : Program} (w : World) (t : TypeId) (l : List UInt8) (ht : P.underlying t = some .string) (h : 0 < l.length) : (Instr.index t (.string (str l)) (.int .i64 0)).run P w = .ok (.int .u8 ((l.getD 0 0).toNat : Int)) w :=
  run_index_str w t l .i64 0 ht h

theorem u8_is (x : UInt8) (k : Nat) (hk : k < 256) : (x == UInt8.ofNat k) = ((x.toNat : Int) == (k : Int)) := by
  rw [Bool.eq_iff_iff]
  simp only [beq_iff_eq]
  constructor
  · rintro rfl
    rw [UInt8.toNat_ofNat', Nat.mod_eq_of_lt hk]
  · intro h
    refine UInt8.toNat_inj.1 ?_
    rw [UInt8.toNat_ofNat', Nat.mod_eq_of_lt hk]
    omega

end Go.Proofs.Ytilgcphpieiliaa
