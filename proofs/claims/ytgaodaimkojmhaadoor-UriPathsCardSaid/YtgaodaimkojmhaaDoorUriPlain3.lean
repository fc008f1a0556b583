/- Ports of five digits in plain words. No program in it. -/
import Derived.Test.YtgaodaimkojmhaaDoorUriPlain2
import Derived.Test.YtgaodaimkojmhaaDoorItoaPlain
namespace Go.Proofs.YtgaodaimkojmhaaDoor
open Go.RowKit
set_option linter.unusedVariables false

/-- A number's last five digits. -/
def fiveL (M : Nat) : List UInt8 := [UInt8.ofNat (48 + M / 10000 % 10), UInt8.ofNat (48 + M / 1000 % 10), UInt8.ofNat (48 + M / 100 % 10), UInt8.ofNat (48 + M / 10 % 10), UInt8.ofNat (48 + M % 10)]
/-- What the number's divisor is in each round. -/
def tenN : Nat → Nat
  | 0 => 10000
  | 1 => 1000
  | 2 => 100
  | 3 => 10
  | 4 => 1
  | _ => 0

theorem five_digit (M : Nat) : ∀ x ∈ fiveL M, 48 ≤ x.toNat ∧ x.toNat ≤ 57 := by
  intro x hx
  unfold fiveL at hx
  simp only [List.mem_cons, List.not_mem_nil, or_false] at hx
  rcases hx with rfl | rfl | rfl | rfl | rfl <;> (rw [digit_toNat _ (by omega)]; omega)

theorem five_val (M : Nat) (h : M ≤ 65535) : numV (fiveL M) = M := by
  unfold numV fiveL
  simp only [List.foldl_cons, List.foldl_nil]
  rw [digit_toNat _ (by omega), digit_toNat _ (by omega), digit_toNat _ (by omega), digit_toNat _ (by omega), digit_toNat _ (by omega)]
  omega

theorem port_five (M : Nat) (h : M ≤ 65535) : portB (58 :: fiveL M) = true := by
  have hl : lead (fiveL M) = 5 := by
    unfold lead
    have : (fiveL M).findIdx (fun x => !digit x) = (fiveL M).length := List.findIdx_eq_length.2 fun x hx => by
      have := five_digit M x hx
      unfold digit
      rw [decide_eq_true this.1, decide_eq_true this.2]
      rfl
    exact this
  unfold portB
  rw [List.drop_succ_cons, List.drop_zero, hl, five_val M h, decide_eq_true h]
  simp [fiveL]

theorem five_seen (M : Nat) : ∀ x ∈ (58 :: fiveL M : List UInt8), ([47, 63, 35] : List UInt8).contains x = false ∧ seenB x = true := by
  intro x hx
  rcases List.mem_cons.1 hx with rfl | hx
  · decide +kernel
  · have := five_digit M x hx
    have hb := byte_all (fun x => !(decide (48 ≤ x.toNat) && decide (x.toNat ≤ 57)) || (!([47, 63, 35] : List UInt8).contains x && seenB x)) (by decide +kernel) x
    rw [decide_eq_true this.1, decide_eq_true this.2] at hb
    simpa [Bool.and_eq_true] using hb
end Go.Proofs.YtgaodaimkojmhaaDoor
