/- Contracts of layer 8: where a byte may be; labels. -/
import Derived.Test.YtilgcphpieiliaaHostPlain2
import Derived.Test.YtilgcphpieiliaaAscii4
import Derived.Test.YtilgcphpieiliaaAsciiText
namespace Go.Proofs.Ytilgcphpieiliaa
open Go.RowKit
set_option linter.unusedVariables false

/-- May a byte be at an end of a label? -/
def tipB (x : UInt8) : Bool := (decide (97 ≤ x.toNat) && decide (x.toNat ≤ 122)) || (decide (48 ≤ x.toNat) && decide (x.toNat ≤ 57)) || decide (x.toNat = 95)

/-- Where a byte may be. -/
def placeN (x : UInt8) : Int := (if hexB x = true then 1 else 0) + (if tipB x = true then 2 else 0) + (if signB x = true then 4 else 0)

/-- One of the three places. -/
def spotB : Nat → UInt8 → Bool
  | 1, x => hexB x
  | 2, x => tipB x
  | _, x => signB x

theorem spot_and (A : Nat) (h : A = 1 ∨ A = 2 ∨ A = 4) (x : UInt8) : (bits BinOp.and IntKind.i64 (placeN x) (A : Int) == 0) = !spotB A x := by
  unfold placeN
  rcases h with rfl | rfl | rfl
  · show _ = !hexB x
    cases hexB x <;> cases tipB x <;> cases signB x <;> kernel_rfl
  · show _ = !tipB x
    cases hexB x <;> cases tipB x <;> cases signB x <;> kernel_rfl
  · show _ = !signB x
    cases hexB x <;> cases tipB x <;> cases signB x <;> kernel_rfl

theorem all_no {l : List UInt8} {p : UInt8 → Bool} {k : Nat} (hk : k < l.length) (h : p (l.getD k 0) = false) : l.all p = false := by
  rw [Bool.eq_false_iff]
  intro c
  have hm : l.getD k 0 ∈ l := by
    simp only [List.getD, List.getElem?_eq_getElem hk, Option.getD_some]
    exact List.getElem_mem _
  rw [List.all_eq_true.1 c _ hm] at h
  cases h

theorem all_yes {l : List UInt8} {p : UInt8 → Bool} (h : ∀ j, j < l.length → p (l.getD j 0) = true) : l.all p = true := by
  rw [List.all_eq_true]
  intro x hx
  obtain ⟨i, hi, rfl⟩ := List.getElem_of_mem hx
  have := h i hi
  simpa [List.getD, hi] using this

theorem take_one {l : List UInt8} (h : 1 ≤ l.length) : l.take 1 = [l.getD 0 0] := by
  cases l with
  | nil => simp at h
  | cons x xs => rfl

theorem drop_last {l : List UInt8} (h : 1 ≤ l.length) : l.drop (l.length - 1) = [l.getD (l.length - 1) 0] := by
  rw [List.drop_eq_getElem_cons (by omega), List.drop_eq_nil_of_le (by omega)]
  simp [List.getD, show l.length - 1 < l.length by omega]

theorem tip_sign (x : UInt8) : tipB x = (signB x && !(x == 45)) := by
  have e : (x == 45) = decide (x.toNat = 45) := by
    rw [Bool.eq_iff_iff, decide_eq_true_iff]
    simp only [beq_iff_eq]
    exact ⟨fun h => by rw [h]; rfl, fun h => UInt8.toNat_inj.1 h⟩
  unfold tipB signB
  rw [e]
  generalize x.toNat = n
  rw [Bool.eq_iff_iff]
  simp
  omega

theorem label_parts (l : List UInt8) (h1 : 1 ≤ l.length) (h2 : l.length ≤ 63) : labelB l = (l.all signB && ((l.take 1).all tipB && (l.drop (l.length - 1)).all tipB)) := by
  unfold labelB
  rw [decide_eq_true h1, decide_eq_true h2, take_one h1, drop_last h1]
  simp only [List.all_cons, List.all_nil, Bool.and_true, Bool.true_and, tip_sign]
  have hm : ∀ k, k < l.length → l.getD k 0 ∈ l := fun k hk => by
    simp only [List.getD, List.getElem?_eq_getElem hk, Option.getD_some]
    exact List.getElem_mem _
  cases c : l.all signB with
  | false => simp
  | true =>
    rw [List.all_eq_true.1 c _ (hm 0 (by omega)), List.all_eq_true.1 c _ (hm (l.length - 1) (by omega))]
    simp

end Go.Proofs.Ytilgcphpieiliaa
