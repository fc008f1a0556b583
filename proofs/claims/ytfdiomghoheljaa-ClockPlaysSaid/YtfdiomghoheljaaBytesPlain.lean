/- A number's bytes, the lowest first: plain, with no program in it. -/
import Derived.Test.YtfdiomghoheljaaPlain
namespace Go.Proofs.Ytfdiomghoheljaa
open Go.RowKit
set_option linter.unusedVariables false

/-- The lowest bytes of a number, the lowest first. -/
def lowBytes (n : Int) (k : Nat) : List Int := (List.range k).map fun i => n / 2 ^ (8 * i) % 256
theorem lowBytes_snoc (n : Int) (k : Nat) : lowBytes n (k + 1) = lowBytes n k ++ [n / 2 ^ (8 * k) % 256] := by
  unfold lowBytes
  rw [List.range_succ, List.map_append]; rfl
theorem lowBytes_length (n : Int) (k : Nat) : (lowBytes n k).length = k := by simp [lowBytes]
theorem lowBytes_succ (n : Int) (k : Nat) : lowBytes n (k + 1) = n % 256 :: lowBytes (n / 256) k := by
  unfold lowBytes
  rw [List.range_succ_eq_map, List.map_cons, List.map_map]
  congr 1
  · simp
  · apply List.map_congr_left
    intro i _
    show n / 2 ^ (8 * (i + 1)) % 256 = n / 256 / 2 ^ (8 * i) % 256
    rw [Int.ediv_ediv_of_nonneg (by omega)]
    congr 2
    rw [Nat.mul_add, Int.pow_add, Int.mul_comm]
    rfl
theorem lowBytes_leNum : ∀ (l : List Int), IsBytes l → lowBytes (leNum l) l.length = l
  | [], _ => rfl
  | x :: l, h => by
    have hx := h x List.mem_cons_self
    have ih := lowBytes_leNum l (fun y hy => h y (List.mem_cons_of_mem _ hy))
    rw [List.length_cons, lowBytes_succ, leNum]
    have e1 : (x + 256 * leNum l) % 256 = x := by omega
    have e2 : (x + 256 * leNum l) / 256 = leNum l := by omega
    rw [e1, e2, ih]
theorem lowBytes_bytes (n : Int) (k : Nat) : IsBytes (lowBytes n k) := fun x hx => by
  unfold lowBytes at hx
  obtain ⟨i, -, rfl⟩ := List.mem_map.mp hx
  omega
theorem leNum_lowBytes : ∀ (k : Nat) (n : Int), 0 ≤ n → n < 256 ^ k → leNum (lowBytes n k) = n
  | 0, n, h0, h => by simp [lowBytes, leNum] at h ⊢; omega
  | k + 1, n, h0, h => by
    rw [lowBytes_succ, leNum, leNum_lowBytes k (n / 256) (by omega) (by rw [Int.pow_succ] at h; generalize (256 : Int) ^ k = P at h ⊢; omega)]
    omega
theorem lowBytes4 (n : Nat) (h : n < 4294967296) : leNum (lowBytes (n : Int) 4) = (n : Int) := leNum_lowBytes 4 _ (by omega) (by show (n : Int) < 4294967296; omega)
end Go.Proofs.Ytfdiomghoheljaa
