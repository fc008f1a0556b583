/- Plain facts on whole numbers and their bits, with no program in them. -/
import Derived.WalkKit
import Derived.WalkLawsBesides
import Derived.WalkSpells
import Derived.Lib.Hide
namespace Go.Proofs.Ytfdiomghoheljaa
open Go.RowKit
set_option linter.unusedVariables false

theorem ret_int {k : IntKind} {a b : Int} (h : a = b) : Ending.returned (.int k a) = .returned (.int k b) := by rw [h]
theorem ret2 {k l : IntKind} {a b c d : Int} (h : a = b) (h' : c = d) : Ending.returned (.tuple #[.int k a, .int l c]) = .returned (.tuple #[.int k b, .int l d]) := by rw [h, h']
theorem ret_bool {a b : Bool} (h : a = b) : Ending.returned (.bool a) = .returned (.bool b) := by rw [h]

theorem xor_ones (x : Nat) (hx : x < 18446744073709551616) : x ^^^ 18446744073709551615 = 18446744073709551615 - x := by
  have h : (BitVec.ofNat 64 x ^^^ BitVec.allOnes 64).toNat = (~~~ (BitVec.ofNat 64 x)).toNat := by rw [BitVec.xor_allOnes]
  rw [BitVec.toNat_xor, BitVec.toNat_not, BitVec.toNat_allOnes, BitVec.toNat_ofNat, Nat.mod_eq_of_lt (by omega)] at h
  omega

def foldI (n : Int) : Int := if 0 ≤ n then 2 * n else -2 * n - 1
def unfoldI (n : Int) : Int := if n % 2 = 0 then n / 2 else -(n / 2) - 1

theorem fold_math (n : Int) (h0 : -9223372036854775808 ≤ n) (h1 : n ≤ 9223372036854775807) :
    bits BinOp.xor IntKind.u64 (IntKind.u64.wrap (wrap64 (n * 2))) (IntKind.u64.wrap (n / 9223372036854775808)) = foldI n := by
  unfold wrap64 foldI
  rw [IntKind.wrap_u64, IntKind.wrap_u64]
  rw [u64_xor _ _ (by omega) (by omega) (by omega) (by omega)]
  split
  · have e1 : n / 9223372036854775808 % 18446744073709551616 = 0 := by omega
    rw [e1]
    simp only [Int.toNat_zero, Nat.xor_zero]
    omega
  · have e1 : (n / 9223372036854775808 % 18446744073709551616).toNat = 18446744073709551615 := by omega
    rw [e1, xor_ones _ (by omega)]
    omega

theorem i64_xor (a b : Int) : bits BinOp.xor IntKind.i64 a b = wrap64 (((a % 18446744073709551616).toNat ^^^ (b % 18446744073709551616).toNat : Nat) : Int) := by
  unfold bits wrap64
  simp only []
  rw [BitVec.toNat_xor, BitVec.toNat_ofInt, BitVec.toNat_ofInt]
  show IntKind.wrap .i64 _ = _
  rw [IntKind.wrap_i64]
  rfl

theorem unfold_math (n : Int) (h0 : 0 ≤ n) (h1 : n ≤ 18446744073709551615) :
    bits BinOp.xor IntKind.i64 (n / 2) (wrap64 (-wrap64 (bits BinOp.and IntKind.u64 n 1))) = unfoldI n := by
  unfold unfoldI
  have ha : bits BinOp.and IntKind.u64 n 1 = n % 2 := by
    rw [u64_and _ _ (by omega) (by omega) (by omega) (by omega)]
    have : n.toNat &&& (1 : Int).toNat = n.toNat % 2 := by simp [Nat.and_one_is_mod]
    rw [this]; omega
  rw [ha, i64_xor]
  unfold wrap64
  split
  · rename_i h
    rw [h]
    simp only [Int.reduceAdd, Int.reduceMod, Int.reduceSub, Int.reduceNeg, Int.toNat_zero, Nat.xor_zero]
    omega
  · have h : n % 2 = 1 := by omega
    rw [h]
    have e : ((((-(((1 : Int) + 9223372036854775808) % 18446744073709551616 - 9223372036854775808)) + 9223372036854775808) % 18446744073709551616 - 9223372036854775808) % 18446744073709551616).toNat = 18446744073709551615 := by decide
    rw [e, xor_ones _ (by omega)]
    omega

/-- A number's bit. -/
def bitI (n : Int) (i : Nat) : Bool := n.toNat.testBit i

theorem bitI_nat (N i : Nat) : (((N / 2 ^ i : Nat) : Int) % 2 == 1) = bitI (N : Int) i := by
  unfold bitI
  rw [Int.toNat_natCast, Nat.testBit_eq_decide_div_mod_eq]
  generalize N / 2 ^ i = M
  rw [Bool.eq_iff_iff]
  simp only [beq_iff_eq, decide_eq_true_eq]
  omega

/-- A word of 32 bits, turned. -/
def turnI (n b : Int) : Int := (((n.toNat <<< (b % 32).toNat) % 4294967296 ||| n.toNat >>> (32 - (b % 32).toNat) : Nat) : Int)

theorem and31 (b : Int) : bits BinOp.and IntKind.u32 (b % 4294967296) 31 = b % 32 := by
  rw [u32_and _ _ (by omega) (by omega) (by omega) (by omega)]
  have : (b % 4294967296).toNat &&& (31 : Int).toNat = (b % 4294967296).toNat % 32 := Nat.and_two_pow_sub_one_eq_mod _ 5
  rw [this]; omega

theorem turn_math (n b : Int) (h0 : 0 ≤ n) (h1 : n ≤ 4294967295) :
    bits BinOp.or IntKind.u32 (IntKind.u32.wrap (n * 2 ^ (b % 32).toNat)) (n / 2 ^ (32 - b % 32).toNat) = turnI n b := by
  obtain ⟨N, rfl⟩ := Int.eq_ofNat_of_zero_le h0
  have e1 : (N : Int) * 2 ^ (b % 32).toNat = ((N * 2 ^ (b % 32).toNat : Nat) : Int) := by push_cast; rfl
  have e2 : (N : Int) / 2 ^ (32 - b % 32).toNat = ((N / 2 ^ (32 - b % 32).toNat : Nat) : Int) := by push_cast; rfl
  have e3 : N / 2 ^ (32 - b % 32).toNat ≤ N := Nat.div_le_self _ _
  have e4 : (32 - b % 32).toNat = 32 - (b % 32).toNat := by omega
  rw [e1, e2, IntKind.wrap_u32]
  have e5 : ((N * 2 ^ (b % 32).toNat : Nat) : Int) % 4294967296 = ((N * 2 ^ (b % 32).toNat % 4294967296 : Nat) : Int) := by
    generalize N * 2 ^ (b % 32).toNat = X
    omega
  rw [e5, u32_or_nat _ _ (by omega) (by omega)]
  unfold turnI
  rw [Int.toNat_natCast, Nat.shiftLeft_eq, Nat.shiftRight_eq_div_pow, e4]

theorem turn_bit (n b : Int) (h0 : 0 ≤ n) (h1 : n ≤ 4294967295) (i k : Nat) (hi : i < 32) (hk : (k : Int) = b % 32) :
    bitI (turnI n b) ((i + k) % 32) = bitI n i := by
  obtain ⟨N, rfl⟩ := Int.eq_ofNat_of_zero_le h0
  unfold bitI turnI
  rw [Int.toNat_natCast, Int.toNat_natCast]
  have hk' : (b % 32).toNat = k := by omega
  rw [hk']
  have hk2 : k < 32 := by omega
  have hN : N < 2 ^ 32 := by omega
  rw [Nat.testBit_or, show (4294967296 : Nat) = 2 ^ 32 from rfl, Nat.testBit_mod_two_pow, Nat.testBit_shiftLeft, Nat.testBit_shiftRight]
  by_cases h : i + k < 32
  · rw [Nat.mod_eq_of_lt h]
    have e32 : 32 ≤ 32 - k + (i + k) := by omega
    have z : N.testBit (32 - k + (i + k)) = false := Nat.testBit_lt_two_pow (Nat.lt_of_lt_of_le hN (Nat.pow_le_pow_right Nat.zero_lt_two e32))
    rw [z]
    have : i + k - k = i := by omega
    simp [this, h]
  · have e : (i + k) % 32 = i + k - 32 := by omega
    rw [e]
    have h2 : ¬ (i + k - 32 ≥ k) := by omega
    have h3 : 32 - k + (i + k - 32) = i := by omega
    simp [h2, h3]

/-- Has a number room in so many bits? -/
def roomI (n k : Int) : Bool := decide (64 ≤ k) || decide (n < ((2 ^ k.toNat : Nat) : Int))
theorem room_big (n k : Int) (h : 64 ≤ k) : roomI n k = true := by simp [roomI, h]
theorem room_small (n k : Int) (h : ¬ 64 ≤ k) : decide (n < ((2 ^ k.toNat : Nat) : Int)) = roomI n k := by simp [roomI, h]
theorem room_shift (n k : Int) (h0 : 0 ≤ n) (h1 : n ≤ 18446744073709551615) (h2 : 0 ≤ k) : (n / 2 ^ min k.toNat 64 == 0) = roomI n k := by
  obtain ⟨N, rfl⟩ := Int.eq_ofNat_of_zero_le h0
  have e : (N : Int) / 2 ^ min k.toNat 64 = ((N / 2 ^ min k.toNat 64 : Nat) : Int) := by push_cast; rfl
  rw [e, Bool.eq_iff_iff]
  by_cases h : 64 ≤ k
  · have : min k.toNat 64 = 64 := by omega
    rw [this, room_big _ _ h]
    have : N / 2 ^ 64 = 0 := by omega
    simp [this]
  · have : min k.toNat 64 = k.toNat := by omega
    rw [this]
    have hp : 0 < 2 ^ k.toNat := Nat.two_pow_pos _
    unfold roomI
    simp only [h, decide_false, Bool.false_or, beq_iff_eq, decide_eq_true_eq]
    have := Nat.div_eq_zero_iff_lt hp (x := N)
    omega

def fieldI (n a k : Int) : Int := (((n.toNat >>> a.toNat) &&& (18446744073709551615 >>> (64 - k.toNat)) : Nat) : Int)
def withI (n a k v : Int) : Int := (((n.toNat &&& (18446744073709551615 - ((18446744073709551615 >>> (64 - k.toNat)) <<< a.toNat) % 18446744073709551616)) ||| ((v.toNat <<< a.toNat) % 18446744073709551616) : Nat) : Int)

theorem nat_shr_int (N j : Nat) : (N : Int) / 2 ^ j = ((N >>> j : Nat) : Int) := by rw [Nat.shiftRight_eq_div_pow]; push_cast; rfl
theorem shr_le (N j : Nat) : N >>> j ≤ N := by rw [Nat.shiftRight_eq_div_pow]; exact Nat.div_le_self _ _
theorem nat_shl_wrap (N j : Nat) : IntKind.u64.wrap ((N : Int) * 2 ^ j) = (((N <<< j) % 18446744073709551616 : Nat) : Int) := by
  have e : (N : Int) * 2 ^ j = ((N <<< j : Nat) : Int) := by rw [Nat.shiftLeft_eq]; push_cast; rfl
  rw [e, IntKind.wrap_u64]
  generalize N <<< j = X
  omega
theorem ones_shr (j : Nat) : (18446744073709551615 : Int) / (2 : Int) ^ j = ((18446744073709551615 >>> j : Nat) : Int) := nat_shr_int 18446744073709551615 j

theorem field_math (n a k : Int) (h4 : 0 ≤ n) (h5 : n ≤ 18446744073709551615) (h2 : 0 ≤ k) (h3 : k ≤ 64) :
    bits BinOp.and IntKind.u64 (n / 2 ^ a.toNat) (18446744073709551615 / 2 ^ (64 - k).toNat) = fieldI n a k := by
  obtain ⟨N, rfl⟩ := Int.eq_ofNat_of_zero_le h4
  have e : (64 - k).toNat = 64 - k.toNat := by omega
  have h1 := shr_le N a.toNat
  have h2 := shr_le 18446744073709551615 (64 - k.toNat)
  rw [nat_shr_int, ones_shr, e, u64_and_nat _ _ (by omega) (by omega)]
  rfl

theorem with_math (n a k v : Int) (h4 : 0 ≤ n) (h5 : n ≤ 18446744073709551615) (h6 : 0 ≤ v) (h7 : v ≤ 18446744073709551615) (h2 : 0 ≤ k) (h3 : k ≤ 64) :
    bits BinOp.or IntKind.u64 (bits BinOp.andNot IntKind.u64 n (IntKind.u64.wrap (18446744073709551615 / 2 ^ (64 - k).toNat * 2 ^ a.toNat))) (IntKind.u64.wrap (v * 2 ^ a.toNat)) = withI n a k v := by
  obtain ⟨N, rfl⟩ := Int.eq_ofNat_of_zero_le h4
  obtain ⟨V, rfl⟩ := Int.eq_ofNat_of_zero_le h6
  have e : (64 - k).toNat = 64 - k.toNat := by omega
  rw [ones_shr, nat_shl_wrap, nat_shl_wrap, e, u64_andNot_nat _ _ (by omega) (Nat.mod_lt _ (by decide)), u64_or_nat _ _ (Nat.lt_of_le_of_lt Nat.and_le_left (by omega)) (Nat.mod_lt _ (by decide))]
  rfl

theorem ones_bit (k i : Nat) (hk : k ≤ 64) : (18446744073709551615 >>> (64 - k)).testBit i = decide (i < k) := by
  rw [Nat.testBit_shiftRight, show (18446744073709551615 : Nat) = 2 ^ 64 - 1 from rfl, Nat.testBit_two_pow_sub_one]
  rw [Bool.eq_iff_iff]
  simp only [decide_eq_true_eq]
  omega

theorem field_bit (n a k : Int) (h3 : k ≤ 64) (i : Nat) :
    bitI (fieldI n a k) i = (decide (i < k.toNat) && bitI n (a.toNat + i)) := by
  unfold bitI fieldI
  rw [Int.toNat_natCast, Nat.testBit_and, ones_bit _ _ (by omega), Nat.testBit_shiftRight, Bool.and_comm]

theorem not_bit (x i : Nat) (hx : x < 18446744073709551616) (hi : i < 64) : (18446744073709551615 - x).testBit i = !x.testBit i := by
  have := @Nat.testBit_two_pow_sub_succ x 64 hx i
  have e : 2 ^ 64 - (x + 1) = 18446744073709551615 - x := by omega
  rw [e] at this
  rw [this]
  simp [hi]

theorem with_bit (n a k v : Int) (h0 : 0 ≤ a) (h2 : 0 ≤ k) (h3 : k ≤ 64 - a) (hv : v < ((2 ^ k.toNat : Nat) : Int)) (i : Nat) (hi : i < 64) :
    bitI (withI n a k v) i = if a.toNat ≤ i ∧ i < a.toNat + k.toNat then bitI v (i - a.toNat) else bitI n i := by
  unfold bitI withI
  have hm : (18446744073709551615 >>> (64 - k.toNat)) <<< a.toNat % 18446744073709551616 < 18446744073709551616 := Nat.mod_lt _ (by decide)
  rw [Int.toNat_natCast, Nat.testBit_or, Nat.testBit_and, not_bit _ _ hm hi, show (18446744073709551616 : Nat) = 2 ^ 64 from rfl, Nat.testBit_mod_two_pow, Nat.testBit_mod_two_pow, Nat.testBit_shiftLeft, Nat.testBit_shiftLeft, ones_bit _ _ (by omega)]
  simp only [hi, decide_true, Bool.true_and, ge_iff_le]
  by_cases c1 : a.toNat ≤ i
  · by_cases c2 : i < a.toNat + k.toNat
    · have c3 : i - a.toNat < k.toNat := by omega
      simp [c1, c2, c3]
    · have c3 : ¬ i - a.toNat < k.toNat := by omega
      have e64 : 2 ^ k.toNat ≤ 2 ^ (i - a.toNat) := Nat.pow_le_pow_right Nat.zero_lt_two (by omega)
      have z : v.toNat.testBit (i - a.toNat) = false := by
        apply Nat.testBit_lt_two_pow
        have hp := Nat.two_pow_pos k.toNat
        generalize 2 ^ k.toNat = P at hv e64 hp
        generalize 2 ^ (i - a.toNat) = Q at e64
        omega
      simp [c1, c2, c3, z]
  · simp [c1]

/-- How many bits a number has, by the first k shifts. -/
def widthTo (N : Nat) : Nat → Int
  | 0 => 0
  | k + 1 => if N / 2 ^ k = 0 then widthTo N k else ((k + 1 : Nat) : Int)
def widthI (n : Int) : Int := widthTo n.toNat 64
/-- The same, by the bits themselves. -/
def widthRef (N : Nat) : Nat → Int
  | 0 => 0
  | k + 1 => if bitI N k = true then ((k + 1 : Nat) : Int) else widthRef N k
theorem width_same (N k : Nat) (h : N / 2 ^ k = 0) : widthTo N (k + 1) = widthTo N k := by simp [widthTo, h]
theorem width_next (N k : Nat) (h : ¬ N / 2 ^ k = 0) : widthTo N (k + 1) = ((k + 1 : Nat) : Int) := by simp [widthTo, h]
theorem shr_zero (N k : Nat) : ((N : Int) / 2 ^ k == 0) = decide (N / 2 ^ k = 0) := by
  rw [nat_shr_int, Nat.shiftRight_eq_div_pow, Bool.eq_iff_iff]
  simp only [beq_iff_eq, decide_eq_true_eq]
  omega

theorem widthRef_eq_of (N : Nat) : ∀ k, N < 2 ^ k → widthRef N k = widthTo N k
  | 0, _ => rfl
  | k + 1, h => by
    have hb : bitI N k = decide (N / 2 ^ k % 2 = 1) := by
      unfold bitI; rw [Int.toNat_natCast, Nat.testBit_eq_decide_div_mod_eq]
    have hp := Nat.two_pow_pos k
    rw [Nat.pow_succ] at h
    by_cases hz : N / 2 ^ k = 0
    · have h1 := (Nat.div_eq_zero_iff_lt hp).mp hz
      rw [width_same N k hz, widthRef, hb, hz]
      simpa using widthRef_eq_of N k h1
    · have h1 : N / 2 ^ k < 2 := (Nat.div_lt_iff_lt_mul hp).mpr (by omega)
      have h2 : N / 2 ^ k = 1 := Nat.le_antisymm (Nat.lt_succ_iff.mp h1) (Nat.pos_of_ne_zero hz)
      rw [width_next N k hz, widthRef, hb, h2]
      rfl
theorem widthRef_eq (N : Nat) (h : N < 18446744073709551616) : widthRef N 64 = widthI N := widthRef_eq_of N 64 h

/-- The number whose bytes, the lowest first, a list is. -/
def leNum : List Int → Int
  | [] => 0
  | x :: l => x + 256 * leNum l
def IsBytes (l : List Int) : Prop := ∀ x ∈ l, 0 ≤ x ∧ x ≤ 255
theorem IsBytes.getD {l : List Int} (h : IsBytes l) (i : Nat) : 0 ≤ l.getD i 0 ∧ l.getD i 0 ≤ 255 := by
  rw [List.getD_eq_getElem?_getD]
  rcases Nat.lt_or_ge i l.length with hi | hi
  · rw [List.getElem?_eq_getElem hi]; exact h _ (List.getElem_mem hi)
  · rw [List.getElem?_eq_none hi]; simp
theorem leNum_bd : ∀ (l : List Int), IsBytes l → 0 ≤ leNum l ∧ leNum l < 256 ^ l.length
  | [], _ => by simp [leNum]
  | x :: l, h => by
    have h1 := leNum_bd l (fun y hy => h y (List.mem_cons_of_mem _ hy))
    have h2 := h x List.mem_cons_self
    rw [List.length_cons, Int.pow_succ, leNum]
    generalize (256 : Int) ^ l.length = P at h1 ⊢
    omega
theorem leNum_snoc : ∀ (l : List Int) (x : Int), leNum (l ++ [x]) = leNum l + x * 256 ^ l.length
  | [], x => by simp [leNum]
  | y :: l, x => by
    rw [List.cons_append, leNum, leNum_snoc l x, leNum, List.length_cons, Int.pow_succ, Int.mul_add, Int.add_assoc, ← Int.mul_assoc, Int.mul_comm 256 x, Int.mul_assoc, Int.mul_comm 256 (256 ^ _)]
theorem getD_of_lt (l : List Int) (k : Nat) (h : k < l.length) : l.getD k 0 = l[k] := by simp [List.getD_eq_getElem?_getD, h]
theorem leNum_take (l : List Int) (k : Nat) (h : k < l.length) : leNum (l.take (k + 1)) = leNum (l.take k) + l.getD k 0 * 256 ^ k := by
  rw [List.take_succ_eq_append_getElem h, leNum_snoc, List.length_take_of_le (by omega), getD_of_lt l k h]
theorem leNum_drop (l : List Int) (k : Nat) (h : k < l.length) : leNum (l.drop k) = l.getD k 0 + 256 * leNum (l.drop (k + 1)) := by
  rw [List.drop_eq_getElem_cons h, leNum, getD_of_lt l k h]
theorem IsBytes.take {l : List Int} (h : IsBytes l) (k : Nat) : IsBytes (l.take k) := fun x hx => h x (List.mem_of_mem_take hx)
theorem IsBytes.drop {l : List Int} (h : IsBytes l) (k : Nat) : IsBytes (l.drop k) := fun x hx => h x (List.mem_of_mem_drop hx)
theorem pow256 (k : Nat) : (256 : Int) ^ k = ((2 ^ (8 * k) : Nat) : Int) := by
  rw [Nat.pow_mul, Int.natCast_pow]; rfl
theorem pow256_le (k j : Nat) (h : k ≤ j) : (256 : Int) ^ k ≤ 256 ^ j := by
  rw [pow256, pow256]
  exact Int.ofNat_le.mpr (Nat.pow_le_pow_right (by decide) (by omega))
theorem leNum_le (l : List Int) (h : IsBytes l) (hl : l.length ≤ 8) : 0 ≤ leNum l ∧ leNum l ≤ 18446744073709551615 := by
  have h1 := leNum_bd l h
  have h2 := pow256_le _ _ hl
  have h3 : (256 : Int) ^ 8 = 18446744073709551616 := by decide
  omega
theorem or_join (n x : Int) (k : Nat) (h0 : 0 ≤ n) (h1 : n < 256 ^ k) (h2 : 0 ≤ x) (h3 : x ≤ 255) (hk : k ≤ 7) :
    bits BinOp.or IntKind.u64 n (IntKind.u64.wrap (x * 2 ^ (8 * k))) = n + x * 256 ^ k := by
  obtain ⟨N, rfl⟩ := Int.eq_ofNat_of_zero_le h0
  obtain ⟨X, rfl⟩ := Int.eq_ofNat_of_zero_le h2
  rw [pow256] at h1 ⊢
  have e1 : (X : Int) * 2 ^ (8 * k) = ((X * 2 ^ (8 * k) : Nat) : Int) := by push_cast; rfl
  have e7 : 2 ^ (8 * k) ≤ 2 ^ 56 := Nat.pow_le_pow_right (by decide) (by omega)
  have e8 : X * 2 ^ (8 * k) ≤ 255 * 2 ^ 56 := Nat.mul_le_mul (by omega) e7
  have e9 : N < 2 ^ (8 * k) := by omega
  rw [e1, IntKind.wrap_u64]
  have e2 : ((X * 2 ^ (8 * k) : Nat) : Int) % 18446744073709551616 = ((X * 2 ^ (8 * k) : Nat) : Int) := by omega
  rw [e2, u64_or_nat _ _ (by omega) (by omega), Nat.or_comm, nat_join (8 * k) (X * 2 ^ (8 * k)) N (Nat.mul_mod_left _ _) e9]
  push_cast
  omega
end Go.Proofs.Ytfdiomghoheljaa
