/- Plain facts on sums of 32 bits, with no program in them. -/
import Derived.Test.YtjjnehlghpdneaaDoorPlain
namespace Go.Proofs.YtjjnehlghpdneaaDoor
open Go.RowKit
set_option linter.unusedVariables false

/-- A sum on its way, a bit further. -/
def cStep (x : Nat) : Nat := if x % 2 = 1 then (x / 2) ^^^ 3988292384 else x / 2
def cStep4 (x : Nat) : Nat := cStep (cStep (cStep (cStep x)))
def cStep8 (x : Nat) : Nat := cStep4 (cStep4 x)
/-- A sum on its way, a byte further. -/
def cByte (s c : Nat) : Nat := cStep8 (s ^^^ c)
/-- What four steps do to the lowest four bits. -/
def cTab : List Nat := [0, 498536548, 997073096, 651767980, 1994146192, 1802195444, 1303535960, 1342533948, 3988292384, 4027552580, 3604390888, 3412177804, 2607071920, 2262029012, 2685067896, 3183342108]
/-- A sum on its way, behind bytes. -/
def cRun (s : Nat) (l : List Int) : Nat := l.foldl (fun s c => cByte s c.toNat) s
/-- A sum on its way, behind so many bytes 0. -/
def cZeros (s : Nat) : Nat → Nat
  | 0 => s
  | n + 1 => cZeros (cStep8 s) n

theorem cZeros_succ (s n : Nat) : cZeros s (n + 1) = cZeros (cStep8 s) n := rfl

theorem cStep_xor (a b : Nat) : cStep (a ^^^ b) = cStep a ^^^ cStep b := by
  have h1 : (a ^^^ b) / 2 = a / 2 ^^^ b / 2 := by
    have := Nat.shiftRight_xor_distrib (a := a) (b := b) (i := 1)
    simpa [Nat.shiftRight_eq_div_pow] using this
  have h2 : (a ^^^ b) % 2 = (a % 2 + b % 2) % 2 := by
    have e0 := Nat.testBit_xor a b 0
    simp only [Nat.testBit_zero] at e0
    clear h1
    generalize a ^^^ b = c at e0 ⊢
    rcases Nat.mod_two_eq_zero_or_one a with ha | ha <;> rcases Nat.mod_two_eq_zero_or_one b with hb | hb <;> rcases Nat.mod_two_eq_zero_or_one c with hc | hc <;> simp [ha, hb, hc] at e0 ⊢
  unfold cStep
  rw [h1, h2]
  rcases Nat.mod_two_eq_zero_or_one a with ha | ha <;> rcases Nat.mod_two_eq_zero_or_one b with hb | hb <;> simp only [ha, hb, if_true, if_false, Nat.reduceAdd, Nat.reduceMod, Nat.zero_ne_one]
  · rw [Nat.xor_assoc]
  · rw [Nat.xor_assoc, Nat.xor_assoc, Nat.xor_comm 3988292384 (b / 2)]
  · rw [Nat.xor_assoc, ← Nat.xor_assoc 3988292384, Nat.xor_comm 3988292384 (b / 2), Nat.xor_assoc (b / 2), Nat.xor_self, Nat.xor_zero]

theorem cStep4_xor (a b : Nat) : cStep4 (a ^^^ b) = cStep4 a ^^^ cStep4 b := by unfold cStep4; rw [cStep_xor, cStep_xor, cStep_xor, cStep_xor]
theorem cStep8_xor (a b : Nat) : cStep8 (a ^^^ b) = cStep8 a ^^^ cStep8 b := by unfold cStep8; rw [cStep4_xor, cStep4_xor]

theorem cStep_double (y : Nat) : cStep (2 * y) = y := by
  unfold cStep
  rw [if_neg (by omega)]
  omega
theorem cStep4_shift (y : Nat) : cStep4 (16 * y) = y := by
  unfold cStep4
  rw [show 16 * y = 2 * (2 * (2 * (2 * y))) by omega, cStep_double, cStep_double, cStep_double, cStep_double]

theorem split16 (x : Nat) : x = 16 * (x / 16) ^^^ x % 16 := by
  apply Nat.eq_of_testBit_eq
  intro i
  rw [Nat.testBit_xor, show (16 : Nat) = 2 ^ 4 from rfl, Nat.testBit_mod_two_pow, Nat.testBit_two_pow_mul, Nat.testBit_div_two_pow]
  by_cases h : i < 4
  · have h' : ¬ 4 ≤ i := by omega
    simp [h, h']
  · have h' : 4 ≤ i := by omega
    have e : i - 4 + 4 = i := by omega
    simp [h, h', e]

theorem tab_small : ∀ j, j < 16 → cStep4 j = cTab.getD j 0 := by decide
theorem cStep4_tab (x : Nat) : x / 16 ^^^ cTab.getD (x % 16) 0 = cStep4 x := by
  conv => rhs; rw [split16 x]
  rw [cStep4_xor, cStep4_shift, tab_small _ (Nat.mod_lt _ (by decide))]

theorem cTab_lt (j : Nat) : cTab.getD j 0 < 4294967296 := by
  have h : ∀ j, j < 16 → cTab.getD j 0 < 4294967296 := by decide
  by_cases c : j < 16
  · exact h j c
  · rw [List.getD_eq_getElem?_getD, List.getElem?_eq_none (by simp [cTab]; omega)]
    decide

theorem cStep_lt (x : Nat) (h : x < 4294967296) : cStep x < 4294967296 := by
  unfold cStep
  split
  · exact Nat.xor_lt_two_pow (n := 32) (by omega) (by decide)
  · omega
theorem cStep4_lt (x : Nat) (h : x < 4294967296) : cStep4 x < 4294967296 := cStep_lt _ (cStep_lt _ (cStep_lt _ (cStep_lt _ h)))
theorem cStep8_lt (x : Nat) (h : x < 4294967296) : cStep8 x < 4294967296 := cStep4_lt _ (cStep4_lt _ h)
theorem xor_lt (a b : Nat) (ha : a < 4294967296) (hb : b < 4294967296) : a ^^^ b < 4294967296 := Nat.xor_lt_two_pow (n := 32) ha hb
theorem cByte_lt (s c : Nat) (h : s < 4294967296) (hc : c < 4294967296) : cByte s c < 4294967296 := cStep8_lt _ (xor_lt _ _ h hc)
theorem cZeros_lt : ∀ (n s : Nat), s < 4294967296 → cZeros s n < 4294967296
  | 0, _, h => h
  | n + 1, s, h => by rw [cZeros_succ]; exact cZeros_lt n _ (cStep8_lt _ h)

theorem cStep_zero (x : Nat) (h : x < 4294967296) (e : cStep x = 0) : x = 0 := by
  unfold cStep at e
  split at e
  · have h2 : x / 2 = 3988292384 := by
      have := congrArg (· ^^^ 3988292384) e
      simpa [Nat.xor_assoc] using this
    omega
  · omega
theorem cStep4_zero (x : Nat) (h : x < 4294967296) (e : cStep4 x = 0) : x = 0 :=
  cStep_zero _ h (cStep_zero _ (cStep_lt _ h) (cStep_zero _ (cStep_lt _ (cStep_lt _ h)) (cStep_zero _ (cStep_lt _ (cStep_lt _ (cStep_lt _ h))) e)))
theorem cStep8_zero (x : Nat) (h : x < 4294967296) (e : cStep8 x = 0) : x = 0 := cStep4_zero _ h (cStep4_zero _ (cStep4_lt _ h) e)
theorem cZeros_zero : ∀ (n x : Nat), x < 4294967296 → cZeros x n = 0 → x = 0
  | 0, _, _, e => e
  | n + 1, x, h, e => cStep8_zero x h (cZeros_zero n (cStep8 x) (cStep8_lt _ h) ((cZeros_succ x n).symm.trans e))
theorem cStep8_of_zero : cStep8 0 = 0 := by decide
theorem cZeros_of_zero : ∀ n, cZeros 0 n = 0
  | 0 => rfl
  | n + 1 => by rw [cZeros_succ, cStep8_of_zero, cZeros_of_zero n]
theorem cZeros_xor : ∀ (n a b : Nat), cZeros (a ^^^ b) n = cZeros a n ^^^ cZeros b n
  | 0, _, _ => rfl
  | n + 1, a, b => by rw [cZeros_succ, cStep8_xor, cZeros_xor n, cZeros_succ, cZeros_succ]
theorem cZeros_snoc : ∀ (n x : Nat), cZeros x (n + 1) = cStep8 (cZeros x n)
  | 0, _ => rfl
  | n + 1, x => by rw [cZeros_succ, cZeros_snoc n, cZeros_succ]
theorem cByte_zero (s : Nat) : cByte s 0 = cStep8 s := by unfold cByte; rw [Nat.xor_zero]
theorem cByte_of_zero (c : Nat) : cByte 0 c = cStep8 c := by unfold cByte; rw [Nat.zero_xor]

theorem cRun_nil (s : Nat) : cRun s [] = s := rfl
theorem cRun_cons (s : Nat) (x : Int) (l : List Int) : cRun s (x :: l) = cRun (cByte s x.toNat) l := rfl
theorem cRun_append (s : Nat) (l m : List Int) : cRun s (l ++ m) = cRun (cRun s l) m := by unfold cRun; rw [List.foldl_append]
theorem cRun_snoc (s : Nat) (l : List Int) (x : Int) : cRun s (l ++ [x]) = cByte (cRun s l) x.toNat := by rw [cRun_append]; rfl
theorem cRun_take (s : Nat) (l : List Int) (k : Nat) (h : k < l.length) : cRun s (l.take (k + 1)) = cByte (cRun s (l.take k)) (l.getD k 0).toNat := by
  rw [List.take_succ_eq_append_getElem h, cRun_snoc, getD_of_lt l k h]
theorem cRun_lt : ∀ (l : List Int) (s : Nat), IsBytes l → s < 4294967296 → cRun s l < 4294967296
  | [], _, _, h => h
  | x :: l, s, hb, h => by
    have := hb x List.mem_cons_self
    exact cRun_lt l _ (fun y hy => hb y (List.mem_cons_of_mem _ hy)) (cByte_lt _ _ h (by omega))
theorem cByte_xor (s d c : Nat) : cByte (s ^^^ d) c = cByte s c ^^^ cStep8 d := by
  unfold cByte
  rw [Nat.xor_assoc, Nat.xor_comm d c, ← Nat.xor_assoc, cStep8_xor]
theorem cRun_xor : ∀ (l : List Int) (s d : Nat), cRun (s ^^^ d) l = cRun s l ^^^ cZeros d l.length
  | [], _, _ => rfl
  | x :: l, s, d => by rw [cRun_cons, cByte_xor, cRun_xor l, List.length_cons, cZeros_succ, cRun_cons]
theorem cRun_zeros : ∀ (n s : Nat), cRun s (List.replicate n 0) = cZeros s n
  | 0, _ => rfl
  | n + 1, s => by rw [List.replicate_succ, cRun_cons, Int.toNat_zero, cByte_zero, cRun_zeros n, cZeros_succ]

/-- What a changed byte does. -/
theorem cRun_change (l : List Int) (k : Nat) (h : k < l.length) (c : Nat) (s : Nat) (hc : ∀ x ∈ l, 0 ≤ x) :
    cRun s (l.set k (((l.getD k 0).toNat ^^^ c : Nat) : Int)) = cRun s l ^^^ cZeros (cByte 0 c) (l.length - 1 - k) := by
  have e1 : l.set k (((l.getD k 0).toNat ^^^ c : Nat) : Int) = l.take k ++ (((l.getD k 0).toNat ^^^ c : Nat) : Int) :: l.drop (k + 1) := by
    rw [List.set_eq_take_append_cons_drop, if_pos h]
  have e2 : l = l.take k ++ l.getD k 0 :: l.drop (k + 1) := by
    rw [getD_of_lt l k h, ← List.drop_eq_getElem_cons h, List.take_append_drop]
  have e3 : cRun s l = cRun (cRun s (l.take k)) (l.getD k 0 :: l.drop (k + 1)) := by
    conv => lhs; rw [e2]
    rw [cRun_append]
  rw [e1, e3, cRun_append, cRun_cons, cRun_cons, Int.toNat_natCast]
  have e4 : cByte (cRun s (l.take k)) ((l.getD k 0).toNat ^^^ c) = cByte (cRun s (l.take k)) (l.getD k 0).toNat ^^^ cByte 0 c := by
    unfold cByte
    rw [← Nat.xor_assoc, cStep8_xor, Nat.zero_xor]
  rw [e4, cRun_xor]
  congr 2
  rw [List.length_drop]
  omega

/-- All bits turned over. -/
theorem ones_xor (x : Nat) (hx : x < 4294967296) : 4294967295 - x = x ^^^ 4294967295 := by
  have h : (BitVec.ofNat 32 x ^^^ BitVec.allOnes 32).toNat = (~~~ (BitVec.ofNat 32 x)).toNat := by rw [BitVec.xor_allOnes]
  rw [BitVec.toNat_xor, BitVec.toNat_not, BitVec.toNat_allOnes, BitVec.toNat_ofNat, Nat.mod_eq_of_lt (show x < 2 ^ 32 from hx)] at h
  have e : (2 ^ 32 - 1 : Nat) = 4294967295 := rfl
  rw [e] at h
  rw [h]
theorem ones_of_xor (x d : Nat) (hx : x < 4294967296) (hd : d < 4294967296) : (4294967295 - x) ^^^ d = 4294967295 - (x ^^^ d) := by
  rw [ones_xor _ hx, ones_xor _ (xor_lt _ _ hx hd), Nat.xor_assoc, Nat.xor_comm 4294967295 d, ← Nat.xor_assoc]
theorem xor_eq_self (x d : Nat) : x ^^^ d = x ↔ d = 0 := by
  constructor
  · intro h
    have := congrArg (x ^^^ ·) h
    simpa [← Nat.xor_assoc] using this
  · rintro rfl; exact Nat.xor_zero x

/-- The sum. -/
def cSum (l : List Int) : Nat := 4294967295 - cRun 4294967295 l
theorem cSum_le (l : List Int) : cSum l ≤ 4294967295 := Nat.sub_le _ _
theorem awake03 : cSum [49, 50, 51, 52, 53, 54, 55, 56, 57] = 3421780262 := by decide +kernel
/-- The numbers of a change: the sum ahead, the sum behind, what it is xored with. -/
theorem change_nums (l : List Int) (k c : Nat) (hk : k < l.length) (hb : IsBytes l) (hc : c < 256) :
    ∃ s s' x : Nat, cSum l = s ∧ cSum (l.set k (((l.getD k 0).toNat ^^^ c : Nat) : Int)) = s' ∧ cZeros (cByte 0 c) (l.length - 1 - k) = x ∧ s < 4294967296 ∧ s' < 4294967296 ∧ x < 4294967296 ∧ s ^^^ x = s' ∧ (x = 0 ↔ c = 0) ∧ (s' = s ↔ c = 0) := by
  have h1 := cRun_change l k hk c 4294967295 (fun x hx => (hb x hx).1)
  have h2 := cRun_lt l 4294967295 hb (by omega)
  have h3 := cZeros_lt (l.length - 1 - k) (cByte 0 c) (cByte_lt 0 c (by omega) (by omega))
  have h4 : cZeros (cByte 0 c) (l.length - 1 - k) = 0 ↔ c = 0 := by
    constructor
    · intro h
      have := cZeros_zero _ _ (cByte_lt 0 c (by omega) (by omega)) h
      rw [cByte_of_zero] at this
      exact cStep8_zero c (by omega) this
    · rintro rfl
      rw [cByte_of_zero, cStep8_of_zero, cZeros_of_zero]
  have h5 := ones_of_xor _ _ h2 h3
  refine ⟨_, _, _, rfl, rfl, rfl, by have := cSum_le l; omega, by have := cSum_le (l.set k (((l.getD k 0).toNat ^^^ c : Nat) : Int)); omega, h3, ?_, h4, ?_⟩
  · unfold cSum
    rw [h1, h5]
  · unfold cSum
    rw [h1, ← h5, xor_eq_self, h4]

theorem set_bytes (l : List Int) (k : Nat) (x : Int) (hb : IsBytes l) (hx : 0 ≤ x ∧ x ≤ 255) : IsBytes (l.set k x) := fun y hy => by
  rcases List.mem_or_eq_of_mem_set hy with h | h
  · exact hb y h
  · rw [h]; exact hx
theorem sum_zeros (l : List Int) (n : Nat) : cSum (l ++ List.replicate n 0) = 4294967295 - cZeros (cRun 4294967295 l) n := by
  unfold cSum
  rw [cRun_append, cRun_zeros]
theorem sum_back (l : List Int) (hb : IsBytes l) : 4294967295 - cSum l = cRun 4294967295 l := by
  have := cRun_lt l 4294967295 hb (by omega)
  unfold cSum
  omega
theorem zeros_bytes (l : List Int) (n : Nat) (hb : IsBytes l) : IsBytes (l ++ List.replicate n 0) := fun x hx => by
  rcases List.mem_append.mp hx with h | h
  · exact hb x h
  · rw [List.eq_of_mem_replicate h]; omega
end Go.Proofs.YtjjnehlghpdneaaDoor
