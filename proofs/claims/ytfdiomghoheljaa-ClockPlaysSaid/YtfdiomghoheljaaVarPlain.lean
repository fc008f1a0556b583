/- A number's short bytes, and what bytes begin with: plain, with no program in it. -/
import Derived.Test.YtfdiomghoheljaaPlain
namespace Go.Proofs.Ytfdiomghoheljaa
set_option linter.unusedVariables false

/-- A number's short bytes. -/
def short (n : Nat) : List Int := if h : n < 128 then [(n : Int)] else ((n % 128 + 128 : Nat) : Int) :: short (n / 128)
termination_by n
decreasing_by omega
theorem short_lt (n : Nat) (h : n < 128) : short n = [(n : Int)] := by rw [short, dif_pos h]
theorem short_ge (n : Nat) (h : ¬ n < 128) : short n = ((n % 128 + 128 : Nat) : Int) :: short (n / 128) := by rw [short, dif_neg h]

theorem short_bytes (n : Nat) : IsBytes (short n) := by
  induction n using Nat.strongRecOn with
  | _ n ih =>
    by_cases h : n < 128
    · rw [short_lt n h]; intro x hx; simp at hx; subst hx; omega
    · rw [short_ge n h]; intro x hx
      rcases List.mem_cons.mp hx with rfl | hx
      · omega
      · exact ih _ (by omega) x hx

theorem short_bounds (n : Nat) : 1 ≤ (short n).length ∧ n < 2 ^ (7 * (short n).length) ∧ (2 ≤ (short n).length → 2 ^ (7 * ((short n).length - 1)) ≤ n) := by
  induction n using Nat.strongRecOn with
  | _ n ih =>
    by_cases h : n < 128
    · rw [short_lt n h]; simp; omega
    · rw [short_ge n h]
      obtain ⟨h1, h2, h3⟩ := ih (n / 128) (by omega)
      simp only [List.length_cons]
      generalize (short (n / 128)).length = L at h1 h2 h3 ⊢
      refine ⟨by omega, ?_, fun _ => ?_⟩
      · rw [Nat.mul_add, Nat.pow_add]
        generalize 2 ^ (7 * L) = P at h2 ⊢
        omega
      · rw [Nat.add_sub_cancel]
        by_cases c : 2 ≤ L
        · have h4 := h3 c
          have e : 7 * L = 7 * (L - 1) + 7 := by omega
          rw [e, Nat.pow_add]
          generalize 2 ^ (7 * (L - 1)) = P at h4 ⊢
          omega
        · have : L = 1 := by omega
          subst this
          omega

theorem pow_lt_of (a b : Nat) (h : 2 ^ a < 2 ^ b) : a < b := (Nat.pow_lt_pow_iff_right (by decide)).mp h

theorem short_len (n k : Nat) (hk : 1 ≤ k) (h : n < 2 ^ (7 * k)) : (short n).length ≤ k := by
  obtain ⟨h1, h2, h3⟩ := short_bounds n
  by_cases c : 2 ≤ (short n).length
  · have := pow_lt_of _ _ (Nat.lt_of_le_of_lt (h3 c) h)
    omega
  · omega

theorem short_ten (n : Nat) (h : n ≤ 18446744073709551615) : (short n).length ≤ 10 := short_len n 10 (by omega) (by omega)

theorem short_mono (n m : Nat) (h : n ≤ m) : (short n).length ≤ (short m).length := by
  obtain ⟨h1, h2, h3⟩ := short_bounds m
  exact short_len n _ h1 (by omega)

theorem widthTo_bounds (N : Nat) : ∀ k, N < 2 ^ k → ∃ w : Nat, widthTo N k = (w : Int) ∧ w ≤ k ∧ N < 2 ^ w ∧ (1 ≤ w → 2 ^ (w - 1) ≤ N)
  | 0, h => ⟨0, rfl, Nat.le_refl _, h, by omega⟩
  | k + 1, h => by
    have hp := Nat.two_pow_pos k
    by_cases hz : N / 2 ^ k = 0
    · have h1 := (Nat.div_eq_zero_iff_lt hp).mp hz
      obtain ⟨w, e, hw, h2, h3⟩ := widthTo_bounds N k h1
      exact ⟨w, by rw [width_same N k hz, e], by omega, h2, h3⟩
    · refine ⟨k + 1, width_next N k hz, Nat.le_refl _, h, fun _ => ?_⟩
      rw [Nat.add_sub_cancel]
      rcases Nat.lt_or_ge N (2 ^ k) with c | c
      · exact absurd ((Nat.div_eq_zero_iff_lt hp).mpr c) hz
      · exact c

theorem widthI_bounds (N : Nat) (h : N ≤ 18446744073709551615) : ∃ w : Nat, widthI N = (w : Int) ∧ w ≤ 64 ∧ ((short N).length = 1 ∧ w ≤ 7 ∨ 2 ≤ (short N).length ∧ (w + 6) / 7 = (short N).length) := by
  obtain ⟨w, e, hw, h2, h3⟩ := widthTo_bounds N 64 (by omega)
  refine ⟨w, by unfold widthI; rw [Int.toNat_natCast, e], hw, ?_⟩
  obtain ⟨b1, b2, b3⟩ := short_bounds N
  have hw2 : w ≤ 7 * (short N).length := by
    by_cases c : 1 ≤ w
    · have := pow_lt_of _ _ (Nat.lt_of_le_of_lt (h3 c) b2)
      omega
    · omega
  by_cases c : 2 ≤ (short N).length
  · have := pow_lt_of _ _ (Nat.lt_of_le_of_lt (b3 c) h2)
    right
    omega
  · left
    omega

/-- What bytes begin with: the number, how many bytes it has, the error's number; with i bytes taken, which gave n. -/
def got : List Int → Nat → Int → Int × Int × Int
  | [], _, _ => (0, 0, 2)
  | c :: r, i, n =>
    if (i ≠ 0 ∧ c = 0) ∨ (i = 9 ∧ 1 < c) then (0, 0, 1)
    else if c < 128 then (n + c % 128 * ((2 ^ (7 * i) : Nat) : Int), (i : Int) + 1, 0)
    else got r (i + 1) (n + c % 128 * ((2 ^ (7 * i) : Nat) : Int))
theorem got_bad (c : Int) (r : List Int) (i : Nat) (n : Int) (h : (i ≠ 0 ∧ c = 0) ∨ (i = 9 ∧ 1 < c)) : got (c :: r) i n = (0, 0, 1) := by rw [got, if_pos h]
theorem got_last (c : Int) (r : List Int) (i : Nat) (n : Int) (h : ¬ ((i ≠ 0 ∧ c = 0) ∨ (i = 9 ∧ 1 < c))) (h2 : c < 128) : got (c :: r) i n = (n + c % 128 * ((2 ^ (7 * i) : Nat) : Int), (i : Int) + 1, 0) := by rw [got, if_neg h, if_pos h2]
theorem got_more (c : Int) (r : List Int) (i : Nat) (n : Int) (h : ¬ ((i ≠ 0 ∧ c = 0) ∨ (i = 9 ∧ 1 < c))) (h2 : ¬ c < 128) : got (c :: r) i n = got r (i + 1) (n + c % 128 * ((2 ^ (7 * i) : Nat) : Int)) := by rw [got, if_neg h, if_neg h2]

theorem pow7 (i : Nat) : 2 ^ (7 * (i + 1)) = 128 * 2 ^ (7 * i) := by rw [Nat.mul_add, Nat.pow_add]; omega
theorem split128 (M : Nat) (P : Int) : ((M % 128 : Nat) : Int) * P + ((M / 128 : Nat) : Int) * (128 * P) = (M : Int) * P := by
  have e : (M : Int) = ((M % 128 : Nat) : Int) + 128 * ((M / 128 : Nat) : Int) := by omega
  rw [Int.mul_left_comm, ← Int.mul_assoc, ← Int.add_mul, ← e]

theorem got_short (M : Nat) : ∀ (i : Nat) (n : Int) (r : List Int), M * 2 ^ (7 * i) < 18446744073709551616 → (i ≠ 0 → M ≠ 0) →
    got (short M ++ r) i n = (n + (M : Int) * ((2 ^ (7 * i) : Nat) : Int), (i : Int) + ((short M).length : Int), 0) := by
  induction M using Nat.strongRecOn with
  | _ M ih =>
    intro i n r hlt hz
    have h9 : i = 9 → M ≤ 1 := by intro h; subst h; omega
    by_cases h : M < 128
    · rw [short_lt M h, List.singleton_append, got_last _ _ _ _ (by omega) (by omega)]
      have : (M : Int) % 128 = (M : Int) := by omega
      rw [this]; simp
    · rw [short_ge M h, List.cons_append, got_more _ _ _ _ (by omega) (by omega), ih (M / 128) (by omega) (i + 1) _ r ?_ (by omega)]
      · have e : ((M % 128 + 128 : Nat) : Int) % 128 = ((M % 128 : Nat) : Int) := by omega
        rw [e, pow7]
        have e2 := split128 M ((2 ^ (7 * i) : Nat) : Int)
        have e3 : ((128 * 2 ^ (7 * i) : Nat) : Int) = 128 * ((2 ^ (7 * i) : Nat) : Int) := by rw [Int.natCast_mul]; rfl
        rw [e3, Int.add_assoc, e2, List.length_cons]
        congr 2
        omega
      · rw [pow7, ← Nat.mul_assoc]
        exact Nat.lt_of_le_of_lt (Nat.mul_le_mul_right _ (by omega)) hlt

theorem got_back (N : Nat) (r : List Int) (h : N ≤ 18446744073709551615) : got (short N ++ r) 0 0 = ((N : Int), ((short N).length : Int), 0) := by
  rw [got_short N 0 0 r (by simp; omega) (by simp)]
  simp

theorem got_only : ∀ (l : List Int) (i : Nat) (n x k : Int), IsBytes l → got l i n = (x, k, 0) →
    ∃ M L : Nat, x = n + (M : Int) * ((2 ^ (7 * i) : Nat) : Int) ∧ k = (i : Int) + L ∧ 1 ≤ L ∧ L ≤ l.length ∧ l.take L = short M ∧ (i ≠ 0 → M ≠ 0)
  | [], i, n, x, k, _, h => by simp [got] at h
  | c :: r, i, n, x, k, hb, h => by
    have hc := hb c List.mem_cons_self
    by_cases c1 : (i ≠ 0 ∧ c = 0) ∨ (i = 9 ∧ 1 < c)
    · rw [got_bad _ _ _ _ c1] at h; simp at h
    · by_cases c2 : c < 128
      · rw [got_last _ _ _ _ c1 c2] at h
        obtain ⟨C, rfl⟩ := Int.eq_ofNat_of_zero_le hc.1
        have e : (C : Int) % 128 = (C : Int) := by omega
        simp only [Prod.mk.injEq, e] at h
        exact ⟨C, 1, h.1.symm, by omega, by omega, by simp, by rw [short_lt C (by omega)]; rfl, by omega⟩
      · rw [got_more _ _ _ _ c1 c2] at h
        obtain ⟨C, rfl⟩ := Int.eq_ofNat_of_zero_le hc.1
        obtain ⟨M, L, e1, e2, h1, h2, h3, h4⟩ := got_only r (i + 1) _ x k (fun y hy => hb y (List.mem_cons_of_mem _ hy)) h
        have h5 := h4 (by omega)
        refine ⟨C % 128 + 128 * M, L + 1, ?_, by omega, by omega, by simp; omega, ?_, by omega⟩
        · rw [e1, pow7]
          have e2 := split128 (C % 128 + 128 * M) ((2 ^ (7 * i) : Nat) : Int)
          have e3 : ((128 * 2 ^ (7 * i) : Nat) : Int) = 128 * ((2 ^ (7 * i) : Nat) : Int) := by rw [Int.natCast_mul]; rfl
          have e4 : (C % 128 + 128 * M) % 128 = C % 128 := by omega
          have e5 : (C % 128 + 128 * M) / 128 = M := by omega
          rw [e4, e5] at e2
          rw [e3, Int.add_assoc, ← e2]
          rfl
        · rw [short_ge _ (by omega)]
          have e5 : (C % 128 + 128 * M) / 128 = M := by omega
          have e6 : (C % 128 + 128 * M) % 128 + 128 = C := by omega
          rw [e5, e6, List.take_succ_cons, h3]

theorem got_one (l : List Int) (x k : Int) (hb : IsBytes l) (h : got l 0 0 = (x, k, 0)) :
    ∃ M L : Nat, x = (M : Int) ∧ k = (L : Int) ∧ 1 ≤ L ∧ L ≤ l.length ∧ l.take L = short M := by
  obtain ⟨M, L, e1, e2, h1, h2, h3, _⟩ := got_only l 0 0 x k hb h
  exact ⟨M, L, by simpa using e1, by simpa using e2, h1, h2, h3⟩

theorem got_range : ∀ (l : List Int) (i : Nat) (n : Int), IsBytes l → i ≤ 9 → 0 ≤ n → n < ((2 ^ (7 * i) : Nat) : Int) → 0 ≤ (got l i n).1 ∧ (got l i n).1 ≤ 18446744073709551615
  | [], i, n, _, _, _, _ => by simp [got]
  | c :: r, i, n, hb, hi, h0, h1 => by
    have hc := hb c List.mem_cons_self
    by_cases c1 : (i ≠ 0 ∧ c = 0) ∨ (i = 9 ∧ 1 < c)
    · rw [got_bad _ _ _ _ c1]; simp
    · have hp : 2 ^ (7 * i) ≤ 2 ^ 63 := Nat.pow_le_pow_right (by decide) (by omega)
      have hq : 0 ≤ c % 128 * ((2 ^ (7 * i) : Nat) : Int) := Int.mul_nonneg (by omega) (by omega)
      have hm : c % 128 * ((2 ^ (7 * i) : Nat) : Int) ≤ 127 * ((2 ^ (7 * i) : Nat) : Int) := Int.mul_le_mul_of_nonneg_right (by omega) (by omega)
      by_cases h9 : i = 9
      · subst h9
        have : c < 128 := by omega
        rw [got_last _ _ _ _ c1 this]
        simp only []
        omega
      · have hp : 2 ^ (7 * i) ≤ 2 ^ 56 := Nat.pow_le_pow_right (by decide) (by omega)
        by_cases c2 : c < 128
        · rw [got_last _ _ _ _ c1 c2]
          simp only []
          omega
        · rw [got_more _ _ _ _ c1 c2]
          refine got_range r (i + 1) _ (fun y hy => hb y (List.mem_cons_of_mem _ hy)) (by omega) (by omega) ?_
          rw [pow7]
          omega

/-- One byte more joined to a number. -/
theorem join7 (n c : Int) (i : Nat) (h0 : 0 ≤ n) (h1 : n < ((2 ^ (7 * i) : Nat) : Int)) (h2 : 0 ≤ c) (h3 : c ≤ 255) (hi : i ≤ 9) (h9 : i = 9 → c ≤ 1) :
    bits BinOp.or IntKind.u64 n (IntKind.u64.wrap (c % 128 * 2 ^ (7 * i))) = n + c % 128 * ((2 ^ (7 * i) : Nat) : Int) := by
  obtain ⟨N, rfl⟩ := Int.eq_ofNat_of_zero_le h0
  obtain ⟨C, rfl⟩ := Int.eq_ofNat_of_zero_le h2
  have e0 : (C : Int) % 128 = ((C % 128 : Nat) : Int) := by omega
  rw [e0]
  generalize hX : C % 128 = X
  have e1 : (X : Int) * 2 ^ (7 * i) = ((X * 2 ^ (7 * i) : Nat) : Int) := by push_cast; rfl
  have e8 : X * 2 ^ (7 * i) < 18446744073709551616 := by
    by_cases c : i = 9
    · subst c
      have := h9 rfl
      have : X ≤ 1 := by omega
      omega
    · have e7 : 2 ^ (7 * i) ≤ 2 ^ 56 := Nat.pow_le_pow_right (by decide) (by omega)
      exact Nat.lt_of_le_of_lt (Nat.mul_le_mul (show X ≤ 127 by omega) e7) (by decide)
  have e9 : N < 2 ^ (7 * i) := by omega
  have e10 : 2 ^ (7 * i) ≤ 2 ^ 63 := Nat.pow_le_pow_right (by decide) (by omega)
  rw [e1, IntKind.wrap_u64]
  have e2 : ((X * 2 ^ (7 * i) : Nat) : Int) % 18446744073709551616 = ((X * 2 ^ (7 * i) : Nat) : Int) := by omega
  rw [e2, u64_or_nat _ _ (by omega) (by omega), Nat.or_comm, nat_join (7 * i) (X * 2 ^ (7 * i)) N (Nat.mul_mod_left _ _) e9]
  push_cast
  omega

set_option maxRecDepth 100000 in
theorem or128 (M : Nat) : bits BinOp.or IntKind.u8 ((M : Int) % 256) 128 = ((M % 128 + 128 : Nat) : Int) := by
  rw [u8_or _ _ (by omega) (by omega) (by omega) (by omega)]
  have e : ∀ x : Fin 256, (x.val ||| 128) = x.val % 128 + 128 := by decide
  have := e ⟨M % 256, by omega⟩
  have e2 : ((M : Int) % 256).toNat = M % 256 := by omega
  rw [e2]
  show ((M % 256 ||| 128 : Nat) : Int) = _
  simp only [] at this
  omega

set_option maxRecDepth 100000 in
theorem andNot128 (c : Int) (h0 : 0 ≤ c) (h1 : c ≤ 255) : bits BinOp.andNot IntKind.u8 c 128 = c % 128 := by
  obtain ⟨C, rfl⟩ := Int.eq_ofNat_of_zero_le h0
  rw [u8_andNot _ _ (by omega) (by omega) (by omega) (by omega)]
  have e : ∀ x : Fin 256, (x.val &&& 127) = x.val % 128 := by decide
  have := e ⟨C, by omega⟩
  rw [Int.toNat_natCast]
  show ((C &&& 127 : Nat) : Int) = _
  simp only [] at this
  omega
end Go.Proofs.Ytfdiomghoheljaa
