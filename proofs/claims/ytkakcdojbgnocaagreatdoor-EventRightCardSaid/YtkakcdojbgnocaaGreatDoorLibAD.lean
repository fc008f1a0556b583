/- Contracts and plain words that the laws' proofs stand on, put together. -/
import Derived.Test.YtkakcdojbgnocaaGreatDoorLibAA
import Derived.Test.YtkakcdojbgnocaaGreatDoorLibAB
import Derived.Deep.RegionHeld3
/- A number's short bytes, and what bytes begin with: plain, with no program in it. -/
namespace Go.Proofs.YtkakcdojbgnocaaGreatDoor
set_option linter.unusedVariables false

/-- A number's short bytes. -/
def short (n : Nat) : List Int := if h : n < 128 then [(n : Int)] else ((n % 128 + 128 : Nat) : Int) :: short (n / 128)
termination_by n
decreasing_by omega
theorem short_lt (n : Nat) (h : n < 128) : short n = [(n : Int)] := by rw [short, dif_pos h]
theorem short_ge (n : Nat) (h : ¬ n < 128) : short n = ((n % 128 + 128 : Nat) : Int) :: short (n / 128) := by rw [short, dif_neg h]

theorem short_bytes (n : Nat) : IsBytes (short n) := by
  induction n using Nat.strongRecOn with
  | _ n ih =>
    by_cases h : n < 128
    · rw [short_lt n h]; intro x hx; simp at hx; subst hx; omega
    · rw [short_ge n h]; intro x hx
      rcases List.mem_cons.mp hx with rfl | hx
      · omega
      · exact ih _ (by omega) x hx

theorem short_bounds (n : Nat) : 1 ≤ (short n).length ∧ n < 2 ^ (7 * (short n).length) ∧ (2 ≤ (short n).length → 2 ^ (7 * ((short n).length - 1)) ≤ n) := by
  induction n using Nat.strongRecOn with
  | _ n ih =>
    by_cases h : n < 128
    · rw [short_lt n h]; simp; omega
    · rw [short_ge n h]
      obtain ⟨h1, h2, h3⟩ := ih (n / 128) (by omega)
      simp only [List.length_cons]
      generalize (short (n / 128)).length = L at h1 h2 h3 ⊢
      refine ⟨by omega, ?_, fun _ => ?_⟩
      · rw [Nat.mul_add, Nat.pow_add]
        generalize 2 ^ (7 * L) = P at h2 ⊢
        omega
      · rw [Nat.add_sub_cancel]
        by_cases c : 2 ≤ L
        · have h4 := h3 c
          have e : 7 * L = 7 * (L - 1) + 7 := by omega
          rw [e, Nat.pow_add]
          generalize 2 ^ (7 * (L - 1)) = P at h4 ⊢
          omega
        · have : L = 1 := by omega
          subst this
          omega

theorem pow_lt_of (a b : Nat) (h : 2 ^ a < 2 ^ b) : a < b := (Nat.pow_lt_pow_iff_right (by decide)).mp h

theorem short_len (n k : Nat) (hk : 1 ≤ k) (h : n < 2 ^ (7 * k)) : (short n).length ≤ k := by
  obtain ⟨h1, h2, h3⟩ := short_bounds n
  by_cases c : 2 ≤ (short n).length
  · have := pow_lt_of _ _ (Nat.lt_of_le_of_lt (h3 c) h)
    omega
  · omega

theorem short_ten (n : Nat) (h : n ≤ 18446744073709551615) : (short n).length ≤ 10 := short_len n 10 (by omega) (by omega)

theorem widthTo_bounds (N : Nat) : ∀ k, N < 2 ^ k → ∃ w : Nat, widthTo N k = (w : Int) ∧ w ≤ k ∧ N < 2 ^ w ∧ (1 ≤ w → 2 ^ (w - 1) ≤ N)
  | 0, h => ⟨0, rfl, Nat.le_refl _, h, by omega⟩
  | k + 1, h => by
    have hp := Nat.two_pow_pos k
    by_cases hz : N / 2 ^ k = 0
    · have h1 := (Nat.div_eq_zero_iff_lt hp).mp hz
      obtain ⟨w, e, hw, h2, h3⟩ := widthTo_bounds N k h1
      exact ⟨w, by rw [width_same N k hz, e], by omega, h2, h3⟩
    · refine ⟨k + 1, width_next N k hz, Nat.le_refl _, h, fun _ => ?_⟩
      rw [Nat.add_sub_cancel]
      rcases Nat.lt_or_ge N (2 ^ k) with c | c
      · exact absurd ((Nat.div_eq_zero_iff_lt hp).mpr c) hz
      · exact c

theorem widthI_bounds (N : Nat) (h : N ≤ 18446744073709551615) : ∃ w : Nat, widthI N = (w : Int) ∧ w ≤ 64 ∧ ((short N).length = 1 ∧ w ≤ 7 ∨ 2 ≤ (short N).length ∧ (w + 6) / 7 = (short N).length) := by
  obtain ⟨w, e, hw, h2, h3⟩ := widthTo_bounds N 64 (by omega)
  refine ⟨w, by unfold widthI; rw [Int.toNat_natCast, e], hw, ?_⟩
  obtain ⟨b1, b2, b3⟩ := short_bounds N
  have hw2 : w ≤ 7 * (short N).length := by
    by_cases c : 1 ≤ w
    · have := pow_lt_of _ _ (Nat.lt_of_le_of_lt (h3 c) b2)
      omega
    · omega
  by_cases c : 2 ≤ (short N).length
  · have := pow_lt_of _ _ (Nat.lt_of_le_of_lt (b3 c) h2)
    right
    omega
  · left
    omega

/-- What bytes begin with: the number, how many bytes it has, the error's number; with i bytes taken, which gave n. -/
def got : List Int → Nat → Int → Int × Int × Int
  | [], _, _ => (0, 0, 2)
  | c :: r, i, n =>
    if (i ≠ 0 ∧ c = 0) ∨ (i = 9 ∧ 1 < c) then (0, 0, 1)
    else if c < 128 then (n + c % 128 * ((2 ^ (7 * i) : Nat) : Int), (i : Int) + 1, 0)
    else got r (i + 1) (n + c % 128 * ((2 ^ (7 * i) : Nat) : Int))
theorem got_bad (c : Int) (r : List Int) (i : Nat) (n : Int) (h : (i ≠ 0 ∧ c = 0) ∨ (i = 9 ∧ 1 < c)) : got (c :: r) i n = (0, 0, 1) := by rw [got, if_pos h]
theorem got_last (c : Int) (r : List Int) (i : Nat) (n : Int) (h : ¬ ((i ≠ 0 ∧ c = 0) ∨ (i = 9 ∧ 1 < c))) (h2 : c < 128) : got (c :: r) i n = (n + c % 128 * ((2 ^ (7 * i) : Nat) : Int), (i : Int) + 1, 0) := by rw [got, if_neg h, if_pos h2]
theorem got_more (c : Int) (r : List Int) (i : Nat) (n : Int) (h : ¬ ((i ≠ 0 ∧ c = 0) ∨ (i = 9 ∧ 1 < c))) (h2 : ¬ c < 128) : got (c :: r) i n = got r (i + 1) (n + c % 128 * ((2 ^ (7 * i) : Nat) : Int)) := by rw [got, if_neg h, if_neg h2]

theorem pow7 (i : Nat) : 2 ^ (7 * (i + 1)) = 128 * 2 ^ (7 * i) := by rw [Nat.mul_add, Nat.pow_add]; omega
theorem split128 (M : Nat) (P : Int) : ((M % 128 : Nat) : Int) * P + ((M / 128 : Nat) : Int) * (128 * P) = (M : Int) * P := by
  have e : (M : Int) = ((M % 128 : Nat) : Int) + 128 * ((M / 128 : Nat) : Int) := by omega
  rw [Int.mul_left_comm, ← Int.mul_assoc, ← Int.add_mul, ← e]

theorem got_short (M : Nat) : ∀ (i : Nat) (n : Int) (r : List Int), M * 2 ^ (7 * i) < 18446744073709551616 → (i ≠ 0 → M ≠ 0) →
    got (short M ++ r) i n = (n + (M : Int) * ((2 ^ (7 * i) : Nat) : Int), (i : Int) + ((short M).length : Int), 0) := by
  induction M using Nat.strongRecOn with
  | _ M ih =>
    intro i n r hlt hz
    have h9 : i = 9 → M ≤ 1 := by intro h; subst h; omega
    by_cases h : M < 128
    · rw [short_lt M h, List.singleton_append, got_last _ _ _ _ (by omega) (by omega)]
      have : (M : Int) % 128 = (M : Int) := by omega
      rw [this]; simp
    · rw [short_ge M h, List.cons_append, got_more _ _ _ _ (by omega) (by omega), ih (M / 128) (by omega) (i + 1) _ r ?_ (by omega)]
      · have e : ((M % 128 + 128 : Nat) : Int) % 128 = ((M % 128 : Nat) : Int) := by omega
        rw [e, pow7]
        have e2 := split128 M ((2 ^ (7 * i) : Nat) : Int)
        have e3 : ((128 * 2 ^ (7 * i) : Nat) : Int) = 128 * ((2 ^ (7 * i) : Nat) : Int) := by rw [Int.natCast_mul]; rfl
        rw [e3, Int.add_assoc, e2, List.length_cons]
        congr 2
        omega
      · rw [pow7, ← Nat.mul_assoc]
        exact Nat.lt_of_le_of_lt (Nat.mul_le_mul_right _ (by omega)) hlt

theorem got_back (N : Nat) (r : List Int) (h : N ≤ 18446744073709551615) : got (short N ++ r) 0 0 = ((N : Int), ((short N).length : Int), 0) := by
  rw [got_short N 0 0 r (by simp; omega) (by simp)]
  simp

theorem got_range : ∀ (l : List Int) (i : Nat) (n : Int), IsBytes l → i ≤ 9 → 0 ≤ n → n < ((2 ^ (7 * i) : Nat) : Int) → 0 ≤ (got l i n).1 ∧ (got l i n).1 ≤ 18446744073709551615
  | [], i, n, _, _, _, _ => by simp [got]
  | c :: r, i, n, hb, hi, h0, h1 => by
    have hc := hb c List.mem_cons_self
    by_cases c1 : (i ≠ 0 ∧ c = 0) ∨ (i = 9 ∧ 1 < c)
    · rw [got_bad _ _ _ _ c1]; simp
    · have hp : 2 ^ (7 * i) ≤ 2 ^ 63 := Nat.pow_le_pow_right (by decide) (by omega)
      have hq : 0 ≤ c % 128 * ((2 ^ (7 * i) : Nat) : Int) := Int.mul_nonneg (by omega) (by omega)
      have hm : c % 128 * ((2 ^ (7 * i) : Nat) : Int) ≤ 127 * ((2 ^ (7 * i) : Nat) : Int) := Int.mul_le_mul_of_nonneg_right (by omega) (by omega)
      by_cases h9 : i = 9
      · subst h9
        have : c < 128 := by omega
        rw [got_last _ _ _ _ c1 this]
        simp only []
        omega
      · have hp : 2 ^ (7 * i) ≤ 2 ^ 56 := Nat.pow_le_pow_right (by decide) (by omega)
        by_cases c2 : c < 128
        · rw [got_last _ _ _ _ c1 c2]
          simp only []
          omega
        · rw [got_more _ _ _ _ c1 c2]
          refine got_range r (i + 1) _ (fun y hy => hb y (List.mem_cons_of_mem _ hy)) (by omega) (by omega) ?_
          rw [pow7]
          omega

/-- One byte more joined to a number. -/
theorem join7 (n c : Int) (i : Nat) (h0 : 0 ≤ n) (h1 : n < ((2 ^ (7 * i) : Nat) : Int)) (h2 : 0 ≤ c) (h3 : c ≤ 255) (hi : i ≤ 9) (h9 : i = 9 → c ≤ 1) :
    bits BinOp.or IntKind.u64 n (IntKind.u64.wrap (c % 128 * 2 ^ (7 * i))) = n + c % 128 * ((2 ^ (7 * i) : Nat) : Int) := by
  obtain ⟨N, rfl⟩ := Int.eq_ofNat_of_zero_le h0
  obtain ⟨C, rfl⟩ := Int.eq_ofNat_of_zero_le h2
  have e0 : (C : Int) % 128 = ((C % 128 : Nat) : Int) := by omega
  rw [e0]
  generalize hX : C % 128 = X
  have e1 : (X : Int) * 2 ^ (7 * i) = ((X * 2 ^ (7 * i) : Nat) : Int) := by push_cast; rfl
  have e8 : X * 2 ^ (7 * i) < 18446744073709551616 := by
    by_cases c : i = 9
    · subst c
      have := h9 rfl
      have : X ≤ 1 := by omega
      omega
    · have e7 : 2 ^ (7 * i) ≤ 2 ^ 56 := Nat.pow_le_pow_right (by decide) (by omega)
      exact Nat.lt_of_le_of_lt (Nat.mul_le_mul (show X ≤ 127 by omega) e7) (by decide)
  have e9 : N < 2 ^ (7 * i) := by omega
  have e10 : 2 ^ (7 * i) ≤ 2 ^ 63 := Nat.pow_le_pow_right (by decide) (by omega)
  rw [e1, IntKind.wrap_u64]
  have e2 : ((X * 2 ^ (7 * i) : Nat) : Int) % 18446744073709551616 = ((X * 2 ^ (7 * i) : Nat) : Int) := by omega
  rw [e2, u64_or_nat _ _ (by omega) (by omega), Nat.or_comm, nat_join (7 * i) (X * 2 ^ (7 * i)) N (Nat.mul_mod_left _ _) e9]
  push_cast
  omega

set_option maxRecDepth 100000 in
theorem or128 (M : Nat) : bits BinOp.or IntKind.u8 ((M : Int) % 256) 128 = ((M % 128 + 128 : Nat) : Int) := by
  rw [u8_or _ _ (by omega) (by omega) (by omega) (by omega)]
  have e : ∀ x : Fin 256, (x.val ||| 128) = x.val % 128 + 128 := by decide
  have := e ⟨M % 256, by omega⟩
  have e2 : ((M : Int) % 256).toNat = M % 256 := by omega
  rw [e2]
  show ((M % 256 ||| 128 : Nat) : Int) = _
  simp only [] at this
  omega

set_option maxRecDepth 100000 in
theorem andNot128 (c : Int) (h0 : 0 ≤ c) (h1 : c ≤ 255) : bits BinOp.andNot IntKind.u8 c 128 = c % 128 := by
  obtain ⟨C, rfl⟩ := Int.eq_ofNat_of_zero_le h0
  rw [u8_andNot _ _ (by omega) (by omega) (by omega) (by omega)]
  have e : ∀ x : Fin 256, (x.val &&& 127) = x.val % 128 := by decide
  have := e ⟨C, by omega⟩
  rw [Int.toNat_natCast]
  show ((C &&& 127 : Nat) : Int) = _
  simp only [] at this
  omega
end Go.Proofs.YtkakcdojbgnocaaGreatDoor

/- Contracts of layer 2's functions and of its reference. -/
namespace Go.Proofs.YtkakcdojbgnocaaGreatDoor
open Go.RowKit
set_option linter.unusedVariables false

theorem sizeC (N : Nat) (w : World) (h : N ≤ 18446744073709551615) :
    Calls Tryz.prog 72 #[.int .u64 (N : Int)] w fun e w' => e = .returned (.int .i64 ((short N).length : Int)) ∧ w = w' := by
  obtain ⟨W, e, hw, hb⟩ := widthI_bounds N h
  have H := Lib.hid e
  clear e
  generalize (short N).length = L at hb ⊢
  go_enter Tryz.func72, Tryz.ntmps72
  go_wp2_with (go_at_call 88; (with_reducible refine (widthC _ _ (by omega) (by omega)).mono ?_); rw [H.out]; rintro e w' ⟨rfl, rfl⟩)
  all_goals go_ret
  all_goals exact ⟨ret_int (by omega), rfl⟩

/-- May this byte stand there? -/
theorem mayC (c : Int) (k : Nat) (w : World) (h0 : 0 ≤ c) (h1 : c ≤ 255) (hk : k ≤ 9) :
    Calls Tryz.prog 90 #[.int .u8 c, .int .i64 (k : Int)] w fun e w' => e = .returned (.bool (!decide ((k ≠ 0 ∧ c = 0) ∨ (k = 9 ∧ 1 < c)))) ∧ w = w' := by
  have hr : ∀ b : Bool, (b = true ↔ ¬ ((k ≠ 0 ∧ c = 0) ∨ (k = 9 ∧ 1 < c))) → b = !decide ((k ≠ 0 ∧ c = 0) ∨ (k = 9 ∧ 1 < c)) := by
    intro b hb; rw [Bool.eq_iff_iff, hb]; simp; omega
  have HR := Lib.hid hr
  clear hr
  generalize (!decide ((k ≠ 0 ∧ c = 0) ∨ (k = 9 ∧ 1 < c))) = r at HR ⊢
  by_cases c1 : k = 9
  · have e1 : ((k : Int) == 9) = true := by simp; omega
    go_enter Tryz.func90, Tryz.ntmps90
    go_wp2
    all_goals go_ret
    all_goals exact ⟨ret_bool (HR.out _ (by simp; omega)), rfl⟩
  · have e1 : ((k : Int) == 9) = false := by simp; omega
    by_cases c2 : k = 0
    · have e2 : ((k : Int) == 0) = true := by simp; omega
      go_enter Tryz.func90, Tryz.ntmps90
      go_wp2
      all_goals go_ret
      all_goals exact ⟨ret_bool (HR.out _ (by simp; omega)), rfl⟩
    · have e2 : ((k : Int) == 0) = false := by simp; omega
      go_enter Tryz.func90, Tryz.ntmps90
      go_wp2
      all_goals go_ret
      all_goals exact ⟨ret_bool (HR.out _ (by simp; omega)), rfl⟩

/-- What begins with a number's bytes, as three values. -/
def GotIs (r : Int × Int × Int) (w : World) (e : Ending) (w' : World) : Prop := e = .returned (.tuple #[.int .u64 r.1, .int .i64 r.2.1, .int .i64 r.2.2]) ∧ w = w'
theorem drop_cons (l : List Int) (k : Nat) (h : k < l.length) : l.drop k = l.getD k 0 :: l.drop (k + 1) := by
  rw [List.drop_eq_getElem_cons h, getD_of_lt l k h]

theorem getC (l : List Int) (a : Option Addr) (c : Nat) (w : World) (ha : Reads w a (l.map (Value.int .u8))) (hl : IsBytes l) (hm : l.length ≤ maxLen) :
    Calls Tryz.prog 75 #[.slice a l.length c] w (GotIs (got l 0 0) w) := by
  unfold maxLen at hm
  generalize hn : l.length = n at hm ⊢
  have hN := Lib.hid hn
  clear hn
  generalize hg : got l 0 0 = r
  have HG := Lib.hid hg
  clear hg
  go_enter Tryz.func75, Tryz.ntmps75
  go_wp2
  go_step3
  go_wp2
  go_step3
  go_wp2
  go_loop [5, 6, 7, 12] (fun v s e i => s = .int .i64 0 ∧ e = .int .i64 2 ∧ ∃ (k : Nat) (m : Int), k ≤ n ∧ k ≤ 9 ∧ 0 ≤ m ∧ m < ((2 ^ (7 * k) : Nat) : Int) ∧ i = .int .i64 k ∧ v = .int .u64 m ∧ Hid (got (l.drop k) k m = r)) (fun _ _ _ i => n - (intOf i).toNat)
  case atStart => exact ⟨rfl, rfl, 0, 0, Nat.zero_le _, by omega, by omega, by decide, rfl, rfl, HG⟩
  case round =>
    obtain ⟨rfl, rfl, k, m, hk, hk9, hm0, hm1, rfl, rfl, H⟩ := hrel
    have hP : 2 ^ (7 * k) ≤ 2 ^ 63 := Nat.pow_le_pow_right (by decide) (by omega)
    by_cases hlt : k < n
    · obtain ⟨B, off, rfl, c0⟩ := ha.at k (by rw [hN.out]; exact hlt)
      have hx := hl.getD k
      have hd := drop_cons l k (by rw [hN.out]; exact hlt)
      have h := H.out
      rw [hd] at h
      clear H hd ha
      generalize l.getD k 0 = x at c0 hx h
      have hA := andNot128 x hx.1 hx.2
      have hlt' : (k : Int) < (n : Int) := by omega
      by_cases c1 : (k ≠ 0 ∧ x = 0) ∨ (k = 9 ∧ 1 < x)
      · rw [got_bad _ _ _ _ c1] at h
        have C1 := Lib.hid c1
        have H := Lib.hid h
        clear h c1
        go_wp2_with (go_at_call 90; (with_reducible refine (mayC _ _ _ hx.1 hx.2 hk9).mono ?_); rw [decide_eq_true C1.out]; rintro e w' ⟨rfl, rfl⟩)
        go_ret3
        exact ⟨by rw [← H.out]; rfl, rfl⟩
      · have hj := join7 m x k hm0 hm1 hx.1 hx.2 hk9 (by omega)
        by_cases c2 : x < 128
        · rw [got_last _ _ _ _ c1 c2] at h
          have C1 := Lib.hid c1
          have H := Lib.hid h
          have HJ := Lib.hid hj
          clear h c1 hj
          go_wp2_with (go_at_call 90; (with_reducible refine (mayC _ _ _ hx.1 hx.2 hk9).mono ?_); rw [decide_eq_false C1.out]; rintro e w' ⟨rfl, rfl⟩)
          rw [Exit.noGoto_ret]
          go_ret3
          exact ⟨by rw [← H.out, ← HJ.out]; rfl, rfl⟩
        · rw [got_more _ _ _ _ c1 c2] at h
          have hk8 : k ≤ 8 := by omega
          have hq : 0 ≤ x % 128 * ((2 ^ (7 * k) : Nat) : Int) := Int.mul_nonneg (by omega) (by omega)
          have hq2 : x % 128 * ((2 ^ (7 * k) : Nat) : Int) ≤ 127 * ((2 ^ (7 * k) : Nat) : Int) := Int.mul_le_mul_of_nonneg_right (by omega) (by omega)
          have hq3 := pow7 k
          have hlo : 0 ≤ m + x % 128 * ((2 ^ (7 * k) : Nat) : Int) := by omega
          have hhi : m + x % 128 * ((2 ^ (7 * k) : Nat) : Int) < ((2 ^ (7 * (k + 1)) : Nat) : Int) := by rw [hq3]; omega
          have C1 := Lib.hid c1
          have H := Lib.hid h
          have HJ := Lib.hid hj
          clear h c1 hj hq hq2 hq3
          go_wp2_with (go_at_call 90; (with_reducible refine (mayC _ _ _ hx.1 hx.2 hk9).mono ?_); rw [decide_eq_false C1.out]; rintro e w' ⟨rfl, rfl⟩)
          go_round
          case rel => exact ⟨rfl, rfl, k + 1, _, by omega, by omega, hlo, hhi, by go_num, by rw [← HJ.out], H⟩
          case measure => simp [intOf]; omega
    · go_wp2
      go_ret3
      have : k = n := by omega
      have h := H.out
      rw [List.drop_of_length_le (by rw [hN.out]; omega)] at h
      exact ⟨by rw [← h]; rfl, rfl⟩

set_option maxRecDepth 100000 in
theorem putC (l : List Int) (a : Option Addr) (c N : Nat) (w : World) (ha : Reads w a (l.map (Value.int .u8))) (hc : a = none → c = 0) (hm : l.length ≤ 1000000000000) (h : N ≤ 18446744073709551615) :
    Calls Tryz.prog 51 #[.slice a l.length c, .int .u64 (N : Int)] w (GivesRow (l ++ short N) w) := by
  obtain ⟨i0, hi, hz0, hz1, hz2⟩ := info_parts info8
  generalize hn : l.length = n at hm ⊢
  have hN := Lib.hid hn
  clear hn
  have hten := short_ten N h
  have hS := sizeC N
  generalize hg : short N = q at hten hS ⊢
  have HG := Lib.hid hg
  clear hg
  generalize hq : q.length = L at hten hS
  have HL := Lib.hid hq
  clear hq
  go_enter Tryz.func51, Tryz.ntmps51
  go_wp2_with (first
    | (go_at_call 72; (with_reducible refine (hS _ h).mono ?_); rintro e w' ⟨rfl, rfl⟩)
    | (at_make; refine wpList_make_own _ rfl _ _ 40 rfl w.heap.size 5 i0 (.int .u8 0) 1 Tryz.underlying40 hi hz0 hz1 .i64 .i64 ((n : Int) + (L : Int)) (n + L) rfl rfl (by push_cast; rfl) (by rw [hz2]; omega) (by unfold maxLen; omega) (Nat.le_refl _) ?_; intro w1 hown1 hgrow1; have hb1 : Below w.heap.size w w1 := (Below.refl _ _).grown hgrow1 (Nat.le_refl _) (by intro k hk; cases hk))
    | (at_builtin; refine wpList_append_reads rfl _ _ 40 rfl 5 i0 (.int .u8 0) 1 Tryz.underlying40 hi hz0 hz1 hz2 rfl hown1 rfl (ha.below' hb1) rfl (by rw [List.length_map, hN.out]) hc (bytes_one l .u8) (by unfold maxLen; omega) (by omega) hb1.size ?_; intro v2 w2 hown2 hb2))
  rw [Nat.zero_add, List.nil_append] at hown2
  have hb := hb1.trans hb2
  clear hb1 hb2 hown1 hgrow1 ha
  go_loopw [1, 5] (fun m v wr => ∃ (p : List Int) (M k : Nat), M ≤ 18446744073709551615 ∧ k < n + L ∧ m = .int .u64 (M : Int) ∧ Hid (p ++ short M = l ++ q) ∧ Hid (p.length = k) ∧ wr.ownsRow w.heap.size 5 1 v k (p.map (Value.int .u8)) ∧ Below w.heap.size w wr) (fun m _ _ => (intOf m).toNat)
  case atStart =>
    have h1 := (short_bounds N).1
    rw [HG.out, HL.out] at h1
    exact ⟨l, N, n, h, by omega, rfl, by unfold Hid; rw [HG.out], hN, hown2, hb⟩
  case round =>
    obtain ⟨p, M, k, hM, hk, rfl, HP, HK, hown, hb'⟩ := hrel
    clear hown2 hb hS
    have hsz := hb'.size
    have hor := or128 M
    by_cases hlt : M < 128
    · have hmod : (M : Int) % 256 = (M : Int) := by omega
      go_wp2_with (at_builtin; refine wpList_append_one rfl _ _ 40 rfl 5 i0 (.int .u8 0) 1 Tryz.underlying40 hi hz0 hz1 hz2 rfl hown rfl rfl rfl (by unfold maxLen; omega) (by omega) hsz ?_; intro v' w1 hown' hbw)
      go_ret
      have e : l ++ q = p ++ [(M : Int)] := by rw [← HP.out, short_lt M hlt]
      refine ⟨_, rfl, ?_, hb'.trans hbw⟩
      rw [e, List.length_append, HK.out, List.map_append]
      simpa [hmod] using hown'
    · have hne : p ++ [((M % 128 + 128 : Nat) : Int)] ++ short (M / 128) = l ++ q := by rw [← HP.out, short_ge M hlt, List.append_assoc]; rfl
      have H2 := Lib.hid hne
      have hlen : k + 1 < n + L := by
        have h1 := congrArg List.length hne
        have h2 := (short_bounds (M / 128)).1
        simp only [List.length_append, List.length_singleton, HK.out, hN.out, HL.out] at h1
        omega
      clear hne
      go_wp2_with (at_builtin; refine wpList_append_one rfl _ _ 40 rfl 5 i0 (.int .u8 0) 1 Tryz.underlying40 hi hz0 hz1 hz2 rfl hown rfl rfl rfl (by unfold maxLen; omega) (by omega) hsz ?_; intro v' w1 hown' hbw)
      go_wp2
      go_roundw
      case rel => exact ⟨p ++ [((M % 128 + 128 : Nat) : Int)], M / 128, k + 1, by omega, hlen, by go_num, H2, by unfold Hid; rw [List.length_append, HK.out]; rfl, by rw [List.map_append]; simpa [hor] using hown', hb'.trans hbw⟩
      case measure => simp [intOf]; omega

set_option maxRecDepth 100000 in
theorem refPutC (N : Nat) (w : World) (h : N ≤ 18446744073709551615) :
    Calls Tryz.prog 62 #[.int .u64 (N : Int)] w (GivesRow (short N) w) := by
  obtain ⟨i0, hi, hz0, hz1, hz2⟩ := info_parts info8
  have hten := short_ten N h
  generalize hg : short N = q at hten ⊢
  have HG := Lib.hid hg
  clear hg
  go_enter Tryz.func62, Tryz.ntmps62
  go_wp2
  go_loopw [0, 3, 4] (fun m v i wr => ∃ (p : List Int) (M k : Nat), M ≤ 18446744073709551615 ∧ k < 10 ∧ m = .int .u64 (M : Int) ∧ i = .int .i64 (k : Int) ∧ Hid (p ++ short M = q) ∧ Hid (p.length = k) ∧ wr.ownsRow w.heap.size 5 1 v k (p.map (Value.int .u8)) ∧ Below w.heap.size w wr) (fun m _ _ _ => (intOf m).toNat)
  case atStart => exact ⟨[], N, 0, h, by omega, rfl, rfl, HG, rfl, World.ownsRow_lit _ #[] 0 (Nat.le_refl _) (by unfold maxLen; omega) rfl, (Below.refl _ _).alloc (Nat.le_refl _) _⟩
  case round =>
    obtain ⟨p, M, k, hM, hk, rfl, rfl, HP, HK, hown, hb'⟩ := hrel
    have hsz := hb'.size
    have hkk : (k : Int) < 10 := by omega
    by_cases hlt : M < 128
    · have hmod : (M : Int) % 256 = (M : Int) := by omega
      go_wp2_with (at_builtin; refine wpList_append_one rfl _ _ 40 rfl 5 i0 (.int .u8 0) 1 Tryz.underlying40 hi hz0 hz1 hz2 rfl hown rfl rfl rfl (by unfold maxLen; omega) (by omega) hsz ?_; intro v' w1 hown' hbw)
      go_ret
      have e : q = p ++ [(M : Int)] := by rw [← HP.out, short_lt M hlt]
      refine ⟨_, rfl, ?_, hb'.trans hbw⟩
      rw [e, List.length_append, HK.out, List.map_append]
      simpa [hmod] using hown'
    · have hne : p ++ [((M % 128 + 128 : Nat) : Int)] ++ short (M / 128) = q := by rw [← HP.out, short_ge M hlt, List.append_assoc]; rfl
      have H2 := Lib.hid hne
      have hlen : k + 1 < 10 := by
        have h1 := congrArg List.length hne
        have h2 := (short_bounds (M / 128)).1
        simp only [List.length_append, List.length_singleton, HK.out] at h1
        omega
      clear hne
      have hv : ((M : Int) % 128 + 128) % 256 = ((M % 128 + 128 : Nat) : Int) := by omega
      go_wp2_with (at_builtin; refine wpList_append_one rfl _ _ 40 rfl 5 i0 (.int .u8 0) 1 Tryz.underlying40 hi hz0 hz1 hz2 rfl hown rfl rfl rfl (by unfold maxLen; omega) (by omega) hsz ?_; intro v' w1 hown' hbw)
      go_wp2
      go_roundw
      case rel => exact ⟨p ++ [((M % 128 + 128 : Nat) : Int)], M / 128, k + 1, by omega, hlen, by go_num, by go_num, H2, by unfold Hid; rw [List.length_append, HK.out]; rfl, by rw [List.map_append]; simpa [hv] using hown', hb'.trans hbw⟩
      case measure => simp [intOf]; omega
end Go.Proofs.YtkakcdojbgnocaaGreatDoor

/- The walks of layer 2's laws. -/
namespace Go.Proofs.YtkakcdojbgnocaaGreatDoor
open Go.RowKit
set_option linter.unusedVariables false

theorem GivesRow.owned {l : List Int} {w w' : World} {e : Ending} (h : GivesRow l w e w') (n : Nat) (hn : l.length = n) : GivesOwned 5 (l.map (Value.int .u8)) n w e w' := by
  subst hn
  obtain ⟨v, rfl, h1, h2⟩ := h
  obtain ⟨a, c, rfl, h3⟩ := Owned.of h1
  exact ⟨a, c, rfl, h3, h2⟩

theorem putO (l q : List Int) (n L : Nat) (a : Option Addr) (c N : Nat) (w : World) (hq : short N = q) (hn : l.length = n) (hL : (l ++ q).length = L) (ha : Reads w a (l.map (Value.int .u8))) (hc : a = none → c = 0) (hm : n ≤ 1000000000000) (h : N ≤ 18446744073709551615) :
    Calls Tryz.prog 51 #[.slice a n c, .int .u64 (N : Int)] w (GivesOwned 5 ((l ++ q).map (Value.int .u8)) L w) := by
  subst hn hq
  exact (putC l a c N w ha hc hm h).mono fun e w' hG => hG.owned L hL

theorem sameO (l : List Int) (n : Nat) (hn : l.length = n) (a b : Option Addr) (c d : Nat) (w : World) (ha : Reads w a (l.map (Value.int .u8))) (hb : Reads w b (l.map (Value.int .u8))) (hm : n ≤ maxLen) :
    Calls Tryz.prog 14 #[.slice a n c, .slice b n d] w fun e w' => e = .returned (.bool true) ∧ ∃ n, w' = w.drewN n := by
  subst hn
  exact sameC l a b c d w ha hb hm

theorem refPutO (q : List Int) (N n : Nat) (w : World) (hq : short N = q) (hn : q.length = n) (h : N ≤ 18446744073709551615) :
    Calls Tryz.prog 62 #[.int .u64 (N : Int)] w (GivesOwned 5 (q.map (Value.int .u8)) n w) := by
  subst hq
  exact (refPutC N w h).mono fun e w' hG => hG.owned n hn

theorem putIntO (l q : List Int) (n L : Nat) (a : Option Addr) (c : Nat) (m : Int) (N : Nat) (w : World) (hN : foldI m = (N : Int)) (hq : short N = q) (hn : l.length = n) (hL : (l ++ q).length = L) (ha : Reads w a (l.map (Value.int .u8))) (hc : a = none → c = 0) (hm : n ≤ 1000000000000) (h : N ≤ 18446744073709551615)
    (h0 : -9223372036854775808 ≤ m) (h1 : m ≤ 9223372036854775807) :
    Calls Tryz.prog 73 #[.slice a n c, .int .i64 m] w (GivesOwned 5 ((l ++ q).map (Value.int .u8)) L w) := by
  have H := Lib.hid hN
  have HQ := Lib.hid hq
  have HN := Lib.hid hn
  have HL := Lib.hid hL
  clear hN hq hn hL
  go_enter Tryz.func73, Tryz.ntmps73
  go_wp2_with (first
    | (go_at_call 89; (with_reducible refine (foldC _ _ h0 h1).mono ?_); rw [H.out]; rintro e w' ⟨rfl, rfl⟩)
    | (go_at_call 51; (with_reducible refine (putO l q n L a c N w HQ.out HN.out HL.out ha hc hm h).mono ?_); rintro e w' ⟨a', c', rfl, ho, hb⟩))
  go_ret
  exact ⟨a', c', rfl, ho, hb⟩

theorem refPutIntO (q : List Int) (N n : Nat) (m : Int) (w : World) (hN : foldI m = (N : Int)) (hq : short N = q) (hn : q.length = n) (h : N ≤ 18446744073709551615)
    (h0 : -9223372036854775808 ≤ m) (h1 : m ≤ 9223372036854775807) :
    Calls Tryz.prog 39 #[.int .i64 m] w (GivesOwned 5 (q.map (Value.int .u8)) n w) := by
  have H := Lib.hid hN
  have HQ := Lib.hid hq
  have HN := Lib.hid hn
  clear hN hq hn
  go_enter Tryz.func39, Tryz.ntmps39
  go_wp2_with (first
    | (go_at_call 63; (with_reducible refine (refFoldC _ _ h0 h1).mono ?_); rw [H.out]; rintro e w' ⟨rfl, rfl⟩)
    | (go_at_call 62; (with_reducible refine (refPutO q N n w HQ.out HN.out h).mono ?_); rintro e w' ⟨a', c', rfl, ho, hb⟩))
  go_ret
  exact ⟨a', c', rfl, ho, hb⟩

theorem getIntC (l : List Int) (a : Option Addr) (c : Nat) (w : World) (ha : Reads w a (l.map (Value.int .u8))) (hl : IsBytes l) (hm : l.length ≤ maxLen) :
    Calls Tryz.prog 91 #[.slice a l.length c] w fun e w' => e = .returned (.tuple #[.int .i64 (unfoldI (got l 0 0).1), .int .i64 (got l 0 0).2.1, .int .i64 (got l 0 0).2.2]) ∧ w = w' := by
  have hr := got_range l 0 0 hl (by omega) (by omega) (by decide)
  have HG := fun w h => getC l a c w h hl hm
  unfold GotIs at HG
  generalize got l 0 0 = r at HG hr ⊢
  obtain ⟨x, k, e⟩ := r
  go_enter Tryz.func91, Tryz.ntmps91
  go_wp2_with (first
    | (go_at_call 75; (with_reducible refine (HG _ ha).mono ?_); rintro e w' ⟨rfl, rfl⟩)
    | (go_at_call 103; (with_reducible refine (unfoldC _ _ hr.1 hr.2).mono ?_); rintro e w' ⟨rfl, rfl⟩))
  go_ret3
  exact ⟨rfl, rfl⟩

end Go.Proofs.YtkakcdojbgnocaaGreatDoor

/- The walks of layer 2's laws on what is got. -/
namespace Go.Proofs.YtkakcdojbgnocaaGreatDoor
open Go.RowKit
set_option linter.unusedVariables false

end Go.Proofs.YtkakcdojbgnocaaGreatDoor
