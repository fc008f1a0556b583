/- Contracts and plain words that the laws' proofs stand on, put together. -/
import Derived.Test.YtkakcdojbgnocaaDoorLibAA
import Derived.Test.YtkakcdojbgnocaaDoorLibAB
import Derived.Deep.RegionHeld3
/- A number's short bytes, and what bytes begin with: plain, with no program in it. -/
namespace Go.Proofs.YtkakcdojbgnocaaDoor
set_option linter.unusedVariables false

/-- A number's short bytes. -/
def short (n : Nat) : List Int := if h : n < 128 then [(n : Int)] else ((n % 128 + 128 : Nat) : Int) :: short (n / 128)
termination_by n
decreasing_by omega
theorem short_lt (n : Nat) (h : n < 128) : short n = [(n : Int)] := by rw [short, dif_pos h]
theorem short_ge (n : Nat) (h : ¬ n < 128) : short n = ((n % 128 + 128 : Nat) : Int) :: short (n / 128) := by rw [short, dif_neg h]

theorem short_bytes (n : Nat) : IsBytes (short n) := by
  induction n using Nat.strongRecOn with
  | _ n ih =>
    by_cases h : n < 128
    · rw [short_lt n h]; intro x hx; simp at hx; subst hx; omega
    · rw [short_ge n h]; intro x hx
      rcases List.mem_cons.mp hx with rfl | hx
      · omega
      · exact ih _ (by omega) x hx

theorem short_bounds (n : Nat) : 1 ≤ (short n).length ∧ n < 2 ^ (7 * (short n).length) ∧ (2 ≤ (short n).length → 2 ^ (7 * ((short n).length - 1)) ≤ n) := by
  induction n using Nat.strongRecOn with
  | _ n ih =>
    by_cases h : n < 128
    · rw [short_lt n h]; simp; omega
    · rw [short_ge n h]
      obtain ⟨h1, h2, h3⟩ := ih (n / 128) (by omega)
      simp only [List.length_cons]
      generalize (short (n / 128)).length = L at h1 h2 h3 ⊢
      refine ⟨by omega, ?_, fun _ => ?_⟩
      · rw [Nat.mul_add, Nat.pow_add]
        generalize 2 ^ (7 * L) = P at h2 ⊢
        omega
      · rw [Nat.add_sub_cancel]
        by_cases c : 2 ≤ L
        · have h4 := h3 c
          have e : 7 * L = 7 * (L - 1) + 7 := by omega
          rw [e, Nat.pow_add]
          generalize 2 ^ (7 * (L - 1)) = P at h4 ⊢
          omega
        · have : L = 1 := by omega
          subst this
          omega

theorem pow_lt_of (a b : Nat) (h : 2 ^ a < 2 ^ b) : a < b := (Nat.pow_lt_pow_iff_right (by decide)).mp h

theorem short_len (n k : Nat) (hk : 1 ≤ k) (h : n < 2 ^ (7 * k)) : (short n).length ≤ k := by
  obtain ⟨h1, h2, h3⟩ := short_bounds n
  by_cases c : 2 ≤ (short n).length
  · have := pow_lt_of _ _ (Nat.lt_of_le_of_lt (h3 c) h)
    omega
  · omega

theorem short_ten (n : Nat) (h : n ≤ 18446744073709551615) : (short n).length ≤ 10 := short_len n 10 (by omega) (by omega)

theorem widthTo_bounds (N : Nat) : ∀ k, N < 2 ^ k → ∃ w : Nat, widthTo N k = (w : Int) ∧ w ≤ k ∧ N < 2 ^ w ∧ (1 ≤ w → 2 ^ (w - 1) ≤ N)
  | 0, h => ⟨0, rfl, Nat.le_refl _, h, by omega⟩
  | k + 1, h => by
    have hp := Nat.two_pow_pos k
    by_cases hz : N / 2 ^ k = 0
    · have h1 := (Nat.div_eq_zero_iff_lt hp).mp hz
      obtain ⟨w, e, hw, h2, h3⟩ := widthTo_bounds N k h1
      exact ⟨w, by rw [width_same N k hz, e], by omega, h2, h3⟩
    · refine ⟨k + 1, width_next N k hz, Nat.le_refl _, h, fun _ => ?_⟩
      rw [Nat.add_sub_cancel]
      rcases Nat.lt_or_ge N (2 ^ k) with c | c
      · exact absurd ((Nat.div_eq_zero_iff_lt hp).mpr c) hz
      · exact c

theorem widthI_bounds (N : Nat) (h : N ≤ 18446744073709551615) : ∃ w : Nat, widthI N = (w : Int) ∧ w ≤ 64 ∧ ((short N).length = 1 ∧ w ≤ 7 ∨ 2 ≤ (short N).length ∧ (w + 6) / 7 = (short N).length) := by
  obtain ⟨w, e, hw, h2, h3⟩ := widthTo_bounds N 64 (by omega)
  refine ⟨w, by unfold widthI; rw [Int.toNat_natCast, e], hw, ?_⟩
  obtain ⟨b1, b2, b3⟩ := short_bounds N
  have hw2 : w ≤ 7 * (short N).length := by
    by_cases c : 1 ≤ w
    · have := pow_lt_of _ _ (Nat.lt_of_le_of_lt (h3 c) b2)
      omega
    · omega
  by_cases c : 2 ≤ (short N).length
  · have := pow_lt_of _ _ (Nat.lt_of_le_of_lt (b3 c) h2)
    right
    omega
  · left
    omega

/-- What bytes begin with: the number, how many bytes it has, the error's number; with i bytes taken, which gave n. -/
def got : List Int → Nat → Int → Int × Int × Int
  | [], _, _ => (0, 0, 2)
  | c :: r, i, n =>
    if (i ≠ 0 ∧ c = 0) ∨ (i = 9 ∧ 1 < c) then (0, 0, 1)
    else if c < 128 then (n + c % 128 * ((2 ^ (7 * i) : Nat) : Int), (i : Int) + 1, 0)
    else got r (i + 1) (n + c % 128 * ((2 ^ (7 * i) : Nat) : Int))
theorem got_bad (c : Int) (r : List Int) (i : Nat) (n : Int) (h : (i ≠ 0 ∧ c = 0) ∨ (i = 9 ∧ 1 < c)) : got (c :: r) i n = (0, 0, 1) := by rw [got, if_pos h]
theorem got_last (c : Int) (r : List Int) (i : Nat) (n : Int) (h : ¬ ((i ≠ 0 ∧ c = 0) ∨ (i = 9 ∧ 1 < c))) (h2 : c < 128) : got (c :: r) i n = (n + c % 128 * ((2 ^ (7 * i) : Nat) : Int), (i : Int) + 1, 0) := by rw [got, if_neg h, if_pos h2]
theorem got_more (c : Int) (r : List Int) (i : Nat) (n : Int) (h : ¬ ((i ≠ 0 ∧ c = 0) ∨ (i = 9 ∧ 1 < c))) (h2 : ¬ c < 128) : got (c :: r) i n = got r (i + 1) (n + c % 128 * ((2 ^ (7 * i) : Nat) : Int)) := by rw [got, if_neg h, if_neg h2]

theorem pow7 (i : Nat) : 2 ^ (7 * (i + 1)) = 128 * 2 ^ (7 * i) := by rw [Nat.mul_add, Nat.pow_add]; omega
theorem split128 (M : Nat) (P : Int) : ((M % 128 : Nat) : Int) * P + ((M / 128 : Nat) : Int) * (128 * P) = (M : Int) * P := by
  have e : (M : Int) = ((M % 128 : Nat) : Int) + 128 * ((M / 128 : Nat) : Int) := by omega
  rw [Int.mul_left_comm, ← Int.mul_assoc, ← Int.add_mul, ← e]

theorem got_short (M : Nat) : ∀ (i : Nat) (n : Int) (r : List Int), M * 2 ^ (7 * i) < 18446744073709551616 → (i ≠ 0 → M ≠ 0) →
    got (short M ++ r) i n = (n + (M : Int) * ((2 ^ (7 * i) : Nat) : Int), (i : Int) + ((short M).length : Int), 0) := by
  induction M using Nat.strongRecOn with
  | _ M ih =>
    intro i n r hlt hz
    have h9 : i = 9 → M ≤ 1 := by intro h; subst h; omega
    by_cases h : M < 128
    · rw [short_lt M h, List.singleton_append, got_last _ _ _ _ (by omega) (by omega)]
      have : (M : Int) % 128 = (M : Int) := by omega
      rw [this]; simp
    · rw [short_ge M h, List.cons_append, got_more _ _ _ _ (by omega) (by omega), ih (M / 128) (by omega) (i + 1) _ r ?_ (by omega)]
      · have e : ((M % 128 + 128 : Nat) : Int) % 128 = ((M % 128 : Nat) : Int) := by omega
        rw [e, pow7]
        have e2 := split128 M ((2 ^ (7 * i) : Nat) : Int)
        have e3 : ((128 * 2 ^ (7 * i) : Nat) : Int) = 128 * ((2 ^ (7 * i) : Nat) : Int) := by rw [Int.natCast_mul]; rfl
        rw [e3, Int.add_assoc, e2, List.length_cons]
        congr 2
        omega
      · rw [pow7, ← Nat.mul_assoc]
        exact Nat.lt_of_le_of_lt (Nat.mul_le_mul_right _ (by omega)) hlt

theorem got_back (N : Nat) (r : List Int) (h : N ≤ 18446744073709551615) : got (short N ++ r) 0 0 = ((N : Int), ((short N).length : Int), 0) := by
  rw [got_short N 0 0 r (by simp; omega) (by simp)]
  simp

set_option maxRecDepth 100000 in
theorem or128 (M : Nat) : bits BinOp.or IntKind.u8 ((M : Int) % 256) 128 = ((M % 128 + 128 : Nat) : Int) := by
  rw [u8_or _ _ (by omega) (by omega) (by omega) (by omega)]
  have e : ∀ x : Fin 256, (x.val ||| 128) = x.val % 128 + 128 := by decide
  have := e ⟨M % 256, by omega⟩
  have e2 : ((M : Int) % 256).toNat = M % 256 := by omega
  rw [e2]
  show ((M % 256 ||| 128 : Nat) : Int) = _
  simp only [] at this
  omega

end Go.Proofs.YtkakcdojbgnocaaDoor

/- Contracts of layer 2's functions and of its reference. -/
namespace Go.Proofs.YtkakcdojbgnocaaDoor
open Go.RowKit
set_option linter.unusedVariables false

theorem sizeC (N : Nat) (w : World) (h : N ≤ 18446744073709551615) :
    Calls Tryd.prog 40 #[.int .u64 (N : Int)] w fun e w' => e = .returned (.int .i64 ((short N).length : Int)) ∧ w = w' := by
  obtain ⟨W, e, hw, hb⟩ := widthI_bounds N h
  have H := Lib.hid e
  clear e
  generalize (short N).length = L at hb ⊢
  go_enter Tryd.func40, Tryd.ntmps40
  go_wp2_with (go_at_call 48; (with_reducible refine (widthC _ _ (by omega) (by omega)).mono ?_); rw [H.out]; rintro e w' ⟨rfl, rfl⟩)
  all_goals go_ret
  all_goals exact ⟨ret_int (by omega), rfl⟩

set_option maxRecDepth 100000 in
theorem putC (l : List Int) (a : Option Addr) (c N : Nat) (w : World) (ha : Reads w a (l.map (Value.int .u8))) (hc : a = none → c = 0) (hm : l.length ≤ 1000000000000) (h : N ≤ 18446744073709551615) :
    Calls Tryd.prog 33 #[.slice a l.length c, .int .u64 (N : Int)] w (GivesRow (l ++ short N) w) := by
  obtain ⟨i0, hi, hz0, hz1, hz2⟩ := info_parts info8
  generalize hn : l.length = n at hm ⊢
  have hN := Lib.hid hn
  clear hn
  have hten := short_ten N h
  have hS := sizeC N
  generalize hg : short N = q at hten hS ⊢
  have HG := Lib.hid hg
  clear hg
  generalize hq : q.length = L at hten hS
  have HL := Lib.hid hq
  clear hq
  go_enter Tryd.func33, Tryd.ntmps33
  go_wp2_with (first
    | (go_at_call 40; (with_reducible refine (hS _ h).mono ?_); rintro e w' ⟨rfl, rfl⟩)
    | (at_make; refine wpList_make_own _ rfl _ _ 39 rfl w.heap.size 5 i0 (.int .u8 0) 1 Tryd.underlying39 hi hz0 hz1 .i64 .i64 ((n : Int) + (L : Int)) (n + L) rfl rfl (by push_cast; rfl) (by rw [hz2]; omega) (by unfold maxLen; omega) (Nat.le_refl _) ?_; intro w1 hown1 hgrow1; have hb1 : Below w.heap.size w w1 := (Below.refl _ _).grown hgrow1 (Nat.le_refl _) (by intro k hk; cases hk))
    | (at_builtin; refine wpList_append_reads rfl _ _ 39 rfl 5 i0 (.int .u8 0) 1 Tryd.underlying39 hi hz0 hz1 hz2 rfl hown1 rfl (ha.below' hb1) rfl (by rw [List.length_map, hN.out]) hc (bytes_one l .u8) (by unfold maxLen; omega) (by omega) hb1.size ?_; intro v2 w2 hown2 hb2))
  rw [Nat.zero_add, List.nil_append] at hown2
  have hb := hb1.trans hb2
  clear hb1 hb2 hown1 hgrow1 ha
  go_loopw [1, 5] (fun m v wr => ∃ (p : List Int) (M k : Nat), M ≤ 18446744073709551615 ∧ k < n + L ∧ m = .int .u64 (M : Int) ∧ Hid (p ++ short M = l ++ q) ∧ Hid (p.length = k) ∧ wr.ownsRow w.heap.size 5 1 v k (p.map (Value.int .u8)) ∧ Below w.heap.size w wr) (fun m _ _ => (intOf m).toNat)
  case atStart =>
    have h1 := (short_bounds N).1
    rw [HG.out, HL.out] at h1
    exact ⟨l, N, n, h, by omega, rfl, by unfold Hid; rw [HG.out], hN, hown2, hb⟩
  case round =>
    obtain ⟨p, M, k, hM, hk, rfl, HP, HK, hown, hb'⟩ := hrel
    clear hown2 hb hS
    have hsz := hb'.size
    have hor := or128 M
    by_cases hlt : M < 128
    · have hmod : (M : Int) % 256 = (M : Int) := by omega
      go_wp2_with (at_builtin; refine wpList_append_one rfl _ _ 39 rfl 5 i0 (.int .u8 0) 1 Tryd.underlying39 hi hz0 hz1 hz2 rfl hown rfl rfl rfl (by unfold maxLen; omega) (by omega) hsz ?_; intro v' w1 hown' hbw)
      go_ret
      have e : l ++ q = p ++ [(M : Int)] := by rw [← HP.out, short_lt M hlt]
      refine ⟨_, rfl, ?_, hb'.trans hbw⟩
      rw [e, List.length_append, HK.out, List.map_append]
      simpa [hmod] using hown'
    · have hne : p ++ [((M % 128 + 128 : Nat) : Int)] ++ short (M / 128) = l ++ q := by rw [← HP.out, short_ge M hlt, List.append_assoc]; rfl
      have H2 := Lib.hid hne
      have hlen : k + 1 < n + L := by
        have h1 := congrArg List.length hne
        have h2 := (short_bounds (M / 128)).1
        simp only [List.length_append, List.length_singleton, HK.out, hN.out, HL.out] at h1
        omega
      clear hne
      go_wp2_with (at_builtin; refine wpList_append_one rfl _ _ 39 rfl 5 i0 (.int .u8 0) 1 Tryd.underlying39 hi hz0 hz1 hz2 rfl hown rfl rfl rfl (by unfold maxLen; omega) (by omega) hsz ?_; intro v' w1 hown' hbw)
      go_wp2
      go_roundw
      case rel => exact ⟨p ++ [((M % 128 + 128 : Nat) : Int)], M / 128, k + 1, by omega, hlen, by go_num, H2, by unfold Hid; rw [List.length_append, HK.out]; rfl, by rw [List.map_append]; simpa [hor] using hown', hb'.trans hbw⟩
      case measure => simp [intOf]; omega

end Go.Proofs.YtkakcdojbgnocaaDoor

/- The walks of layer 2's laws. -/
namespace Go.Proofs.YtkakcdojbgnocaaDoor
open Go.RowKit
set_option linter.unusedVariables false

theorem GivesRow.owned {l : List Int} {w w' : World} {e : Ending} (h : GivesRow l w e w') (n : Nat) (hn : l.length = n) : GivesOwned 5 (l.map (Value.int .u8)) n w e w' := by
  subst hn
  obtain ⟨v, rfl, h1, h2⟩ := h
  obtain ⟨a, c, rfl, h3⟩ := Owned.of h1
  exact ⟨a, c, rfl, h3, h2⟩

theorem putO (l q : List Int) (n L : Nat) (a : Option Addr) (c N : Nat) (w : World) (hq : short N = q) (hn : l.length = n) (hL : (l ++ q).length = L) (ha : Reads w a (l.map (Value.int .u8))) (hc : a = none → c = 0) (hm : n ≤ 1000000000000) (h : N ≤ 18446744073709551615) :
    Calls Tryd.prog 33 #[.slice a n c, .int .u64 (N : Int)] w (GivesOwned 5 ((l ++ q).map (Value.int .u8)) L w) := by
  subst hn hq
  exact (putC l a c N w ha hc hm h).mono fun e w' hG => hG.owned L hL

theorem putIntO (l q : List Int) (n L : Nat) (a : Option Addr) (c : Nat) (m : Int) (N : Nat) (w : World) (hN : foldI m = (N : Int)) (hq : short N = q) (hn : l.length = n) (hL : (l ++ q).length = L) (ha : Reads w a (l.map (Value.int .u8))) (hc : a = none → c = 0) (hm : n ≤ 1000000000000) (h : N ≤ 18446744073709551615)
    (h0 : -9223372036854775808 ≤ m) (h1 : m ≤ 9223372036854775807) :
    Calls Tryd.prog 41 #[.slice a n c, .int .i64 m] w (GivesOwned 5 ((l ++ q).map (Value.int .u8)) L w) := by
  have H := Lib.hid hN
  have HQ := Lib.hid hq
  have HN := Lib.hid hn
  have HL := Lib.hid hL
  clear hN hq hn hL
  go_enter Tryd.func41, Tryd.ntmps41
  go_wp2_with (first
    | (go_at_call 49; (with_reducible refine (foldC _ _ h0 h1).mono ?_); rw [H.out]; rintro e w' ⟨rfl, rfl⟩)
    | (go_at_call 33; (with_reducible refine (putO l q n L a c N w HQ.out HN.out HL.out ha hc hm h).mono ?_); rintro e w' ⟨a', c', rfl, ho, hb⟩))
  go_ret
  exact ⟨a', c', rfl, ho, hb⟩

end Go.Proofs.YtkakcdojbgnocaaDoor

/- The walks of layer 2's laws on what is got. -/
namespace Go.Proofs.YtkakcdojbgnocaaDoor
open Go.RowKit
set_option linter.unusedVariables false

end Go.Proofs.YtkakcdojbgnocaaDoor
