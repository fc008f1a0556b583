/- Contracts of layer 2's functions and of its reference. -/
import Derived.Test.YtfdiomghoheljaaBitHigh
import Derived.Test.YtfdiomghoheljaaOwn
import Derived.Test.YtfdiomghoheljaaVarPlain
namespace Go.Proofs.Ytfdiomghoheljaa
open Go.RowKit
set_option linter.unusedVariables false

theorem sizeC (N : Nat) (w : World) (h : N ≤ 18446744073709551615) :
    Calls Try.prog 54 #[.int .u64 (N : Int)] w fun e w' => e = .returned (.int .i64 ((short N).length : Int)) ∧ w = w' := by
  obtain ⟨W, e, hw, hb⟩ := widthI_bounds N h
  have H := Lib.hid e
  clear e
  generalize (short N).length = L at hb ⊢
  go_enter Try.func54, Try.ntmps54
  go_wp2_with (go_at_call 57; (with_reducible refine (widthC _ _ (by omega) (by omega)).mono ?_); rw [H.out]; rintro e w' ⟨rfl, rfl⟩)
  all_goals go_ret
  all_goals exact ⟨ret_int (by omega), rfl⟩

/-- May this byte stand there? -/
theorem mayC (c : Int) (k : Nat) (w : World) (h0 : 0 ≤ c) (h1 : c ≤ 255) (hk : k ≤ 9) :
    Calls Try.prog 55 #[.int .u8 c, .int .i64 (k : Int)] w fun e w' => e = .returned (.bool (!decide ((k ≠ 0 ∧ c = 0) ∨ (k = 9 ∧ 1 < c)))) ∧ w = w' := by
  have hr : ∀ b : Bool, (b = true ↔ ¬ ((k ≠ 0 ∧ c = 0) ∨ (k = 9 ∧ 1 < c))) → b = !decide ((k ≠ 0 ∧ c = 0) ∨ (k = 9 ∧ 1 < c)) := by
    intro b hb; rw [Bool.eq_iff_iff, hb]; simp; omega
  have HR := Lib.hid hr
  clear hr
  generalize (!decide ((k ≠ 0 ∧ c = 0) ∨ (k = 9 ∧ 1 < c))) = r at HR ⊢
  by_cases c1 : k = 9
  · have e1 : ((k : Int) == 9) = true := by simp; omega
    go_enter Try.func55, Try.ntmps55
    go_wp2
    all_goals go_ret
    all_goals exact ⟨ret_bool (HR.out _ (by simp; omega)), rfl⟩
  · have e1 : ((k : Int) == 9) = false := by simp; omega
    by_cases c2 : k = 0
    · have e2 : ((k : Int) == 0) = true := by simp; omega
      go_enter Try.func55, Try.ntmps55
      go_wp2
      all_goals go_ret
      all_goals exact ⟨ret_bool (HR.out _ (by simp; omega)), rfl⟩
    · have e2 : ((k : Int) == 0) = false := by simp; omega
      go_enter Try.func55, Try.ntmps55
      go_wp2
      all_goals go_ret
      all_goals exact ⟨ret_bool (HR.out _ (by simp; omega)), rfl⟩

/-- What begins with a number's bytes, as three values. -/
def GotIs (r : Int × Int × Int) (w : World) (e : Ending) (w' : World) : Prop := e = .returned (.tuple #[.int .u64 r.1, .int .i64 r.2.1, .int .i64 r.2.2]) ∧ w = w'
theorem drop_cons (l : List Int) (k : Nat) (h : k < l.length) : l.drop k = l.getD k 0 :: l.drop (k + 1) := by
  rw [List.drop_eq_getElem_cons h, getD_of_lt l k h]

theorem getC (l : List Int) (a : Option Addr) (c : Nat) (w : World) (ha : Reads w a (l.map (Value.int .u8))) (hl : IsBytes l) (hm : l.length ≤ maxLen) :
    Calls Try.prog 49 #[.slice a l.length c] w (GotIs (got l 0 0) w) := by
  unfold maxLen at hm
  generalize hn : l.length = n at hm ⊢
  have hN := Lib.hid hn
  clear hn
  generalize hg : got l 0 0 = r
  have HG := Lib.hid hg
  clear hg
  go_enter Try.func49, Try.ntmps49
  go_wp2
  go_step3
  go_wp2
  go_step3
  go_wp2
  go_loop [5, 6, 7, 12] (fun v s e i => s = .int .i64 0 ∧ e = .int .i64 2 ∧ ∃ (k : Nat) (m : Int), k ≤ n ∧ k ≤ 9 ∧ 0 ≤ m ∧ m < ((2 ^ (7 * k) : Nat) : Int) ∧ i = .int .i64 k ∧ v = .int .u64 m ∧ Hid (got (l.drop k) k m = r)) (fun _ _ _ i => n - (intOf i).toNat)
  case atStart => exact ⟨rfl, rfl, 0, 0, Nat.zero_le _, by omega, by omega, by decide, rfl, rfl, HG⟩
  case round =>
    obtain ⟨rfl, rfl, k, m, hk, hk9, hm0, hm1, rfl, rfl, H⟩ := hrel
    have hP : 2 ^ (7 * k) ≤ 2 ^ 63 := Nat.pow_le_pow_right (by decide) (by omega)
    by_cases hlt : k < n
    · obtain ⟨B, off, rfl, c0⟩ := ha.at k (by rw [hN.out]; exact hlt)
      have hx := hl.getD k
      have hd := drop_cons l k (by rw [hN.out]; exact hlt)
      have h := H.out
      rw [hd] at h
      clear H hd ha
      generalize l.getD k 0 = x at c0 hx h
      have hA := andNot128 x hx.1 hx.2
      have hlt' : (k : Int) < (n : Int) := by omega
      by_cases c1 : (k ≠ 0 ∧ x = 0) ∨ (k = 9 ∧ 1 < x)
      · rw [got_bad _ _ _ _ c1] at h
        have C1 := Lib.hid c1
        have H := Lib.hid h
        clear h c1
        go_wp2_with (go_at_call 55; (with_reducible refine (mayC _ _ _ hx.1 hx.2 hk9).mono ?_); rw [decide_eq_true C1.out]; rintro e w' ⟨rfl, rfl⟩)
        go_ret3
        exact ⟨by rw [← H.out]; rfl, rfl⟩
      · have hj := join7 m x k hm0 hm1 hx.1 hx.2 hk9 (by omega)
        by_cases c2 : x < 128
        · rw [got_last _ _ _ _ c1 c2] at h
          have C1 := Lib.hid c1
          have H := Lib.hid h
          have HJ := Lib.hid hj
          clear h c1 hj
          go_wp2_with (go_at_call 55; (with_reducible refine (mayC _ _ _ hx.1 hx.2 hk9).mono ?_); rw [decide_eq_false C1.out]; rintro e w' ⟨rfl, rfl⟩)
          rw [Exit.noGoto_ret]
          go_ret3
          exact ⟨by rw [← H.out, ← HJ.out]; rfl, rfl⟩
        · rw [got_more _ _ _ _ c1 c2] at h
          have hk8 : k ≤ 8 := by omega
          have hq : 0 ≤ x % 128 * ((2 ^ (7 * k) : Nat) : Int) := Int.mul_nonneg (by omega) (by omega)
          have hq2 : x % 128 * ((2 ^ (7 * k) : Nat) : Int) ≤ 127 * ((2 ^ (7 * k) : Nat) : Int) := Int.mul_le_mul_of_nonneg_right (by omega) (by omega)
          have hq3 := pow7 k
          have hlo : 0 ≤ m + x % 128 * ((2 ^ (7 * k) : Nat) : Int) := by omega
          have hhi : m + x % 128 * ((2 ^ (7 * k) : Nat) : Int) < ((2 ^ (7 * (k + 1)) : Nat) : Int) := by rw [hq3]; omega
          have C1 := Lib.hid c1
          have H := Lib.hid h
          have HJ := Lib.hid hj
          clear h c1 hj hq hq2 hq3
          go_wp2_with (go_at_call 55; (with_reducible refine (mayC _ _ _ hx.1 hx.2 hk9).mono ?_); rw [decide_eq_false C1.out]; rintro e w' ⟨rfl, rfl⟩)
          go_round
          case rel => exact ⟨rfl, rfl, k + 1, _, by omega, by omega, hlo, hhi, by go_num, by rw [← HJ.out], H⟩
          case measure => simp [intOf]; omega
    · go_wp2
      go_ret3
      have : k = n := by omega
      have h := H.out
      rw [List.drop_of_length_le (by rw [hN.out]; omega)] at h
      exact ⟨by rw [← h]; rfl, rfl⟩

set_option maxRecDepth 100000 in
theorem putC (l : List Int) (a : Option Addr) (c N : Nat) (w : World) (ha : Reads w a (l.map (Value.int .u8))) (hc : a = none → c = 0) (hm : l.length ≤ 1000000000000) (h : N ≤ 18446744073709551615) :
    Calls Try.prog 47 #[.slice a l.length c, .int .u64 (N : Int)] w (GivesRow (l ++ short N) w) := by
  obtain ⟨i0, hi, hz0, hz1, hz2⟩ := info_parts info8
  generalize hn : l.length = n at hm ⊢
  have hN := Lib.hid hn
  clear hn
  have hten := short_ten N h
  have hS := sizeC N
  generalize hg : short N = q at hten hS ⊢
  have HG := Lib.hid hg
  clear hg
  generalize hq : q.length = L at hten hS
  have HL := Lib.hid hq
  clear hq
  go_enter Try.func47, Try.ntmps47
  go_wp2_with (first
    | (go_at_call 54; (with_reducible refine (hS _ h).mono ?_); rintro e w' ⟨rfl, rfl⟩)
    | (at_make; refine wpList_make_own _ rfl _ _ 47 rfl w.heap.size 5 i0 (.int .u8 0) 1 Try.underlying47 hi hz0 hz1 .i64 .i64 ((n : Int) + (L : Int)) (n + L) rfl rfl (by push_cast; rfl) (by rw [hz2]; omega) (by unfold maxLen; omega) (Nat.le_refl _) ?_; intro w1 hown1 hgrow1; have hb1 : Below w.heap.size w w1 := (Below.refl _ _).grown hgrow1 (Nat.le_refl _) (by intro k hk; cases hk))
    | (at_builtin; refine wpList_append_reads rfl _ _ 47 rfl 5 i0 (.int .u8 0) 1 Try.underlying47 hi hz0 hz1 hz2 rfl hown1 rfl (ha.below' hb1) rfl (by rw [List.length_map, hN.out]) hc (bytes_one l .u8) (by unfold maxLen; omega) (by omega) hb1.size ?_; intro v2 w2 hown2 hb2))
  rw [Nat.zero_add, List.nil_append] at hown2
  have hb := hb1.trans hb2
  clear hb1 hb2 hown1 hgrow1 ha
  go_loopw [1, 5] (fun m v wr => ∃ (p : List Int) (M k : Nat), M ≤ 18446744073709551615 ∧ k < n + L ∧ m = .int .u64 (M : Int) ∧ Hid (p ++ short M = l ++ q) ∧ Hid (p.length = k) ∧ wr.ownsRow w.heap.size 5 1 v k (p.map (Value.int .u8)) ∧ Below w.heap.size w wr) (fun m _ _ => (intOf m).toNat)
  case atStart =>
    have h1 := (short_bounds N).1
    rw [HG.out, HL.out] at h1
    exact ⟨l, N, n, h, by omega, rfl, by unfold Hid; rw [HG.out], hN, hown2, hb⟩
  case round =>
    obtain ⟨p, M, k, hM, hk, rfl, HP, HK, hown, hb'⟩ := hrel
    clear hown2 hb hS
    have hsz := hb'.size
    have hor := or128 M
    by_cases hlt : M < 128
    · have hmod : (M : Int) % 256 = (M : Int) := by omega
      go_wp2_with (at_builtin; refine wpList_append_one rfl _ _ 47 rfl 5 i0 (.int .u8 0) 1 Try.underlying47 hi hz0 hz1 hz2 rfl hown rfl rfl rfl (by unfold maxLen; omega) (by omega) hsz ?_; intro v' w1 hown' hbw)
      go_ret
      have e : l ++ q = p ++ [(M : Int)] := by rw [← HP.out, short_lt M hlt]
      refine ⟨_, rfl, ?_, hb'.trans hbw⟩
      rw [e, List.length_append, HK.out, List.map_append]
      simpa [hmod] using hown'
    · have hne : p ++ [((M % 128 + 128 : Nat) : Int)] ++ short (M / 128) = l ++ q := by rw [← HP.out, short_ge M hlt, List.append_assoc]; rfl
      have H2 := Lib.hid hne
      have hlen : k + 1 < n + L := by
        have h1 := congrArg List.length hne
        have h2 := (short_bounds (M / 128)).1
        simp only [List.length_append, List.length_singleton, HK.out, hN.out, HL.out] at h1
        omega
      clear hne
      go_wp2_with (at_builtin; refine wpList_append_one rfl _ _ 47 rfl 5 i0 (.int .u8 0) 1 Try.underlying47 hi hz0 hz1 hz2 rfl hown rfl rfl rfl (by unfold maxLen; omega) (by omega) hsz ?_; intro v' w1 hown' hbw)
      go_wp2
      go_roundw
      case rel => exact ⟨p ++ [((M % 128 + 128 : Nat) : Int)], M / 128, k + 1, by omega, hlen, by go_num, H2, by unfold Hid; rw [List.length_append, HK.out]; rfl, by rw [List.map_append]; simpa [hor] using hown', hb'.trans hbw⟩
      case measure => simp [intOf]; omega

set_option maxRecDepth 100000 in
theorem refPutC (N : Nat) (w : World) (h : N ≤ 18446744073709551615) :
    Calls Try.prog 51 #[.int .u64 (N : Int)] w (GivesRow (short N) w) := by
  obtain ⟨i0, hi, hz0, hz1, hz2⟩ := info_parts info8
  have hten := short_ten N h
  generalize hg : short N = q at hten ⊢
  have HG := Lib.hid hg
  clear hg
  go_enter Try.func51, Try.ntmps51
  go_wp2
  go_loopw [0, 3, 4] (fun m v i wr => ∃ (p : List Int) (M k : Nat), M ≤ 18446744073709551615 ∧ k < 10 ∧ m = .int .u64 (M : Int) ∧ i = .int .i64 (k : Int) ∧ Hid (p ++ short M = q) ∧ Hid (p.length = k) ∧ wr.ownsRow w.heap.size 5 1 v k (p.map (Value.int .u8)) ∧ Below w.heap.size w wr) (fun m _ _ _ => (intOf m).toNat)
  case atStart => exact ⟨[], N, 0, h, by omega, rfl, rfl, HG, rfl, World.ownsRow_lit _ #[] 0 (Nat.le_refl _) (by unfold maxLen; omega) rfl, (Below.refl _ _).alloc (Nat.le_refl _) _⟩
  case round =>
    obtain ⟨p, M, k, hM, hk, rfl, rfl, HP, HK, hown, hb'⟩ := hrel
    have hsz := hb'.size
    have hkk : (k : Int) < 10 := by omega
    by_cases hlt : M < 128
    · have hmod : (M : Int) % 256 = (M : Int) := by omega
      go_wp2_with (at_builtin; refine wpList_append_one rfl _ _ 47 rfl 5 i0 (.int .u8 0) 1 Try.underlying47 hi hz0 hz1 hz2 rfl hown rfl rfl rfl (by unfold maxLen; omega) (by omega) hsz ?_; intro v' w1 hown' hbw)
      go_ret
      have e : q = p ++ [(M : Int)] := by rw [← HP.out, short_lt M hlt]
      refine ⟨_, rfl, ?_, hb'.trans hbw⟩
      rw [e, List.length_append, HK.out, List.map_append]
      simpa [hmod] using hown'
    · have hne : p ++ [((M % 128 + 128 : Nat) : Int)] ++ short (M / 128) = q := by rw [← HP.out, short_ge M hlt, List.append_assoc]; rfl
      have H2 := Lib.hid hne
      have hlen : k + 1 < 10 := by
        have h1 := congrArg List.length hne
        have h2 := (short_bounds (M / 128)).1
        simp only [List.length_append, List.length_singleton, HK.out] at h1
        omega
      clear hne
      have hv : ((M : Int) % 128 + 128) % 256 = ((M % 128 + 128 : Nat) : Int) := by omega
      go_wp2_with (at_builtin; refine wpList_append_one rfl _ _ 47 rfl 5 i0 (.int .u8 0) 1 Try.underlying47 hi hz0 hz1 hz2 rfl hown rfl rfl rfl (by unfold maxLen; omega) (by omega) hsz ?_; intro v' w1 hown' hbw)
      go_wp2
      go_roundw
      case rel => exact ⟨p ++ [((M % 128 + 128 : Nat) : Int)], M / 128, k + 1, by omega, hlen, by go_num, by go_num, H2, by unfold Hid; rw [List.length_append, HK.out]; rfl, by rw [List.map_append]; simpa [hv] using hown', hb'.trans hbw⟩
      case measure => simp [intOf]; omega
end Go.Proofs.Ytfdiomghoheljaa
