/- The walks of layer 2's laws. -/
import Derived.Test.YtnabkohepmcjoaaVar
import Derived.Test.YtnabkohepmcjoaaOpen
namespace Go.Proofs.Ytnabkohepmcjoaa
open Go.RowKit
set_option linter.unusedVariables false

theorem GivesRow.owned {l : List Int} {w w' : World} {e : Ending} (h : GivesRow l w e w') (n : Nat) (hn : l.length = n) : GivesOwned 5 (l.map (Value.int .u8)) n w e w' := by
  subst hn
  obtain ⟨v, rfl, h1, h2⟩ := h
  obtain ⟨a, c, rfl, h3⟩ := Owned.of h1
  exact ⟨a, c, rfl, h3, h2⟩

theorem putO (l q : List Int) (n L : Nat) (a : Option Addr) (c N : Nat) (w : World) (hq : short N = q) (hn : l.length = n) (hL : (l ++ q).length = L) (ha : Reads w a (l.map (Value.int .u8))) (hc : a = none → c = 0) (hm : n ≤ 1000000000000) (h : N ≤ 18446744073709551615) :
    Calls Try.prog 8 #[.slice a n c, .int .u64 (N : Int)] w (GivesOwned 5 ((l ++ q).map (Value.int .u8)) L w) := by
  subst hn hq
  exact (putC l a c N w ha hc hm h).mono fun e w' hG => hG.owned L hL

theorem sameO (l : List Int) (n : Nat) (hn : l.length = n) (a b : Option Addr) (c d : Nat) (w : World) (ha : Reads w a (l.map (Value.int .u8))) (hb : Reads w b (l.map (Value.int .u8))) (hm : n ≤ maxLen) :
    Calls Try.prog 11 #[.slice a n c, .slice b n d] w fun e w' => e = .returned (.bool true) ∧ ∃ n, w' = w.drewN n := by
  subst hn
  exact sameC l a b c d w ha hb hm

theorem refPutO (q : List Int) (N n : Nat) (w : World) (hq : short N = q) (hn : q.length = n) (h : N ≤ 18446744073709551615) :
    Calls Try.prog 10 #[.int .u64 (N : Int)] w (GivesOwned 5 (q.map (Value.int .u8)) n w) := by
  subst hq
  exact (refPutC N w h).mono fun e w' hG => hG.owned n hn

theorem putIntO (l q : List Int) (n L : Nat) (a : Option Addr) (c : Nat) (m : Int) (N : Nat) (w : World) (hN : foldI m = (N : Int)) (hq : short N = q) (hn : l.length = n) (hL : (l ++ q).length = L) (ha : Reads w a (l.map (Value.int .u8))) (hc : a = none → c = 0) (hm : n ≤ 1000000000000) (h : N ≤ 18446744073709551615)
    (h0 : -9223372036854775808 ≤ m) (h1 : m ≤ 9223372036854775807) :
    Calls Try.prog 9 #[.slice a n c, .int .i64 m] w (GivesOwned 5 ((l ++ q).map (Value.int .u8)) L w) := by
  have H := Lib.hid hN
  have HQ := Lib.hid hq
  have HN := Lib.hid hn
  have HL := Lib.hid hL
  clear hN hq hn hL
  go_enter Try.func9, Try.ntmps9
  go_wp2_with (first
    | (go_at_call 18; (with_reducible refine (foldC _ _ h0 h1).mono ?_); rw [H.out]; rintro e w' ⟨rfl, rfl⟩)
    | (go_at_call 8; (with_reducible refine (putO l q n L a c N w HQ.out HN.out HL.out ha hc hm h).mono ?_); rintro e w' ⟨a', c', rfl, ho, hb⟩))
  go_ret
  exact ⟨a', c', rfl, ho, hb⟩

theorem refPutIntO (q : List Int) (N n : Nat) (m : Int) (w : World) (hN : foldI m = (N : Int)) (hq : short N = q) (hn : q.length = n) (h : N ≤ 18446744073709551615)
    (h0 : -9223372036854775808 ≤ m) (h1 : m ≤ 9223372036854775807) :
    Calls Try.prog 12 #[.int .i64 m] w (GivesOwned 5 (q.map (Value.int .u8)) n w) := by
  have H := Lib.hid hN
  have HQ := Lib.hid hq
  have HN := Lib.hid hn
  clear hN hq hn
  go_enter Try.func12, Try.ntmps12
  go_wp2_with (first
    | (go_at_call 17; (with_reducible refine (refFoldC _ _ h0 h1).mono ?_); rw [H.out]; rintro e w' ⟨rfl, rfl⟩)
    | (go_at_call 10; (with_reducible refine (refPutO q N n w HQ.out HN.out h).mono ?_); rintro e w' ⟨a', c', rfl, ho, hb⟩))
  go_ret
  exact ⟨a', c', rfl, ho, hb⟩

theorem short300 : short 300 = [172, 2] := by rw [short_ge 300 (by omega), short_lt _ (by omega)]; rfl
theorem got172 : got [172, 2, 9] 0 0 = (300, 2, 0) := by decide

theorem put300 (w : World) : Calls Try.prog 8 #[.slice none 0 0, .int .u64 300] w (GivesOwned 5 [.int .u8 172, .int .u8 2] 2 w) :=
  putO [] [172, 2] 0 2 none 0 300 w short300 rfl rfl (Reads.nil _ _) (fun _ => rfl) (by omega) (by omega)
theorem get172 (w : World) (a : Option Addr) (hr : Reads w a [.int .u8 172, .int .u8 2, .int .u8 9]) :
    Calls Try.prog 14 #[.slice a 3 3] w fun e w' => e = .returned (.tuple #[.int .u64 300, .int .i64 2, .int .i64 0]) ∧ w = w' := by
  refine (getC [172, 2, 9] _ 3 w hr (by unfold IsBytes; decide) (by unfold maxLen; simp)).mono ?_
  rintro e w' ⟨rfl, rfl⟩
  exact ⟨by rw [got172], rfl⟩

set_option maxRecDepth 100000 in
theorem awake02C (w : World) : Calls Try.prog 7 #[] w fun e w' => e = .returned (.bool true) ∧ Below w.heap.size w w' := by
  go_enter Try.func7, Try.ntmps7
  go_wp2_with (first
    | (go_at_call 8; (with_reducible refine (put300 _).mono ?_); rintro e w1 ⟨a1, c1, rfl, ho1, hb1⟩)
    | (go_at_call 14; refine (get172 _ _ (reads_new _ [.int .u8 172, .int .u8 2, .int .u8 9] _)).mono ?_; rintro e w' ⟨rfl, rfl⟩))
  have hb2 := below_alloc w1 (.cells #[.int .u8 172, .int .u8 2, .int .u8 9] 5)
  have hr := ho1.reads.below' hb2
  obtain ⟨g, rfl, -, -⟩ := ho1.head (by omega)
  obtain ⟨_, _, e0, hc0⟩ := hr 0 _ rfl
  cases e0
  obtain ⟨_, _, e0, hc1⟩ := hr 1 _ rfl
  cases e0
  clear hr ho1
  have hbb := hb1.trans (hb2.mono hb1.size)
  clear hb1 hb2
  simp only [Nat.add_zero, Nat.zero_add] at hc0 hc1
  go_wp2
  unfold Oper.upon
  simp [go_sem]
  go_wp2
  go_ret
  exact ⟨rfl, hbb⟩

theorem varintPuts_long (a0 : Option Addr) (n0 c0 : Nat) (n m : Int) (w : World) (h : 1000 < n0) :
    Calls Try.prog 3 #[.slice a0 n0 c0, .int .u64 n, .int .i64 m] w fun e w' => e = .returned (.bool true) ∧ Below w.heap.size w w' := by
  go_enter Try.func3, Try.ntmps3
  go_wp2_with (go_at_call 7; (with_reducible refine (awake02C _).mono ?_); rintro e w' ⟨rfl, hb⟩)
  go_ret
  exact ⟨rfl, hb⟩

set_option maxRecDepth 100000 in
theorem varintPuts_short (l : List Int) (a0 : Option Addr) (n0 c0 N : Nat) (m : Int) (w : World) (h : n0 ≤ 1000) (ha : Reads w a0 (l.map (Value.int .u8))) (hl : l.length = n0) (hc : a0 = none → c0 = 0)
    (h0 : N ≤ 18446744073709551615) (h1 : -9223372036854775808 ≤ m) (h2 : m ≤ 9223372036854775807) :
    Calls Try.prog 3 #[.slice a0 n0 c0, .int .u64 (N : Int), .int .i64 m] w fun e w' => e = .returned (.bool true) ∧ Below w.heap.size w w' := by
  obtain ⟨i0, hi, hz0, hz1, hz2⟩ := info_parts info8
  have hf := foldI_le m h1 h2
  obtain ⟨M, hM⟩ := Int.eq_ofNat_of_zero_le hf.1
  rw [hM] at hf
  have hM2 : M ≤ 18446744073709551615 := by omega
  have HM := Lib.hid hM
  clear hM hf
  have hten1 := short_ten N h0
  have hten2 := short_ten M hM2
  have HS := sizeC N
  generalize hq1 : short N = q1 at hten1 HS
  generalize hq2 : short M = q2 at hten2
  have hL1 : (l ++ q1).length = n0 + q1.length := by rw [List.length_append, hl]
  have hL2 : (l ++ q2).length = n0 + q2.length := by rw [List.length_append, hl]
  generalize hk1 : q1.length = k1 at hten1 HS hL1
  generalize hk2 : q2.length = k2 at hten2 hL2
  have HQ1 := Lib.hid hq1
  have HQ2 := Lib.hid hq2
  have HK1 := Lib.hid hk1
  have HK2 := Lib.hid hk2
  have HL1 := Lib.hid hL1
  have HL2 := Lib.hid hL2
  have HL := Lib.hid hl
  clear hq1 hq2 hk1 hk2 hL1 hL2 hl
  go_enter Try.func3, Try.ntmps3
  go_wp2_with (first
    | (go_at_call 8; (with_reducible refine (putO l q1 n0 (n0 + k1) _ _ N _ HQ1.out HL.out HL1.out ha hc (by omega) h0).mono ?_); rintro e w1 ⟨a1, c1, rfl, ho1, hb1⟩)
    | (go_at_call 9; (with_reducible refine (putIntO l q2 n0 (n0 + k2) _ _ m M _ HM.out HQ2.out HL.out HL2.out (ha.below' hb1) hc (by omega) hM2 h1 h2).mono ?_); rintro e w2 ⟨a2, c2, rfl, ho2, hb2⟩)
    | (go_at_call 10; (with_reducible refine (refPutO q1 N k1 _ HQ1.out HK1.out h0).mono ?_); rintro e w3 ⟨a3, c3, rfl, ho3, hb3⟩)
    | (at_builtin; refine wpList_append_lit rfl (.tmp 23) (.tmp 24) 22 rfl 5 i0 (.int .u8 0) 1 Try.underlying22 hi hz0 hz1 hz2 rfl rfl (((ha.below' hb1).below' hb2).below' hb3) rfl (by rw [List.length_map, HL.out]) hc (bytes_one l .u8) (by unfold maxLen; omega) (by omega) ?_; intro a4 c4 w4 ho4 hb4)
    | (at_builtin; refine wpList_append_to rfl (.tmp 25) (.tmp 26) 22 rfl 5 i0 (.int .u8 0) 1 Try.underlying22 hi hz0 hz1 hz2 rfl ho4 rfl (ho3.reads.below' hb4) rfl (by rw [List.length_map, HK1.out]) ho3.nil0 (bytes_one q1 .u8) (n0 + k1) rfl (by unfold maxLen; omega) (by omega) hb4.size ?_; intro a5 c5 w5 ho5 hb5; rw [← List.map_append] at ho5; have hb35 := hb4.trans hb5)
    | (go_at_call 11; (with_reducible refine (sameO (l ++ q1) (n0 + k1) HL1.out a1 a5 _ _ w5 (((ho1.reads.below' hb2).below' hb3).below' hb35) ho5.reads (by unfold maxLen; omega)).mono ?_); rintro e w' ⟨rfl, d, rfl⟩; have hb05 : Below w.heap.size w (w5.drewN d) := below_drewN (hb1.trans ((hb2.mono hb1.size).trans ((hb3.mono (Nat.le_trans hb1.size hb2.size)).trans (hb35.mono (Nat.le_trans hb1.size (Nat.le_trans hb2.size hb3.size)))))) d; have ha5 := (((ha.below' hb1).below' hb2).below' hb3).below' hb35; have ha5' := ha5.drewN d; have hr2 := ((ho2.reads.below' hb3).below' hb35).drewN d; clear ho1 ho2 ho3 ho4 ho5 hb1 hb2 hb3 hb4 hb5 hb35 ha ha5)
    | (at_builtin; refine wpList_guard (by rfl) ?_; refine wpList_append_lit rfl (.tmp 31) (.tmp 32) 22 rfl 5 i0 (.int .u8 0) 1 Try.underlying22 hi hz0 hz1 hz2 rfl rfl ha5' rfl (by rw [List.length_map, HL.out]) hc (bytes_one l .u8) (by unfold maxLen; omega) (by omega) ?_; intro a6 c6 w6 ho6 hb6)
    | (go_at_call 12; (with_reducible refine (refPutIntO q2 M k2 m _ HM.out HQ2.out HK2.out hM2 h1 h2).mono ?_); rintro e w7 ⟨a7, c7, rfl, ho7, hb7⟩)
    | (at_builtin; refine wpList_guard (by rfl) ?_; refine wpList_append_to rfl (.tmp 33) (.tmp 35) 22 rfl 5 i0 (.int .u8 0) 1 Try.underlying22 hi hz0 hz1 hz2 rfl (ho6.below hb7 (Nat.le_refl _)) rfl ho7.reads rfl (by rw [List.length_map, HK2.out]) ho7.nil0 (bytes_one q2 .u8) (n0 + k2) rfl (by unfold maxLen; omega) (by omega) (Nat.le_trans hb6.size hb7.size) ?_; intro a8 c8 w8 ho8 hb8; rw [← List.map_append] at ho8; have hb58 := hb6.trans ((hb7.mono hb6.size).trans hb8))
    | (go_at_call 11; (with_reducible refine (sameO (l ++ q2) (n0 + k2) HL2.out a2 a8 _ _ w8 (hr2.below' hb58) ho8.reads (by unfold maxLen; omega)).mono ?_); rintro e w' ⟨rfl, d', rfl⟩; have hb08 := below_drewN (hb05.trans (hb58.mono hb05.size)) d'; clear ho6 ho7 ho8 hb6 hb7 hb8 hb58 hb05)
    | (go_at_call 13; (with_reducible refine (HS _ h0).mono ?_); rintro e w' ⟨rfl, rfl⟩)
    | (go_at_call 7; (with_reducible refine (awake02C _).mono ?_); rintro e w9 ⟨rfl, hb9⟩))
  go_ret
  exact ⟨rfl, hb08.trans (hb9.mono hb08.size)⟩

theorem varintPuts_walk (a0 : Option Addr) (n0 c0 : Nat) (z0 : List Int) (n m : Int) (w : World) (w0 : IsRow .u8 w a0 n0 c0 z0) (w1 : (Lit.int .u64 n).wf = true) (w2 : (Lit.int .i64 m).wf = true) :
    Calls Try.prog 3 #[.slice a0 n0 c0, .int .u64 n, .int .i64 m] w fun e w' => e = .returned (.bool true) ∧ Below w.heap.size w w' := by
  have b1 := wfU64 w1
  have b2 := wfI64 w2
  by_cases c : 1000 < n0
  · exact varintPuts_long a0 n0 c0 n m w c
  · obtain ⟨N, rfl⟩ := Int.eq_ofNat_of_zero_le b1.1
    obtain ⟨h1, h2, _⟩ := isRow_reads w0
    exact varintPuts_short (z0.take n0) a0 n0 c0 N m w (by omega) h1 h2 (isRow_nil w0) (by omega) b2.1 b2.2

theorem getIntC (l : List Int) (a : Option Addr) (c : Nat) (w : World) (ha : Reads w a (l.map (Value.int .u8))) (hl : IsBytes l) (hm : l.length ≤ maxLen) :
    Calls Try.prog 15 #[.slice a l.length c] w fun e w' => e = .returned (.tuple #[.int .i64 (unfoldI (got l 0 0).1), .int .i64 (got l 0 0).2.1, .int .i64 (got l 0 0).2.2]) ∧ w = w' := by
  have hr := got_range l 0 0 hl (by omega) (by omega) (by decide)
  have HG := fun w h => getC l a c w h hl hm
  unfold GotIs at HG
  generalize got l 0 0 = r at HG hr ⊢
  obtain ⟨x, k, e⟩ := r
  go_enter Try.func15, Try.ntmps15
  go_wp2_with (first
    | (go_at_call 14; (with_reducible refine (HG _ ha).mono ?_); rintro e w' ⟨rfl, rfl⟩)
    | (go_at_call 21; (with_reducible refine (unfoldC _ _ hr.1 hr.2).mono ?_); rintro e w' ⟨rfl, rfl⟩))
  go_ret3
  exact ⟨rfl, rfl⟩

theorem refGetC (l : List Int) (a : Option Addr) (c : Nat) (w : World) (ha : Reads w a (l.map (Value.int .u8))) (hl : IsBytes l) (hm : l.length ≤ maxLen) :
    Calls Try.prog 16 #[.slice a l.length c] w (GotIs (got l 0 0) w) := by
  unfold maxLen at hm
  generalize hn : l.length = n at hm ⊢
  have hN := Lib.hid hn
  clear hn
  generalize hg : got l 0 0 = r
  have HG := Lib.hid hg
  clear hg
  go_enter Try.func16, Try.ntmps16
  go_wp2
  go_loop [5, 6] (fun v i => ∃ (k : Nat) (m : Int), k ≤ n ∧ k ≤ 9 ∧ 0 ≤ m ∧ m < ((2 ^ (7 * k) : Nat) : Int) ∧ i = .int .i64 k ∧ v = .int .u64 m ∧ Hid (got (l.drop k) k m = r)) (fun _ i => n - (intOf i).toNat)
  case atStart => exact ⟨0, 0, Nat.zero_le _, by omega, by omega, by decide, rfl, rfl, HG⟩
  case round =>
    obtain ⟨k, m, hk, hk9, hm0, hm1, rfl, rfl, H⟩ := hrel
    have hP : 2 ^ (7 * k) ≤ 2 ^ 63 := Nat.pow_le_pow_right (by decide) (by omega)
    by_cases hlt : k < n
    · obtain ⟨B, off, rfl, c0⟩ := ha.at k (by rw [hN.out]; exact hlt)
      have hx := hl.getD k
      have hd := drop_cons l k (by rw [hN.out]; exact hlt)
      have h := H.out
      rw [hd] at h
      clear H hd ha
      generalize l.getD k 0 = x at c0 hx h
      have hlt' : (k : Int) < (n : Int) := by omega
      have hp7 : ((7 * (k : Int)).toNat) = 7 * k := by omega
      by_cases c1 : (k ≠ 0 ∧ x = 0) ∨ (k = 9 ∧ 1 < x)
      · rw [got_bad _ _ _ _ c1] at h
        have H := Lib.hid h
        clear h
        rcases c1 with ⟨c1, rfl⟩ | ⟨rfl, c1⟩
        · have c2 : (0 : Int) < (k : Int) := by omega
          go_wp2
          go_ret3
          exact ⟨by rw [← H.out]; rfl, rfl⟩
        · have c3 : (x == 0) = false := by simp; omega
          go_wp2
          go_ret3
          exact ⟨by rw [← H.out]; rfl, rfl⟩
      · have hq : 0 ≤ x % 128 * ((2 ^ (7 * k) : Nat) : Int) := Int.mul_nonneg (by omega) (by omega)
        have hq9 : k = 9 → x ≤ 1 := by omega
        have hq2 : x % 128 * ((2 ^ (7 * k) : Nat) : Int) ≤ 127 * ((2 ^ (7 * k) : Nat) : Int) := Int.mul_le_mul_of_nonneg_right (by omega) (by omega)
        have hq4 : m + x % 128 * ((2 ^ (7 * k) : Nat) : Int) ≤ 18446744073709551615 := by
          by_cases c : k = 9
          · subst c
            have := hq9 rfl
            omega
          · have hP2 : 2 ^ (7 * k) ≤ 2 ^ 56 := Nat.pow_le_pow_right (by decide) (by omega)
            omega
        have hcase : (¬ (0 : Int) < k ∧ ((k : Int) == 9) = false) ∨ ((0 : Int) < k ∧ (x == 0) = false ∧ ((k : Int) == 9) = true ∧ ¬ 1 < x) ∨ ((0 : Int) < k ∧ (x == 0) = false ∧ ((k : Int) == 9) = false) := by
          simp only [beq_eq_false_iff_ne, beq_iff_eq, ne_eq]; omega
        have hk8 : ¬ x < 128 → k ≤ 8 := by omega
        have hpw := pow7 k
        by_cases c2 : x < 128
        · rw [got_last _ _ _ _ c1 c2] at h
          have H := Lib.hid h
          clear h c1 hpw hk8 hP
          generalize hQ : ((2 ^ (7 * k) : Nat) : Int) = Q at H hq hq2 hq4 hm1
          have HQ := Lib.hid hQ
          clear hQ hq9
          generalize hX : x % 128 * Q = X at H hq hq2 hq4
          have HX := Lib.hid hX
          rcases hcase with ⟨g1, g2⟩ | ⟨g1, g2, g3, g4⟩ | ⟨g1, g2, g3⟩
          all_goals
            go_wp2_with (go_at_call 22; (with_reducible refine (powerC _ _ (by omega) (by omega)).mono ?_); rw [hp7, HQ.out]; rintro e w' ⟨rfl, rfl⟩)
            go_ret3
            exact ⟨by rw [← H.out]; rfl, rfl⟩
        · rw [got_more _ _ _ _ c1 c2] at h
          have H := Lib.hid h
          have hk8' := hk8 c2
          clear h c1 hk8 hP
          have hm2 : m + x % 128 * ((2 ^ (7 * k) : Nat) : Int) < ((2 ^ (7 * (k + 1)) : Nat) : Int) := by rw [hpw]; omega
          have HM2 := Lib.hid hm2
          clear hm2 hpw
          generalize hQ : ((2 ^ (7 * k) : Nat) : Int) = Q at H hq hq2 hq4 hm1 HM2
          have HQ := Lib.hid hQ
          clear hQ hq9
          generalize hX : x % 128 * Q = X at H hq hq2 hq4 HM2
          have HX := Lib.hid hX
          rcases hcase with ⟨g1, g2⟩ | ⟨g1, g2, g3, g4⟩ | ⟨g1, g2, g3⟩
          · go_wp2_with (go_at_call 22; (with_reducible refine (powerC _ _ (by omega) (by omega)).mono ?_); rw [hp7, HQ.out]; rintro e w' ⟨rfl, rfl⟩)
            go_round
            case rel => exact ⟨k + 1, m + X, by omega, by omega, by omega, HM2.out, by go_num, by go_num, H⟩
            case measure => simp [intOf]; omega
          · omega
          · go_wp2_with (go_at_call 22; (with_reducible refine (powerC _ _ (by omega) (by omega)).mono ?_); rw [hp7, HQ.out]; rintro e w' ⟨rfl, rfl⟩)
            go_round
            case rel => exact ⟨k + 1, m + X, by omega, by omega, by omega, HM2.out, by go_num, by go_num, H⟩
            case measure => simp [intOf]; omega
    · go_wp2
      go_ret3
      have : k = n := by omega
      have h := H.out
      rw [List.drop_of_length_le (by rw [hN.out]; omega)] at h
      exact ⟨by rw [← h]; rfl, rfl⟩
end Go.Proofs.Ytnabkohepmcjoaa
