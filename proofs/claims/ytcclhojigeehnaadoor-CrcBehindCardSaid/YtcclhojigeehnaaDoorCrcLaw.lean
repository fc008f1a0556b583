/- The walks of layer 3's laws: sums, changes, zeros, places behind. -/
import Derived.Test.YtcclhojigeehnaaDoorCrc
import Derived.Test.YtcclhojigeehnaaDoorOpen
import Derived.Test.YtcclhojigeehnaaDoorOwnZero
import Derived.Test.YtcclhojigeehnaaDoorInfo
namespace Go.Proofs.YtcclhojigeehnaaDoor
open Go.RowKit
set_option linter.unusedVariables false

theorem crcSums_long (a0 : Option Addr) (n0 c0 : Nat) (w : World) (hT : CTab w) (h : 1000 < n0) :
    Calls Tryd.prog 3 #[.slice a0 n0 c0] w fun e w' => e = .returned (.bool true) ∧ Below w.heap.size w w' := by
  have HT := Lib.hid hT
  clear hT
  go_enter Tryd.func3, Tryd.ntmps3
  go_wp2_with (go_at_call 8; (with_reducible refine (awake03C _ HT.out).mono ?_); rintro e w' ⟨rfl, hb⟩)
  go_ret
  exact ⟨rfl, hb⟩

theorem crcSums_short (l : List Int) (a0 : Option Addr) (n0 c0 : Nat) (w : World) (hT : CTab w) (h : n0 ≤ 1000) (hl : l.length = n0) (ha : Reads w a0 (l.map (Value.int .u8))) (hb : IsBytes l) :
    Calls Tryd.prog 3 #[.slice a0 n0 c0] w fun e w' => e = .returned (.bool true) ∧ Below w.heap.size w w' := by
  have H1 := fun w ha hT => sumC l n0 a0 c0 w hl ha hb (by unfold maxLen; omega) hT
  have H2 := fun w ha => refSumC l n0 a0 c0 w hl ha hb (by unfold maxLen; omega)
  unfold SumIs at H1
  generalize cSum l = s at H1 H2
  have HT := Lib.hid hT
  clear hT hl hb
  go_enter Tryd.func3, Tryd.ntmps3
  go_wp2_with (first
    | (go_at_call 9; (with_reducible refine (H1 _ ha HT.out).mono ?_); rintro e w1 ⟨rfl, hb1⟩)
    | (go_at_call 10; (with_reducible refine (H2 _ (ha.below' hb1)).mono ?_); rintro e w' ⟨rfl, rfl⟩)
    | (go_at_call 8; (with_reducible refine (awake03C _ (HT.out.below hb1)).mono ?_); rintro e w2 ⟨rfl, hb2⟩))
  go_ret
  exact ⟨rfl, hb1.trans (hb2.mono hb1.size)⟩

theorem crcSums_walk (a0 : Option Addr) (n0 c0 : Nat) (z0 : List Int) (w : World) (w0 : IsRow .u8 w a0 n0 c0 z0) (hT : CTab w) :
    Calls Tryd.prog 3 #[.slice a0 n0 c0] w fun e w' => e = .returned (.bool true) ∧ Below w.heap.size w w' := by
  by_cases c : 1000 < n0
  · exact crcSums_long a0 n0 c0 w hT c
  · obtain ⟨h1, h2, _⟩ := isRow_reads w0
    exact crcSums_short _ a0 n0 c0 w hT (by omega) h2 h1 (isRow_bytes w0)

theorem crcBehind_far (a b : Int) (m c : Int) (w : World) (hT : CTab w) (ha : -9223372036854775808 ≤ a ∧ a ≤ 9223372036854775807) (hb : -9223372036854775808 ≤ b ∧ b ≤ 9223372036854775807) (hm : -9223372036854775808 ≤ m ∧ m ≤ 9223372036854775807)
    (h : a < 0 ∨ 500 < a ∨ b < 0 ∨ 500 < b ∨ m < 0 ∨ 500 < m) :
    Calls Tryd.prog 7 #[.agg #[.int .i64 a, .int .i64 b], .int .i64 m, .int .u8 c] w fun e w' => e = .returned (.bool true) ∧ Below w.heap.size w w' := by
  have hb1 := below_alloc w (.cells #[.int .i64 a, .int .i64 b] 40)
  have HT := Lib.hid (hT.below hb1)
  have H := Lib.hid h
  clear h hT
  by_cases c1 : a < 0
  · go_enter Tryd.func7, Tryd.ntmps7
    go_wp2_with (go_at_call 8; (with_reducible refine (awake03C _ HT.out).mono ?_); rintro e w' ⟨rfl, hb⟩)
    go_ret
    exact ⟨rfl, hb1.trans (hb.mono hb1.size)⟩
  · by_cases c2 : 500 < a
    · go_enter Tryd.func7, Tryd.ntmps7
      go_wp2_with (go_at_call 8; (with_reducible refine (awake03C _ HT.out).mono ?_); rintro e w' ⟨rfl, hb⟩)
      go_ret
      exact ⟨rfl, hb1.trans (hb.mono hb1.size)⟩
    · by_cases c3 : b < 0
      · go_enter Tryd.func7, Tryd.ntmps7
        go_wp2_with (go_at_call 8; (with_reducible refine (awake03C _ HT.out).mono ?_); rintro e w' ⟨rfl, hb⟩)
        go_ret
        exact ⟨rfl, hb1.trans (hb.mono hb1.size)⟩
      · by_cases c4 : 500 < b
        · go_enter Tryd.func7, Tryd.ntmps7
          go_wp2_with (go_at_call 8; (with_reducible refine (awake03C _ HT.out).mono ?_); rintro e w' ⟨rfl, hb⟩)
          go_ret
          exact ⟨rfl, hb1.trans (hb.mono hb1.size)⟩
        · by_cases c5 : m < 0
          · go_enter Tryd.func7, Tryd.ntmps7
            go_wp2_with (go_at_call 8; (with_reducible refine (awake03C _ HT.out).mono ?_); rintro e w' ⟨rfl, hb⟩)
            go_ret
            exact ⟨rfl, hb1.trans (hb.mono hb1.size)⟩
          · have c6 : 500 < m := by have := H.out; omega
            go_enter Tryd.func7, Tryd.ntmps7
            go_wp2_with (go_at_call 8; (with_reducible refine (awake03C _ HT.out).mono ?_); rintro e w' ⟨rfl, hb⟩)
            go_ret
            exact ⟨rfl, hb1.trans (hb.mono hb1.size)⟩

theorem crcBehind_near (a b m c : Nat) (w : World) (hT : CTab w) (ha : a ≤ 500) (hb : b ≤ 500) (hm : m ≤ 500) (hc : c < 256) :
    Calls Tryd.prog 7 #[.agg #[.int .i64 (a : Int), .int .i64 (b : Int)], .int .i64 (m : Int), .int .u8 (c : Int)] w fun e w' => e = .returned (.bool true) ∧ Below w.heap.size w w' := by
  have hb1 := below_alloc w (.cells #[.int .i64 (a : Int), .int .i64 (b : Int)] 40)
  have HT := Lib.hid (hT.below hb1)
  clear hT
  have H1 := fun w hT => changeYes (a + 1 + m) a m c w hT (by omega) rfl hc
  have H2 := fun w hT => changeYes (b + 1 + m) b m c w hT (by omega) rfl hc
  unfold SumErr at H1 H2
  generalize cZeros (cByte 0 c) m = s at H1 H2
  rw [show ((a + 1 + m : Nat) : Int) = (a : Int) + 1 + (m : Int) by omega] at H1
  rw [show ((b + 1 + m : Nat) : Int) = (b : Int) + 1 + (m : Int) by omega] at H2
  go_enter Tryd.func7, Tryd.ntmps7
  go_wp2_with (first
    | (go_at_call 14; (with_reducible refine (H1 _ HT.out).mono ?_); rintro e w' ⟨rfl, rfl⟩)
    | (go_at_call 14; (with_reducible refine (H2 _ HT.out).mono ?_); rintro e w' ⟨rfl, rfl⟩)
    | (go_at_call 8; (with_reducible refine (awake03C _ HT.out).mono ?_); rintro e w2 ⟨rfl, hb2⟩))
  go_ret
  exact ⟨rfl, hb1.trans (hb2.mono hb1.size)⟩

theorem crcBehind_walk (a b m c : Int) (w : World) (wa : (Lit.int .i64 a).wf = true) (wb : (Lit.int .i64 b).wf = true) (wm : (Lit.int .i64 m).wf = true) (wc : (Lit.int .u8 c).wf = true) (hT : CTab w) :
    Calls Tryd.prog 7 #[.agg #[.int .i64 a, .int .i64 b], .int .i64 m, .int .u8 c] w fun e w' => e = .returned (.bool true) ∧ Below w.heap.size w w' := by
  have ha := wfI64 wa
  have hb := wfI64 wb
  have hm := wfI64 wm
  have hc := wfU8 wc
  by_cases h : a < 0 ∨ 500 < a ∨ b < 0 ∨ 500 < b ∨ m < 0 ∨ 500 < m
  · exact crcBehind_far a b m c w hT ha hb hm h
  · obtain ⟨A, rfl⟩ := Int.eq_ofNat_of_zero_le (show 0 ≤ a by omega)
    obtain ⟨B, rfl⟩ := Int.eq_ofNat_of_zero_le (show 0 ≤ b by omega)
    obtain ⟨M, rfl⟩ := Int.eq_ofNat_of_zero_le (show 0 ≤ m by omega)
    obtain ⟨C, rfl⟩ := Int.eq_ofNat_of_zero_le hc.1
    exact crcBehind_near A B M C w hT (by omega) (by omega) (by omega) (by omega)

theorem crcZeros_awake (a0 : Option Addr) (n0 c0 : Nat) (n : Int) (w : World) (hT : CTab w) (hn : -9223372036854775808 ≤ n ∧ n ≤ 9223372036854775807) (h : 500 < n0 ∨ (500 < n ∧ n ≤ 1048576)) :
    Calls Tryd.prog 6 #[.slice a0 n0 c0, .int .i64 n] w fun e w' => e = .returned (.bool true) ∧ Below w.heap.size w w' := by
  have HT := Lib.hid hT
  have H := Lib.hid h
  clear hT h
  by_cases c : 500 < n0
  · have c' : (500 : Int) < (n0 : Int) := by omega
    go_enter Tryd.func6, Tryd.ntmps6
    go_wp2_with (go_at_call 8; (with_reducible refine (awake03C _ HT.out).mono ?_); rintro e w' ⟨rfl, hb⟩)
    go_ret
    exact ⟨rfl, hb⟩
  · have c2 : 500 < n := by have := H.out; omega
    have c3 : n ≤ 1048576 := by have := H.out; omega
    go_enter Tryd.func6, Tryd.ntmps6
    go_wp2_with (go_at_call 8; (with_reducible refine (awake03C _ HT.out).mono ?_); rintro e w' ⟨rfl, hb⟩)
    go_ret
    exact ⟨rfl, hb⟩

theorem crcZeros_out (l : List Int) (a0 : Option Addr) (n0 c0 : Nat) (n : Int) (w : World) (hT : CTab w) (hn : -9223372036854775808 ≤ n ∧ n ≤ 9223372036854775807) (h0 : n0 ≤ 500) (h : n < 0 ∨ 1048576 < n)
    (hl : l.length = n0) (ha : Reads w a0 (l.map (Value.int .u8))) (hb : IsBytes l) :
    Calls Tryd.prog 6 #[.slice a0 n0 c0, .int .i64 n] w fun e w' => e = .returned (.bool true) ∧ Below w.heap.size w w' := by
  have H1 := fun w ha hT => sumC l n0 a0 c0 w hl ha hb (by unfold maxLen; omega) hT
  have H2 := fun w => zerosNo (cSum l) n w hn.1 hn.2 h
  unfold SumIs at H1
  unfold SumErr at H2
  generalize cSum l = s at H1 H2
  have HT := Lib.hid hT
  have H := Lib.hid h
  clear hT hl hb h
  by_cases c : n < 0
  · go_enter Tryd.func6, Tryd.ntmps6
    go_wp2_with (first
      | (go_at_call 9; (with_reducible refine (H1 _ ha HT.out).mono ?_); rintro e w1 ⟨rfl, hb1⟩)
      | (go_at_call 15; (with_reducible refine (H2 _).mono ?_); rintro e w' ⟨rfl, rfl⟩)
      | (go_at_call 8; (with_reducible refine (awake03C _ (HT.out.below hb1)).mono ?_); rintro e w2 ⟨rfl, hb2⟩))
    go_ret
    exact ⟨rfl, hb1.trans (hb2.mono hb1.size)⟩
  · have c2 : 1048576 < n := by have := H.out; omega
    go_enter Tryd.func6, Tryd.ntmps6
    go_wp2_with (first
      | (go_at_call 9; (with_reducible refine (H1 _ ha HT.out).mono ?_); rintro e w1 ⟨rfl, hb1⟩)
      | (go_at_call 15; (with_reducible refine (H2 _).mono ?_); rintro e w' ⟨rfl, rfl⟩)
      | (go_at_call 8; (with_reducible refine (awake03C _ (HT.out.below hb1)).mono ?_); rintro e w2 ⟨rfl, hb2⟩))
    go_ret
    exact ⟨rfl, hb1.trans (hb2.mono hb1.size)⟩

theorem sum_zeros (l : List Int) (n : Nat) : cSum (l ++ List.replicate n 0) = 4294967295 - cZeros (cRun 4294967295 l) n := by
  unfold cSum
  rw [cRun_append, cRun_zeros]
theorem sum_back (l : List Int) (hb : IsBytes l) : 4294967295 - cSum l = cRun 4294967295 l := by
  have := cRun_lt l 4294967295 hb (by omega)
  unfold cSum
  omega
theorem zeros_bytes (l : List Int) (n : Nat) (hb : IsBytes l) : IsBytes (l ++ List.replicate n 0) := fun x hx => by
  rcases List.mem_append.mp hx with h | h
  · exact hb x h
  · rw [List.eq_of_mem_replicate h]; omega

set_option maxRecDepth 100000 in
theorem crcZeros_in (l : List Int) (a0 : Option Addr) (n0 c0 n : Nat) (w : World) (hT : CTab w) (h0 : n0 ≤ 500) (h1 : n ≤ 500)
    (hl : l.length = n0) (ha : Reads w a0 (l.map (Value.int .u8))) (hb : IsBytes l) (hc : a0 = none → c0 = 0) :
    Calls Tryd.prog 6 #[.slice a0 n0 c0, .int .i64 (n : Int)] w fun e w' => e = .returned (.bool true) ∧ Below w.heap.size w w' := by
  obtain ⟨i0, hi, hz0, hz1, hz2⟩ := info_parts info8
  have H1 := fun w ha hT => sumC l n0 a0 c0 w hl ha hb (by unfold maxLen; omega) hT
  have H2 := fun w hT => zerosYes (cSum l) n w (by have := cSum_le l; omega) hT (by omega)
  have H3 := fun w a c ha => refSumC (l ++ List.replicate n 0) (n0 + n) a c w (by rw [List.length_append, hl, List.length_replicate]) ha (zeros_bytes l n hb) (by unfold maxLen; omega)
  rw [sum_zeros, ← sum_back l hb] at H3
  unfold SumIs at H1
  unfold SumErr at H2
  generalize cSum l = s at H1 H2 H3
  generalize 4294967295 - cZeros (4294967295 - s) n = z at H2 H3
  have HL := Lib.hid hl
  have HT := Lib.hid hT
  clear hT hl hb
  go_enter Tryd.func6, Tryd.ntmps6
  go_wp2_with (first
    | (go_at_call 9; (with_reducible refine (H1 _ ha HT.out).mono ?_); rintro e w1 ⟨rfl, hb1⟩)
    | (go_at_call 15; (with_reducible refine (H2 _ (HT.out.below hb1)).mono ?_); rintro e w' ⟨rfl, rfl⟩)
    | (at_builtin; refine wpList_guard (by rfl) ?_; refine wpList_append_lit rfl (.tmp 45) (.tmp 46) 22 rfl 5 i0 (.int .u8 0) 1 Tryd.underlying22 hi hz0 hz1 hz2 rfl rfl (ha.below' hb1) rfl (by rw [List.length_map, HL.out]) hc (bytes_one l .u8) (by unfold maxLen; omega) (by omega) ?_; intro a2 c2 w2 ho2 hb2)
    | (at_builtin; refine wpList_guard (by rfl) ?_; refine wpList_append_zeros rfl (.tmp 47) (.tmp 48) 22 3 rfl 5 i0 (.int .u8 0) (.int .u8 0) 1 .i64 Tryd.underlying22 Tryd.underlying3 hi hz0 hz1 hz2 rfl rfl ho2 rfl rfl (n0 + n) rfl (by unfold maxLen; omega) (by omega) hb2.size ?_; intro a3 c3 w3 ho3 hb3; have hr3 := ho3.reads; rw [show List.map (Value.int .u8) l ++ List.replicate n (Value.int .u8 0) = (l ++ List.replicate n 0).map (Value.int .u8) by rw [List.map_append, List.map_replicate]] at hr3; have hb03 := hb1.trans ((hb2.trans hb3).mono hb1.size); clear ho2 ho3 hb2 hb3)
    | (go_at_call 10; (with_reducible refine (H3 _ _ _ hr3).mono ?_); rintro e w' ⟨rfl, rfl⟩)
    | (go_at_call 8; (with_reducible refine (awake03C _ (HT.out.below hb03)).mono ?_); rintro e w4 ⟨rfl, hb4⟩))
  go_ret
  exact ⟨rfl, hb03.trans (hb4.mono hb03.size)⟩

theorem crcZeros_walk (a0 : Option Addr) (n0 c0 : Nat) (z0 : List Int) (n : Int) (w : World) (w0 : IsRow .u8 w a0 n0 c0 z0) (w1 : (Lit.int .i64 n).wf = true) (hT : CTab w) :
    Calls Tryd.prog 6 #[.slice a0 n0 c0, .int .i64 n] w fun e w' => e = .returned (.bool true) ∧ Below w.heap.size w w' := by
  have hn := wfI64 w1
  obtain ⟨h1, h2, _⟩ := isRow_reads w0
  by_cases c : 500 < n0 ∨ (500 < n ∧ n ≤ 1048576)
  · exact crcZeros_awake a0 n0 c0 n w hT hn c
  · by_cases c2 : n < 0 ∨ 1048576 < n
    · exact crcZeros_out _ a0 n0 c0 n w hT hn (by omega) c2 h2 h1 (isRow_bytes w0)
    · obtain ⟨N, rfl⟩ := Int.eq_ofNat_of_zero_le (show 0 ≤ n by omega)
      exact crcZeros_in _ a0 n0 c0 N w hT (by omega) (by omega) h2 h1 (isRow_bytes w0) (isRow_nil w0)

theorem crcChanges_awake (a0 : Option Addr) (n0 c0 : Nat) (k c : Int) (w : World) (hT : CTab w) (h : 1000 < n0) :
    Calls Tryd.prog 5 #[.slice a0 n0 c0, .int .i64 k, .int .u8 c] w fun e w' => e = .returned (.bool true) ∧ Below w.heap.size w w' := by
  have HT := Lib.hid hT
  clear hT
  go_enter Tryd.func5, Tryd.ntmps5
  go_wp2_with (go_at_call 8; (with_reducible refine (awake03C _ HT.out).mono ?_); rintro e w' ⟨rfl, hb⟩)
  go_ret
  exact ⟨rfl, hb⟩

theorem crcChanges_out (a0 : Option Addr) (n0 c0 : Nat) (k c : Int) (w : World) (hT : CTab w) (h : n0 ≤ 1000) (hk : -9223372036854775808 ≤ k ∧ k ≤ 9223372036854775807) (ho : k < 0 ∨ (n0 : Int) ≤ k) :
    Calls Tryd.prog 5 #[.slice a0 n0 c0, .int .i64 k, .int .u8 c] w fun e w' => e = .returned (.bool true) ∧ Below w.heap.size w w' := by
  have H1 := fun w => changeNo (n0 : Int) k c w (by omega) (by omega) hk.1 hk.2 (by omega)
  unfold SumErr at H1
  have HT := Lib.hid hT
  have H := Lib.hid ho
  clear hT ho
  by_cases c1 : k < 0
  · go_enter Tryd.func5, Tryd.ntmps5
    go_wp2_with (first
      | (go_at_call 14; (with_reducible refine (H1 _).mono ?_); rintro e w' ⟨rfl, rfl⟩)
      | (go_at_call 8; (with_reducible refine (awake03C _ HT.out).mono ?_); rintro e w' ⟨rfl, hb⟩))
    go_ret
    exact ⟨rfl, hb⟩
  · have c2 : (n0 : Int) ≤ k := by have := H.out; omega
    go_enter Tryd.func5, Tryd.ntmps5
    go_wp2_with (first
      | (go_at_call 14; (with_reducible refine (H1 _).mono ?_); rintro e w' ⟨rfl, rfl⟩)
      | (go_at_call 8; (with_reducible refine (awake03C _ HT.out).mono ?_); rintro e w' ⟨rfl, hb⟩))
    go_ret
    exact ⟨rfl, hb⟩

/-- The numbers of a change: the sum ahead, the sum behind, what it is xored with. -/
theorem change_nums (l : List Int) (k c : Nat) (hk : k < l.length) (hb : IsBytes l) (hc : c < 256) :
    ∃ s s' x : Nat, cSum l = s ∧ cSum (l.set k (((l.getD k 0).toNat ^^^ c : Nat) : Int)) = s' ∧ cZeros (cByte 0 c) (l.length - 1 - k) = x ∧ s < 4294967296 ∧ s' < 4294967296 ∧ x < 4294967296 ∧ s ^^^ x = s' ∧ (x = 0 ↔ c = 0) ∧ (s' = s ↔ c = 0) := by
  have h1 := cRun_change l k hk c 4294967295 (fun x hx => (hb x hx).1)
  have h2 := cRun_lt l 4294967295 hb (by omega)
  have h3 := cZeros_lt (l.length - 1 - k) (cByte 0 c) (cByte_lt 0 c (by omega) (by omega))
  have h4 : cZeros (cByte 0 c) (l.length - 1 - k) = 0 ↔ c = 0 := by
    constructor
    · intro h
      have := cZeros_zero _ _ (cByte_lt 0 c (by omega) (by omega)) h
      rw [cByte_of_zero] at this
      exact cStep8_zero c (by omega) this
    · rintro rfl
      rw [cByte_of_zero, cStep8_of_zero, cZeros_of_zero]
  have h5 := ones_of_xor _ _ h2 h3
  refine ⟨_, _, _, rfl, rfl, rfl, by have := cSum_le l; omega, by have := cSum_le (l.set k (((l.getD k 0).toNat ^^^ c : Nat) : Int)); omega, h3, ?_, h4, ?_⟩
  · unfold cSum
    rw [h1, h5]
  · unfold cSum
    rw [h1, ← h5, xor_eq_self, h4]

theorem set_bytes (l : List Int) (k : Nat) (x : Int) (hb : IsBytes l) (hx : 0 ≤ x ∧ x ≤ 255) : IsBytes (l.set k x) := fun y hy => by
  rcases List.mem_or_eq_of_mem_set hy with h | h
  · exact hb y h
  · rw [h]; exact hx

set_option maxRecDepth 100000 in
theorem crcChanges_in (l : List Int) (a0 : Option Addr) (n0 c0 k c : Nat) (w : World) (hT : CTab w) (h0 : n0 ≤ 1000) (hk : k < n0) (hc8 : c < 256)
    (hl : l.length = n0) (ha : Reads w a0 (l.map (Value.int .u8))) (hb : IsBytes l) (hc : a0 = none → c0 = 0) :
    Calls Tryd.prog 5 #[.slice a0 n0 c0, .int .i64 (k : Int), .int .u8 (c : Int)] w fun e w' => e = .returned (.bool true) ∧ Below w.heap.size w w' := by
  obtain ⟨i0, hi, hz0, hz1, hz2⟩ := info_parts info8
  obtain ⟨s, s', x, e1, e2, e3, b1, b2, b3, hx, hx0, hs0⟩ := change_nums l k c (by omega) hb hc8
  obtain ⟨y, hy, hy8⟩ := getD_nat hb k
  have hy1 := u8_xor_nat y c (by omega) (by omega)
  have hy2 : y ^^^ c < 256 := Nat.xor_lt_two_pow (n := 8) hy8 hc8
  rw [hy, Int.toNat_natCast] at e2
  have H1 := fun w a cc ha hT => sumC l n0 a cc w hl ha hb (by unfold maxLen; omega) hT
  have H2 := fun w a cc ha hT => sumC (l.set k ((y ^^^ c : Nat) : Int)) n0 a cc w (by rw [List.length_set, hl]) ha (set_bytes l k _ hb (by omega)) (by unfold maxLen; omega) hT
  have H3 := fun w hT => changeYes n0 k (n0 - 1 - k) c w hT (by omega) (by omega) hc8
  rw [e1] at H1
  rw [e2] at H2
  rw [show n0 - 1 - k = l.length - 1 - k by omega, e3] at H3
  unfold SumIs at H1 H2
  unfold SumErr at H3
  have hxx := u32_xor_nat s x b1 b3
  rw [hx] at hxx
  have HL := Lib.hid hl
  have HT := Lib.hid hT
  have HS := Lib.hid hs0
  have HX := Lib.hid hx0
  clear hT hl hb hs0 hx0 e1 e2 e3 hx b1 b2 b3
  generalize hv : y ^^^ c = v at H2 hy1 hy2
  have HLS : (l.map (Value.int .u8)).set k (.int .u8 (v : Int)) = (l.set k (v : Int)).map (Value.int .u8) := by rw [List.map_set]
  have HLS := Lib.hid HLS
  clear hv
  have hkn : (k : Int) < (n0 : Int) := by omega
  have hy' : (l.map (Value.int .u8))[k]? = some (.int .u8 (y : Int)) := by
    have hkl : k < l.length := by rw [HL.out]; exact hk
    rw [List.getElem?_map, List.getElem?_eq_getElem hkl, ← getD_of_lt l k hkl, hy]
    rfl
  have HY := Lib.hid hy'
  clear hy hy'
  go_enter Tryd.func5, Tryd.ntmps5
  go_wp2_with (first
    | (go_at_call 14; (with_reducible refine (H3 _ HT.out).mono ?_); rintro e w' ⟨rfl, rfl⟩)
    | (at_builtin; refine wpList_append_lit rfl (.tmp 39) (.tmp 40) 22 rfl 5 i0 (.int .u8 0) 1 Tryd.underlying22 hi hz0 hz1 hz2 rfl rfl ha rfl (by rw [List.length_map, HL.out]) hc (bytes_one l .u8) (by unfold maxLen; omega) (by omega) ?_; intro a2 c2 w2 ho2 hb2))
  obtain ⟨g, rfl, hg1, hg2⟩ := ho2.head (by omega)
  have hc1 := ho2.1.cellAt k (by omega)
  rw [HY.out] at hc1
  have hf1 := ho2.1.frozenAt k
  have hown := ho2.1
  have hcap := ho2.2.2.2
  clear ho2
  unfold Oper.upon
  simp [go_sem, hkn]
  have s1 := (hown.stored k (.int .u8 (v : Int))).1
  have hb3 : Below w.heap.size w2 (w2.setCell ⟨g, k, none⟩ (.int .u8 (v : Int))) := (Below.refl _ _).setCell hg1 _
  rw [HLS.out] at s1
  obtain ⟨_, _, es, hrc, -⟩ := owns_open s1
  cases es
  have hbw := hb2.trans hb3
  have har := ha.below' hbw
  have HTw := Lib.hid (HT.out.below hbw)
  clear s1 hb2 hb3 hown ha HT
  obtain ⟨t, t1, t2, t3⟩ : ∃ t : Bool, ((c : Int) == 0) = t ∧ ((x : Int) == 0) = t ∧ ((s' : Int) == (s : Int)) = t := by
    have h1 := HS.out
    have h2 := HX.out
    by_cases hz : c = 0
    · exact ⟨true, by simp; omega, by simp; omega, by simp; omega⟩
    · exact ⟨false, by simp; omega, by simp; omega, by simp; omega⟩
  clear HS HX HL
  cases t
  all_goals
    go_wp2_with (first
      | (go_at_call 9; (with_reducible refine (H2 _ _ _ hrc HTw.out).mono ?_); rintro e w3 ⟨rfl, hb3⟩)
      | (go_at_call 9; (with_reducible refine (H1 _ _ _ (har.below' hb3) (HTw.out.below hb3)).mono ?_); rintro e w4 ⟨rfl, hb4⟩; have hb34 := hb3.trans (hb4.mono hb3.size); have hrc4 := hrc.below' hb34; have har4 := har.below' hb34; have HT4 := Lib.hid (HTw.out.below hb34); have hbw4 := hbw.trans (hb34.mono hbw.size); clear hb3 hb4 hb34 hrc har HTw hbw)
      | (go_at_call 9; (with_reducible refine (H2 _ _ _ hrc4 HT4.out).mono ?_); rintro e w5 ⟨rfl, hb5⟩)
      | (go_at_call 9; (with_reducible refine (H1 _ _ _ (har4.below' hb5) (HT4.out.below hb5)).mono ?_); rintro e w6 ⟨rfl, hb6⟩; have hb56 := hb5.trans (hb6.mono hb5.size); have HT6 := Lib.hid (HT4.out.below hb56); have hbw6 := hbw4.trans (hb56.mono hbw4.size); clear hb5 hb6 hb56 hrc4 har4 HT4 hbw4)
      | (go_at_call 8; (with_reducible refine (awake03C _ HT6.out).mono ?_); rintro e w7 ⟨rfl, hb7⟩))
    go_ret
    exact ⟨rfl, hbw6.trans (hb7.mono hbw6.size)⟩

theorem crcChanges_walk (a0 : Option Addr) (n0 c0 : Nat) (z0 : List Int) (k c : Int) (w : World) (w0 : IsRow .u8 w a0 n0 c0 z0) (w1 : (Lit.int .i64 k).wf = true) (w2 : (Lit.int .u8 c).wf = true) (hT : CTab w) :
    Calls Tryd.prog 5 #[.slice a0 n0 c0, .int .i64 k, .int .u8 c] w fun e w' => e = .returned (.bool true) ∧ Below w.heap.size w w' := by
  have hk := wfI64 w1
  have hc := wfU8 w2
  obtain ⟨h1, h2, _⟩ := isRow_reads w0
  by_cases c1 : 1000 < n0
  · exact crcChanges_awake a0 n0 c0 k c w hT c1
  · by_cases c2 : k < 0 ∨ (n0 : Int) ≤ k
    · exact crcChanges_out a0 n0 c0 k c w hT (by omega) hk c2
    · obtain ⟨K, rfl⟩ := Int.eq_ofNat_of_zero_le (show 0 ≤ k by omega)
      obtain ⟨C, rfl⟩ := Int.eq_ofNat_of_zero_le hc.1
      exact crcChanges_in _ a0 n0 c0 K C w hT (by omega) (by omega) (by omega) h2 h1 (isRow_bytes w0) (isRow_nil w0)
end Go.Proofs.YtcclhojigeehnaaDoor
