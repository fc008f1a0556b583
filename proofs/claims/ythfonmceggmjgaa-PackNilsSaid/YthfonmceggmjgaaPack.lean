/- Contracts of layer 5's writer. -/
import Derived.Test.YthfonmceggmjgaaKept
import Derived.Test.YthfonmceggmjgaaPackPlain
import Derived.Test.YthfonmceggmjgaaVarLaw
import Derived.Lib.LazyBuf
namespace Go.Proofs.Ythfonmceggmjgaa
open Go.RowKit
set_option linter.unusedVariables false

theorem cloneB (l : List Int) (n : Nat) (a : Option Addr) (c : Nat) (w : World) (hl : l.length = n) (ha : Reads w a (l.map (Value.int .u8))) (hc : a = none → c = 0) (hm : n ≤ 1000000000000) :
    Calls Try.prog 29 #[.slice a n c] w (GivesOwned 5 (l.map (Value.int .u8)) n w) := by
  obtain ⟨i0, hi, hz0, hz1, hz2⟩ := info_parts info8
  have HL := Lib.hid hl
  have kn := fun (w : World) (a : Option Addr) (n c : Nat) => Go.run_eql_slice_nil (P := Try.prog) w 26 5 a n c Try.underlying26
  cases a with
  | none =>
    have hn : l = [] := by
      cases l with
      | nil => rfl
      | cons y ys => obtain ⟨b, off, e0, _⟩ := ha 0 (.int .u8 y) rfl; cases e0
    subst hn
    have hn0 : n = 0 := hl.symm
    subst hn0
    go_enter Try.func29, Try.ntmps29
    go_wp2
    go_ret
    exact ⟨none, 0, rfl, ⟨World.ownsRow_nil _ _ _ _, Reads.nil _ _, fun _ => rfl, Nat.le_refl _, Nat.zero_le _, rfl⟩, Below.refl _ _⟩
  | some x =>
    clear hl
    go_enter Try.func29, Try.ntmps29
    go_wp2_with (at_builtin; refine wpList_append_lit rfl (.tmp 5) (.tmp 6) 26 rfl 5 i0 (.int .u8 0) 1 Try.underlying26 hi hz0 hz1 hz2 rfl rfl ha rfl (by rw [List.length_map, HL.out]) hc (bytes_one l .u8) (by unfold maxLen; omega) (by omega) ?_; intro a2 c2 w2 ho2 hb2)
    go_ret
    exact ⟨a2, c2, rfl, ho2, hb2⟩

set_option maxRecDepth 100000 in
theorem addC (base p : Nat) (a b : Option Addr) (l y : List Int) (m cb : Nat) (w : World) (hw : Wr 5 base p a l w) (hb : Reads w b (y.map (Value.int .u8))) (hm : y.length = m) (hc : b = none → cb = 0)
    (hlen : l.length + m ≤ 1000000000000) (hbase : base ≤ w.heap.size) :
    Calls Try.prog 35 #[.pointer (some ⟨p, 0, none⟩), .slice b m cb] w (WrGives 5 base p a (l ++ y) w) := by
  obtain ⟨i0, hi, hz0, hz1, hz2⟩ := info_parts info8
  obtain ⟨n, c, h1, h2, hcell, hfz, hn, ho, hap⟩ := hw
  rw [hn] at hlen
  have HN := Lib.hid hn
  have HM := Lib.hid hm
  clear hn hm
  go_enter Try.func35, Try.ntmps35
  go_wp2_with (at_builtin; refine wpList_append_where rfl (.tmp 11) (.tmp 12) 26 rfl 5 i0 (.int .u8 0) 1 Try.underlying26 hi hz0 hz1 hz2 rfl ho rfl hb rfl (by rw [List.length_map, HM.out]) hc (bytes_one y .u8) (n + m) rfl (by unfold maxLen; omega) (by omega) hbase ?_; intro a2 c2 w2 ho2 hb2 hg2 hn2; have hcell2 := hg2.cell hcell hap; have hfz2 := (hg2.frozen (x := ⟨p, 0, none⟩) h2 hap).trans hfz)
  go_ret
  have hnear := Near.of hn2
  have hap2 : Apart a2 p := hnear p h2 hap
  refine ⟨rfl, a2, ⟨n + m, c2, h1, ?_, ?_, ?_, ?_, ?_, hap2⟩, ?_, hnear⟩
  · simpa using Nat.lt_of_lt_of_le h2 hg2.1
  · exact World.cell?_setCell_same w2 ⟨p, 0, none⟩ _ hcell2
  · rw [World.frozen?_setCell]; exact hfz2
  · rw [List.length_append, HN.out, HM.out]
  · rw [List.map_append]; exact ho2.setCell hap2 _
  · exact (Kept.grown hb2 hg2).setCell 0 _

/-- What is packed of a text. -/
def textBytes (s : ByteArray) : List Int := short s.size ++ strBytes s

set_option maxRecDepth 100000 in
theorem wNumC (base p N : Nat) (a : Option Addr) (l : List Int) (w : World) (hw : Wr 5 base p a l w) (hlen : l.length ≤ 100000000000) (hbase : base ≤ w.heap.size) (h : N ≤ 18446744073709551615) :
    Calls Try.prog 23 #[.pointer (some ⟨p, 0, none⟩), .int .u64 (N : Int)] w (WrGives 5 base p a (l ++ short N) w) := by
  have H3 := fun w => putO [] (short N) 0 (short N).length none 0 N w rfl rfl rfl (Reads.nil _ _) (fun _ => rfl) (by omega) h
  have hten := short_ten N h
  rw [List.nil_append] at H3
  have HA := fun w a b c hw hb hc => addC base p a b l (short N) (short N).length c w hw hb rfl hc (by omega)
  generalize short N = sh at *
  generalize hL : sh.length = L at *
  clear hlen
  go_enter Try.func23, Try.ntmps23
  go_wp2_with (first
    | (go_at_call 36; (with_reducible refine (H3 _).mono ?_); rintro e w1 ⟨a1, c1, rfl, ho1, hb1⟩)
    | (go_at_call 35; (with_reducible refine (HA _ _ _ _ (hw.below hb1) ho1.reads ho1.nil0 (Nat.le_trans hbase hb1.size)).mono ?_); rintro e w2 hG; have hG2 := hG.early hb1; obtain ⟨rfl, hG3⟩ := hG2))
  go_ret
  exact ⟨rfl, hG3⟩

set_option maxRecDepth 100000 in
theorem wIntC (base p N : Nat) (m : Int) (a : Option Addr) (l : List Int) (w : World) (hw : Wr 5 base p a l w) (hlen : l.length ≤ 100000000000) (hbase : base ≤ w.heap.size) (hN : foldI m = (N : Int)) (h : N ≤ 18446744073709551615) (h0 : -9223372036854775808 ≤ m) (h1 : m ≤ 9223372036854775807) :
    Calls Try.prog 24 #[.pointer (some ⟨p, 0, none⟩), .int .i64 m] w (WrGives 5 base p a (l ++ short N) w) := by
  have H3 := fun w => putIntO [] (short N) 0 (short N).length none 0 m N w hN rfl rfl rfl (Reads.nil _ _) (fun _ => rfl) (by omega) h h0 h1
  have hten := short_ten N h
  rw [List.nil_append] at H3
  have HA := fun w a b c hw hb hc => addC base p a b l (short N) (short N).length c w hw hb rfl hc (by omega)
  generalize short N = sh at *
  generalize hL : sh.length = L at *
  clear hlen hN
  go_enter Try.func24, Try.ntmps24
  go_wp2_with (first
    | (go_at_call 37; (with_reducible refine (H3 _).mono ?_); rintro e w1 ⟨a1, c1, rfl, ho1, hb1⟩)
    | (go_at_call 35; (with_reducible refine (HA _ _ _ _ (hw.below hb1) ho1.reads ho1.nil0 (Nat.le_trans hbase hb1.size)).mono ?_); rintro e w2 hG; have hG2 := hG.early hb1; obtain ⟨rfl, hG3⟩ := hG2))
  go_ret
  exact ⟨rfl, hG3⟩

set_option maxRecDepth 100000 in
theorem wTextC (base p : Nat) (s : ByteArray) (a : Option Addr) (l : List Int) (w : World) (hw : Wr 5 base p a l w) (hlen : l.length ≤ 10000000000) (hbase : base ≤ w.heap.size) (h : s.size ≤ 1000000000) :
    Calls Try.prog 25 #[.pointer (some ⟨p, 0, none⟩), .string s] w (WrGives 5 base p a (l ++ textBytes s) w) := by
  have kc := fun (w : World) (s : ByteArray) => Lib.run_convert_string_bytes (P := Try.prog) w 9 26 5 s Try.underlying9 Try.underlying26 Try.underlying5
  have hten := short_ten s.size (by omega)
  have HN := fun w hw hb => wNumC base p s.size a l w hw (by omega) hb (by omega)
  have hl2 : (l ++ short s.size).length ≤ 100000000000 := by rw [List.length_append]; omega
  have HA := fun w a b c hw hb hc => addC base p a b (l ++ short s.size) (strBytes s) s.size c w hw hb (strBytes_len s) hc (by omega)
  have hR := fun w => bytesWorld_reads w 5 s
  have hB := fun w => bytesWorld_below w 5 s
  unfold textBytes
  rw [← List.append_assoc]
  generalize l ++ short s.size = l1 at *
  generalize strBytes s = y at *
  clear hlen hl2 hten
  have hs1 : (s.size : Int) ≤ 1000000000 := by omega
  go_enter Try.func25, Try.ntmps25
  go_wp2_with (first
    | (go_at_call 23; (with_reducible refine (HN _ hw hbase).mono ?_); rintro e w1 ⟨rfl, a1, hw1, hk1, hn1⟩)
    | (go_at_call 35; (with_reducible refine (HA _ _ _ _ (hw1.below (hB w1)) (hR w1) (fun h => by cases h) (Nat.le_trans hbase (Nat.le_trans hk1.size (hB w1).size))).mono ?_); rintro e w2 hG; have hG2 := (hG.early (hB w1)).later hk1 hn1; obtain ⟨rfl, hG3⟩ := hG2))
  go_ret
  exact ⟨rfl, hG3⟩

set_option maxRecDepth 100000 in
theorem wBytesC (base p : Nat) (a : Option Addr) (l : List Int) (n : Nat) (w : World) (hw : Wr 5 base p a l w) (hl : l.length = n) (hlen : n ≤ 1000000000000) :
    Calls Try.prog 8 #[.pointer (some ⟨p, 0, none⟩)] w (GivesOwned 5 (l.map (Value.int .u8)) n w) := by
  obtain ⟨n', c, h1, h2, hcell, hfz, hn, ho, hap⟩ := hw
  obtain rfl : n' = n := hn.symm.trans hl
  have HC := fun w ha => cloneB l n' a c w hl ha ho.nil0 hlen
  go_enter Try.func8, Try.ntmps8
  go_wp2_with (go_at_call 29; (with_reducible refine (HC _ ho.reads).mono ?_); rintro e w1 ⟨a1, c1, rfl, ho1, hb1⟩)
  go_ret
  exact ⟨a1, c1, rfl, ho1, hb1⟩

set_option maxRecDepth 100000 in
theorem wFlagsC (base p : Nat) (f : List Bool) (n m c : Nat) (b : Option Addr) (a : Option Addr) (l : List Int) (w : World) (hw : Wr 5 base p a l w) (hlen : l.length ≤ 100000000000) (hbase : base ≤ w.heap.size)
    (hr : Reads w b (f.map Value.bool)) (hf : f.length = n) (hc : n ≤ c) (hcm : c ≤ maxLen) (hm : min n 8 = m) :
    Calls Try.prog 26 #[.pointer (some ⟨p, 0, none⟩), .slice b n c] w (WrGives 5 base p a (l ++ [(flagSum (f.take 8) : Int)]) w) := by
  have HA := fun x w a b c hw hb hc => addC base p a b l [x] 1 c w hw hb rfl hc (by omega)
  have hl8 := flagSum_take_lt f 8
  have hfe : f.take 8 = f.take m := by
    by_cases c8 : n ≤ 8
    · rw [List.take_of_length_le (by omega), List.take_of_length_le (by omega)]
    · rw [show m = 8 by omega]
  rw [hfe] at hl8 ⊢
  have HF := Lib.hid hf
  unfold maxLen at hcm
  clear hf hfe hlen
  by_cases c8 : n ≤ 8
  all_goals
    have hm2 : (n ≤ 8 ∧ m = n) ∨ (8 < n ∧ m = 8) := by omega
    clear hm
    first
      | (have d8 : (n : Int) ≤ 8 := by omega)
      | (have d8 : (8 : Int) < (n : Int) := by omega; skip)
    go_enter Try.func26, Try.ntmps26
    go_wp2
    go_loopw [5, 14] (fun x i wr => ∃ k : Nat, k ≤ m ∧ i = .int .i64 (k : Int) ∧ x = .int .u8 ((flagSum (f.take k) : Nat) : Int) ∧ wr = w) (fun _ i _ => m - (intOf i).toNat)
    case atStart => exact ⟨0, Nat.zero_le _, rfl, rfl, rfl⟩
    case round =>
      obtain ⟨k, hk, rfl, rfl, hkeep⟩ := hrel
      subst hkeep

      by_cases hlt : k < m
      · obtain ⟨B, off, rfl, c0⟩ := hr k (.bool (f.getD k false)) (by rw [List.getElem?_map, List.getD_eq_getElem?_getD, List.getElem?_eq_getElem (by rw [HF.out]; omega)]; rfl)
        have hX := flagSum_take f k (by rw [HF.out]; omega)
        have hXl := flagSum_take_lt f k
        have hor := orFlag (flagSum (f.take k)) k (by omega) hXl
        generalize f.getD k false = t at c0 hX
        have hk8 : (k : Int) < 8 := by omega
        have hlt' : (k : Int) < (m : Int) := by omega
        have hln : (k : Int) < (n : Int) := by omega
        have E2 : ∀ u : Nat, u ≤ k → True := fun _ _ => trivial
        generalize hx : flagSum (f.take k) = x at hX hXl hor
        generalize hy : flagSum (f.take (k + 1)) = y at hX
        have HX := Lib.hid hX
        have HY := Lib.hid hy
        have HOR := Lib.hid hor
        clear hX hy hx hor hr HA hw
        have e2 : ((2 ^ k : Nat) : Int) = (2 : Int) ^ k := by push_cast; rfl
        have hp8 : (2 : Int) ^ k % 256 = (2 : Int) ^ k := by
          have h7 : 2 ^ k ≤ 2 ^ 7 := Nat.pow_le_pow_right (by decide) (by omega)
          rw [← e2]
          omega
        have hor2 := HOR.out
        rw [e2] at hor2
        have HOR2 := Lib.hid hor2
        clear e2 hor2
        cases t
        · go_wp2
          go_roundw
          case rel => exact ⟨k + 1, by omega, by go_num, by rw [HY.out]; have := HX.out; simp at this; rw [this], trivial⟩
          case measure => simp [intOf]; omega
        · go_wp2
          go_roundw
          case rel => exact ⟨k + 1, by omega, by go_num, by rw [HY.out, HOR2.out]; have := HX.out; simp at this; rw [this], trivial⟩
          case measure => simp [intOf]; omega
      · have he : k = m := by omega
        subst he
        first
          | (have hkn : ¬ (k : Int) < (n : Int) := by omega)
          | (have hkn : ¬ (k : Int) < 8 := by omega)
        have hr0 : Reads (wr.alloc (.cells #[.int .u8 ((flagSum (f.take k) : Nat) : Int)] 5)) (some ⟨wr.heap.size, 0, none⟩) ([((flagSum (f.take k) : Nat) : Int)].map (Value.int .u8)) := reads_new wr [_] _
        have hb0 := below_alloc wr (.cells #[.int .u8 ((flagSum (f.take k) : Nat) : Int)] 5)
        go_wp2_with (go_at_call 35; (with_reducible refine (HA _ _ _ _ _ (hw.below hb0) hr0 (fun h => by cases h) (Nat.le_trans hbase hb0.size)).mono ?_); rintro e w2 hG; have hG2 := hG.early hb0; obtain ⟨rfl, hG3⟩ := hG2)
        go_ret
        exact ⟨rfl, hG3⟩
end Go.Proofs.Ythfonmceggmjgaa
