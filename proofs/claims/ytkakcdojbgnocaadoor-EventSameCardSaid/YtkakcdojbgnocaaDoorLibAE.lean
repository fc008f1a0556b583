/- Contracts and plain words that the laws' proofs stand on, put together. -/
import Derived.Test.YtkakcdojbgnocaaDoorLibAD
import Derived.Test.YtkakcdojbgnocaaDoorLibAA
import Derived.Lib.LazyBuf
import Derived.Test.YtkakcdojbgnocaaDoorLibAB
import Derived.BigRegion
/- What is packed of flags: plain, with no program in it. -/
namespace Go.Proofs.YtkakcdojbgnocaaDoor
open Go.RowKit
set_option linter.unusedVariables false

/-- Flags as a number, the first one the lowest bit. -/
def flagSum : List Bool → Nat
  | [] => 0
  | b :: r => (if b then 1 else 0) + 2 * flagSum r
theorem flagSum_snoc : ∀ (l : List Bool) (b : Bool), flagSum (l ++ [b]) = flagSum l + (if b then 2 ^ l.length else 0)
  | [], b => by simp [flagSum]
  | c :: r, b => by
    simp only [List.cons_append, flagSum, flagSum_snoc r b, List.length_cons, Nat.pow_succ]
    cases b <;> simp <;> omega
theorem flagSum_lt : ∀ l : List Bool, flagSum l < 2 ^ l.length
  | [] => by simp [flagSum]
  | c :: r => by
    have := flagSum_lt r
    simp only [flagSum, List.length_cons, Nat.pow_succ]
    cases c <;> simp <;> omega
theorem flagSum_bit : ∀ (l : List Bool) (k : Nat), flagSum l / 2 ^ k % 2 = if l.getD k false then 1 else 0
  | [], k => by simp [flagSum]
  | c :: r, 0 => by
    simp only [flagSum, Nat.pow_zero, Nat.div_one, List.getD_cons_zero]
    cases c <;> simp <;> omega
  | c :: r, k + 1 => by
    have h := flagSum_bit r k
    have e : flagSum (c :: r) / 2 ^ (k + 1) = flagSum r / 2 ^ k := by
      rw [Nat.pow_succ, Nat.mul_comm (2 ^ k) 2, ← Nat.div_div_eq_div_mul]
      congr 1
      simp only [flagSum]
      cases c <;> simp <;> omega
    rw [e, h]
    rfl
theorem flagSum_take (f : List Bool) (k : Nat) (h : k < f.length) : flagSum (f.take (k + 1)) = flagSum (f.take k) + (if f.getD k false then 2 ^ k else 0) := by
  have e : f.take (k + 1) = f.take k ++ [f.getD k false] := by
    rw [List.take_add_one, List.getElem?_eq_getElem h, List.getD_eq_getElem?_getD, List.getElem?_eq_getElem h]
    rfl
  have hl : (f.take k).length = k := by rw [List.length_take]; omega
  rw [e, flagSum_snoc, hl]
theorem flagSum_take_lt (f : List Bool) (k : Nat) : flagSum (f.take k) < 2 ^ k :=
  Nat.lt_of_lt_of_le (flagSum_lt _) (Nat.pow_le_pow_right (by decide) (by rw [List.length_take]; omega))
theorem pow8_le (k : Nat) (h : k ≤ 8) : 2 ^ k ≤ 256 := by
  have := Nat.pow_le_pow_right (n := 2) (by decide) h
  omega
/-- 'x |= 1 << k'. -/
theorem orFlag (x k : Nat) (hk : k < 8) (hx : x < 2 ^ k) : bits BinOp.or IntKind.u8 (x : Int) (((2 ^ k : Nat) : Int)) = ((x + 2 ^ k : Nat) : Int) := by
  have h2 : 2 ^ k < 256 := by
    have := Nat.pow_le_pow_right (n := 2) (by decide) (show k ≤ 7 by omega)
    omega
  rw [u8_or_nat x (2 ^ k) (by omega) h2, Nat.or_comm]
  have := Nat.two_pow_add_eq_or_of_lt hx 1
  simp only [Nat.mul_one] at this
  omega
end Go.Proofs.YtkakcdojbgnocaaDoor

/- Contracts of layer 5's writer. -/
namespace Go.Proofs.YtkakcdojbgnocaaDoor
open Go.RowKit
set_option linter.unusedVariables false

theorem cloneB (l : List Int) (n : Nat) (a : Option Addr) (c : Nat) (w : World) (hl : l.length = n) (ha : Reads w a (l.map (Value.int .u8))) (hc : a = none → c = 0) (hm : n ≤ 1000000000000) :
    Calls Tryd.prog 27 #[.slice a n c] w (GivesOwned 5 (l.map (Value.int .u8)) n w) := by
  obtain ⟨i0, hi, hz0, hz1, hz2⟩ := info_parts info8
  have HL := Lib.hid hl
  have kn := fun (w : World) (a : Option Addr) (n c : Nat) => Go.run_eql_slice_nil (P := Tryd.prog) w 39 5 a n c Tryd.underlying39
  cases a with
  | none =>
    have hn : l = [] := by
      cases l with
      | nil => rfl
      | cons y ys => obtain ⟨b, off, e0, _⟩ := ha 0 (.int .u8 y) rfl; cases e0
    subst hn
    have hn0 : n = 0 := hl.symm
    subst hn0
    go_enter Tryd.func27, Tryd.ntmps27
    go_wp2
    go_ret
    exact ⟨none, 0, rfl, ⟨World.ownsRow_nil _ _ _ _, Reads.nil _ _, fun _ => rfl, Nat.le_refl _, Nat.zero_le _, rfl⟩, Below.refl _ _⟩
  | some x =>
    clear hl
    go_enter Tryd.func27, Tryd.ntmps27
    go_wp2_with (at_builtin; refine wpList_append_lit rfl (.tmp 5) (.tmp 6) 39 rfl 5 i0 (.int .u8 0) 1 Tryd.underlying39 hi hz0 hz1 hz2 rfl rfl ha rfl (by rw [List.length_map, HL.out]) hc (bytes_one l .u8) (by unfold maxLen; omega) (by omega) ?_; intro a2 c2 w2 ho2 hb2)
    go_ret
    exact ⟨a2, c2, rfl, ho2, hb2⟩

set_option maxRecDepth 100000 in
theorem addC (base p : Nat) (a b : Option Addr) (l y : List Int) (m cb : Nat) (w : World) (hw : Wr 5 base p a l w) (hb : Reads w b (y.map (Value.int .u8))) (hm : y.length = m) (hc : b = none → cb = 0)
    (hlen : l.length + m ≤ 1000000000000) (hbase : base ≤ w.heap.size) :
    Calls Tryd.prog 32 #[.pointer (some ⟨p, 0, none⟩), .slice b m cb] w (WrGives 5 base p a (l ++ y) w) := by
  obtain ⟨i0, hi, hz0, hz1, hz2⟩ := info_parts info8
  obtain ⟨n, c, h1, h2, hcell, hfz, hn, ho, hap⟩ := hw
  rw [hn] at hlen
  have HN := Lib.hid hn
  have HM := Lib.hid hm
  clear hn hm
  go_enter Tryd.func32, Tryd.ntmps32
  go_wp2_with (at_builtin; refine wpList_append_where rfl (.tmp 11) (.tmp 12) 39 rfl 5 i0 (.int .u8 0) 1 Tryd.underlying39 hi hz0 hz1 hz2 rfl ho rfl hb rfl (by rw [List.length_map, HM.out]) hc (bytes_one y .u8) (n + m) rfl (by unfold maxLen; omega) (by omega) hbase ?_; intro a2 c2 w2 ho2 hb2 hg2 hn2; have hcell2 := hg2.cell hcell hap; have hfz2 := (hg2.frozen (x := ⟨p, 0, none⟩) h2 hap).trans hfz)
  go_ret
  have hnear := Near.of hn2
  have hap2 : Apart a2 p := hnear p h2 hap
  refine ⟨rfl, a2, ⟨n + m, c2, h1, ?_, ?_, ?_, ?_, ?_, hap2⟩, ?_, hnear⟩
  · simpa using Nat.lt_of_lt_of_le h2 hg2.1
  · exact World.cell?_setCell_same w2 ⟨p, 0, none⟩ _ hcell2
  · rw [World.frozen?_setCell]; exact hfz2
  · rw [List.length_append, HN.out, HM.out]
  · rw [List.map_append]; exact ho2.setCell hap2 _
  · exact (Kept.grown hb2 hg2).setCell 0 _

/-- What is packed of a text. -/
def textBytes (s : ByteArray) : List Int := short s.size ++ strBytes s

set_option maxRecDepth 100000 in
theorem wNumC (base p N : Nat) (a : Option Addr) (l : List Int) (w : World) (hw : Wr 5 base p a l w) (hlen : l.length ≤ 100000000000) (hbase : base ≤ w.heap.size) (h : N ≤ 18446744073709551615) :
    Calls Tryd.prog 25 #[.pointer (some ⟨p, 0, none⟩), .int .u64 (N : Int)] w (WrGives 5 base p a (l ++ short N) w) := by
  have H3 := fun w => putO [] (short N) 0 (short N).length none 0 N w rfl rfl rfl (Reads.nil _ _) (fun _ => rfl) (by omega) h
  have hten := short_ten N h
  rw [List.nil_append] at H3
  have HA := fun w a b c hw hb hc => addC base p a b l (short N) (short N).length c w hw hb rfl hc (by omega)
  generalize short N = sh at *
  generalize hL : sh.length = L at *
  clear hlen
  go_enter Tryd.func25, Tryd.ntmps25
  go_wp2_with (first
    | (go_at_call 33; (with_reducible refine (H3 _).mono ?_); rintro e w1 ⟨a1, c1, rfl, ho1, hb1⟩)
    | (go_at_call 32; (with_reducible refine (HA _ _ _ _ (hw.below hb1) ho1.reads ho1.nil0 (Nat.le_trans hbase hb1.size)).mono ?_); rintro e w2 hG; have hG2 := hG.early hb1; obtain ⟨rfl, hG3⟩ := hG2))
  go_ret
  exact ⟨rfl, hG3⟩

set_option maxRecDepth 100000 in
theorem wIntC (base p N : Nat) (m : Int) (a : Option Addr) (l : List Int) (w : World) (hw : Wr 5 base p a l w) (hlen : l.length ≤ 100000000000) (hbase : base ≤ w.heap.size) (hN : foldI m = (N : Int)) (h : N ≤ 18446744073709551615) (h0 : -9223372036854775808 ≤ m) (h1 : m ≤ 9223372036854775807) :
    Calls Tryd.prog 35 #[.pointer (some ⟨p, 0, none⟩), .int .i64 m] w (WrGives 5 base p a (l ++ short N) w) := by
  have H3 := fun w => putIntO [] (short N) 0 (short N).length none 0 m N w hN rfl rfl rfl (Reads.nil _ _) (fun _ => rfl) (by omega) h h0 h1
  have hten := short_ten N h
  rw [List.nil_append] at H3
  have HA := fun w a b c hw hb hc => addC base p a b l (short N) (short N).length c w hw hb rfl hc (by omega)
  generalize short N = sh at *
  generalize hL : sh.length = L at *
  clear hlen hN
  go_enter Tryd.func35, Tryd.ntmps35
  go_wp2_with (first
    | (go_at_call 41; (with_reducible refine (H3 _).mono ?_); rintro e w1 ⟨a1, c1, rfl, ho1, hb1⟩)
    | (go_at_call 32; (with_reducible refine (HA _ _ _ _ (hw.below hb1) ho1.reads ho1.nil0 (Nat.le_trans hbase hb1.size)).mono ?_); rintro e w2 hG; have hG2 := hG.early hb1; obtain ⟨rfl, hG3⟩ := hG2))
  go_ret
  exact ⟨rfl, hG3⟩

set_option maxRecDepth 100000 in
theorem wTextC (base p : Nat) (s : ByteArray) (a : Option Addr) (l : List Int) (w : World) (hw : Wr 5 base p a l w) (hlen : l.length ≤ 10000000000) (hbase : base ≤ w.heap.size) (h : s.size ≤ 1000000000) :
    Calls Tryd.prog 34 #[.pointer (some ⟨p, 0, none⟩), .string s] w (WrGives 5 base p a (l ++ textBytes s) w) := by
  have kc := fun (w : World) (s : ByteArray) => Lib.run_convert_string_bytes (P := Tryd.prog) w 9 39 5 s Tryd.underlying9 Tryd.underlying39 Tryd.underlying5
  have hten := short_ten s.size (by omega)
  have HN := fun w hw hb => wNumC base p s.size a l w hw (by omega) hb (by omega)
  have hl2 : (l ++ short s.size).length ≤ 100000000000 := by rw [List.length_append]; omega
  have HA := fun w a b c hw hb hc => addC base p a b (l ++ short s.size) (strBytes s) s.size c w hw hb (strBytes_len s) hc (by omega)
  have hR := fun w => bytesWorld_reads w 5 s
  have hB := fun w => bytesWorld_below w 5 s
  unfold textBytes
  rw [← List.append_assoc]
  generalize l ++ short s.size = l1 at *
  generalize strBytes s = y at *
  clear hlen hl2 hten
  have hs1 : (s.size : Int) ≤ 1000000000 := by omega
  go_enter Tryd.func34, Tryd.ntmps34
  go_wp2_with (first
    | (go_at_call 25; (with_reducible refine (HN _ hw hbase).mono ?_); rintro e w1 ⟨rfl, a1, hw1, hk1, hn1⟩)
    | (go_at_call 32; (with_reducible refine (HA _ _ _ _ (hw1.below (hB w1)) (hR w1) (fun h => by cases h) (Nat.le_trans hbase (Nat.le_trans hk1.size (hB w1).size))).mono ?_); rintro e w2 hG; have hG2 := (hG.early (hB w1)).later hk1 hn1; obtain ⟨rfl, hG3⟩ := hG2))
  go_ret
  exact ⟨rfl, hG3⟩

set_option maxRecDepth 100000 in
theorem wBytesC (base p : Nat) (a : Option Addr) (l : List Int) (n : Nat) (w : World) (hw : Wr 5 base p a l w) (hl : l.length = n) (hlen : n ≤ 1000000000000) :
    Calls Tryd.prog 17 #[.pointer (some ⟨p, 0, none⟩)] w (GivesOwned 5 (l.map (Value.int .u8)) n w) := by
  obtain ⟨n', c, h1, h2, hcell, hfz, hn, ho, hap⟩ := hw
  obtain rfl : n' = n := hn.symm.trans hl
  have HC := fun w ha => cloneB l n' a c w hl ha ho.nil0 hlen
  go_enter Tryd.func17, Tryd.ntmps17
  go_wp2_with (go_at_call 27; (with_reducible refine (HC _ ho.reads).mono ?_); rintro e w1 ⟨a1, c1, rfl, ho1, hb1⟩)
  go_ret
  exact ⟨a1, c1, rfl, ho1, hb1⟩

set_option maxRecDepth 100000 in
theorem wFlagsC (base p : Nat) (f : List Bool) (n m c : Nat) (b : Option Addr) (a : Option Addr) (l : List Int) (w : World) (hw : Wr 5 base p a l w) (hlen : l.length ≤ 100000000000) (hbase : base ≤ w.heap.size)
    (hr : Reads w b (f.map Value.bool)) (hf : f.length = n) (hc : n ≤ c) (hcm : c ≤ maxLen) (hm : min n 8 = m) :
    Calls Tryd.prog 24 #[.pointer (some ⟨p, 0, none⟩), .slice b n c] w (WrGives 5 base p a (l ++ [(flagSum (f.take 8) : Int)]) w) := by
  have HA := fun x w a b c hw hb hc => addC base p a b l [x] 1 c w hw hb rfl hc (by omega)
  have hl8 := flagSum_take_lt f 8
  have hfe : f.take 8 = f.take m := by
    by_cases c8 : n ≤ 8
    · rw [List.take_of_length_le (by omega), List.take_of_length_le (by omega)]
    · rw [show m = 8 by omega]
  rw [hfe] at hl8 ⊢
  have HF := Lib.hid hf
  unfold maxLen at hcm
  clear hf hfe hlen
  by_cases c8 : n ≤ 8
  all_goals
    have hm2 : (n ≤ 8 ∧ m = n) ∨ (8 < n ∧ m = 8) := by omega
    clear hm
    first
      | (have d8 : (n : Int) ≤ 8 := by omega)
      | (have d8 : (8 : Int) < (n : Int) := by omega; skip)
    go_enter Tryd.func24, Tryd.ntmps24
    go_wp2
    go_loopw [5, 14] (fun x i wr => ∃ k : Nat, k ≤ m ∧ i = .int .i64 (k : Int) ∧ x = .int .u8 ((flagSum (f.take k) : Nat) : Int) ∧ wr = w) (fun _ i _ => m - (intOf i).toNat)
    case atStart => exact ⟨0, Nat.zero_le _, rfl, rfl, rfl⟩
    case round =>
      obtain ⟨k, hk, rfl, rfl, hkeep⟩ := hrel
      subst hkeep
      by_cases hlt : k < m
      · obtain ⟨B, off, rfl, c0⟩ := hr k (.bool (f.getD k false)) (by rw [List.getElem?_map, List.getD_eq_getElem?_getD, List.getElem?_eq_getElem (by rw [HF.out]; omega)]; rfl)
        have hX := flagSum_take f k (by rw [HF.out]; omega)
        have hXl := flagSum_take_lt f k
        have hor := orFlag (flagSum (f.take k)) k (by omega) hXl
        generalize f.getD k false = t at c0 hX
        have hk8 : (k : Int) < 8 := by omega
        have hlt' : (k : Int) < (m : Int) := by omega
        have hln : (k : Int) < (n : Int) := by omega
        have E2 : ∀ u : Nat, u ≤ k → True := fun _ _ => trivial
        generalize hx : flagSum (f.take k) = x at hX hXl hor
        generalize hy : flagSum (f.take (k + 1)) = y at hX
        have HX := Lib.hid hX
        have HY := Lib.hid hy
        have HOR := Lib.hid hor
        clear hX hy hx hor hr HA hw
        have e2 : ((2 ^ k : Nat) : Int) = (2 : Int) ^ k := by push_cast; rfl
        have hp8 : (2 : Int) ^ k % 256 = (2 : Int) ^ k := by
          have h7 : 2 ^ k ≤ 2 ^ 7 := Nat.pow_le_pow_right (by decide) (by omega)
          rw [← e2]
          omega
        have hor2 := HOR.out
        rw [e2] at hor2
        have HOR2 := Lib.hid hor2
        clear e2 hor2
        cases t
        · go_wp2
          go_roundw
          case rel => exact ⟨k + 1, by omega, by go_num, by rw [HY.out]; have := HX.out; simp at this; rw [this], trivial⟩
          case measure => simp [intOf]; omega
        · go_wp2
          go_roundw
          case rel => exact ⟨k + 1, by omega, by go_num, by rw [HY.out, HOR2.out]; have := HX.out; simp at this; rw [this], trivial⟩
          case measure => simp [intOf]; omega
      · have he : k = m := by omega
        subst he
        first
          | (have hkn : ¬ (k : Int) < (n : Int) := by omega)
          | (have hkn : ¬ (k : Int) < 8 := by omega)
        have hr0 : Reads (wr.alloc (.cells #[.int .u8 ((flagSum (f.take k) : Nat) : Int)] 5)) (some ⟨wr.heap.size, 0, none⟩) ([((flagSum (f.take k) : Nat) : Int)].map (Value.int .u8)) := reads_new wr [_] _
        have hb0 := below_alloc wr (.cells #[.int .u8 ((flagSum (f.take k) : Nat) : Int)] 5)
        go_wp2_with (go_at_call 32; (with_reducible refine (HA _ _ _ _ _ (hw.below hb0) hr0 (fun h => by cases h) (Nat.le_trans hbase hb0.size)).mono ?_); rintro e w2 hG; have hG2 := hG.early hb0; obtain ⟨rfl, hG3⟩ := hG2)
        go_ret
        exact ⟨rfl, hG3⟩
end Go.Proofs.YtkakcdojbgnocaaDoor

/- Contracts of layer 5's reader. -/
namespace Go.Proofs.YtkakcdojbgnocaaDoor
open Go.RowKit
set_option linter.unusedVariables false

/-- A reader at block p, without an error, in front of the bytes l. -/
def Rd (p : Nat) (l : List Int) (w : World) : Prop :=
  ∃ a n c, p < w.heap.size ∧ w.cell? ⟨p, 0, none⟩ = some (.slice a n c) ∧ w.cell? ⟨p, 1, none⟩ = some (.int .i64 0) ∧ w.frozen? ⟨p, 0, none⟩ = false ∧ Reads w a (l.map (Value.int .u8)) ∧ l.length = n ∧ n ≤ c ∧ c ≤ maxLen ∧ (a = none → c = 0) ∧ Apart a p
theorem Rd.lt {p : Nat} {l : List Int} {w : World} (h : Rd p l w) : p < w.heap.size := h.choose_spec.choose_spec.choose_spec.1
theorem Rd.below {p : Nat} {l : List Int} {w w' : World} (h : Rd p l w) (hb : Below w.heap.size w w') : Rd p l w' := by
  obtain ⟨a, n, c, h1, h2, h3, h4, h5, h6⟩ := h
  exact ⟨a, n, c, Nat.lt_of_lt_of_le h1 hb.size, (hb.cell (p := ⟨p, 0, none⟩) h1).trans h2, (hb.cell (p := ⟨p, 1, none⟩) h1).trans h3, (hb.frozen (p := ⟨p, 0, none⟩) h1).trans h4, h5.below' hb, h6⟩
theorem Rd.drewN {p : Nat} {l : List Int} {w : World} (h : Rd p l w) (d : Nat) : Rd p l (w.drewN d) := by
  obtain ⟨a, n, c, h1, h2, h3, h4, h5, h6⟩ := h
  exact ⟨a, n, c, by simpa using h1, by simpa using h2, by simpa using h3, by simpa using h4, h5.drewN d, h6⟩
/-- It went on: what is left is another slice. -/
theorem Rd.heap {p : Nat} {l : List Int} {w w' : World} (h : Rd p l w) (e : w'.heap = w.heap) : Rd p l w' := by
  obtain ⟨a, n, c, h1, h2, h3, h4, h5, h6⟩ := h
  have hc : ∀ y, w'.cell? y = w.cell? y := fun y => World.cell?_of_block (by rw [e])
  have hf : ∀ y, w'.frozen? y = w.frozen? y := fun y => World.frozen?_of_block (by rw [e])
  exact ⟨a, n, c, by rw [e]; exact h1, (hc _).trans h2, (hc _).trans h3, (hf _).trans h4, h5.same hc, h6⟩
theorem Rd.step {p : Nat} {l r : List Int} {w : World} {a : Option Addr} {n c : Nat} (h : Rd p l w) (hr : Reads w a (r.map (Value.int .u8))) (hn : r.length = n) (hc : n ≤ c) (hm : c ≤ maxLen) (h0 : a = none → c = 0) (ha : Apart a p) :
    Rd p r (w.setCell ⟨p, 0, none⟩ (.slice a n c)) := by
  obtain ⟨a', n', c', h1, h2, h3, h4, -⟩ := h
  refine ⟨a, n, c, by simpa using h1, World.cell?_setCell_same w ⟨p, 0, none⟩ _ h2, ?_, by rw [World.frozen?_setCell]; exact h4, ?_, hn, hc, hm, h0, ha⟩
  · rw [World.cell?_setCell_other _ _ _ _ (by intro h; cases h)]; exact h3
  · intro i v hv
    obtain ⟨b, off, hb, hcell⟩ := hr i v hv
    refine ⟨b, off, hb, ?_⟩
    have hne : b ≠ p := ha _ hb
    rw [World.cell?_setCell_other _ _ _ _ (fun h => hne (congrArg Addr.block h).symm)]
    exact hcell

/-- A method of the reader answers v, and what is left is l. -/
def RdGives (p : Nat) (v : Value) (l : List Int) (w : World) (en : Ending) (w' : World) : Prop := en = .returned v ∧ Rd p l w' ∧ Kept p none w w'
theorem RdGives.early {p : Nat} {v : Value} {l : List Int} {w w1 w2 : World} {en : Ending} (h : RdGives p v l w1 en w2) (hb : Below w.heap.size w w1) : RdGives p v l w en w2 :=
  ⟨h.1, h.2.1, (Kept.of hb).trans (Near.refl _ _) h.2.2⟩

end Go.Proofs.YtkakcdojbgnocaaDoor

/- The parts of layer 5's laws: what a walk is told of them; the laws' helpers. -/
namespace Go.Proofs.YtkakcdojbgnocaaDoor
open Go.RowKit
set_option linter.unusedVariables false

/-- A part: what kind, its number, its text, its flags, what is asked at most. -/
structure Part where
  K : Int
  N : Nat
  S : ByteArray
  A : Option Addr
  L : Nat
  C : Nat
  M : Int
  F : List Bool
def Part.cells (q : Part) : Array Value := #[.int .i64 q.K, .int .u64 (q.N : Int), .string q.S, .slice q.A q.L q.C, .int .i64 q.M]
structure Part.ok (q : Part) (w : World) : Prop where
  n1 : q.N ≤ 18446744073709551615
  k0 : -9223372036854775808 ≤ q.K
  k1 : q.K ≤ 9223372036854775807
  m0 : -9223372036854775808 ≤ q.M
  m1 : q.M ≤ 9223372036854775807
  s1 : q.S.size ≤ maxLen
  fl : q.F.length = q.L
  lc : q.L ≤ q.C
  cm : q.C ≤ maxLen
  nil : q.A = none → q.C = 0
  rd : Reads w q.A (q.F.map Value.bool)
theorem Part.ok.below {q : Part} {w w' : World} (h : q.ok w) (hb : Below w.heap.size w w') : q.ok w' := { h with rd := h.rd.below' hb }

/-- A slice of parts that came in. -/
def IsParts (w : World) (a : Option Addr) (len cap : Nat) (Q : Nat → Part) : Prop :=
  len ≤ cap ∧ cap ≤ maxLen ∧ (a = none → cap = 0) ∧ ∀ r, r < len → ∃ b off, a = some ⟨b, off, none⟩ ∧ w.cell? ⟨b, off + r * 5, none⟩ = some (.int .i64 (Q r).K) ∧ w.cell? ⟨b, off + r * 5 + 1, none⟩ = some (.int .u64 ((Q r).N : Int)) ∧
    w.cell? ⟨b, off + r * 5 + 2, none⟩ = some (.string (Q r).S) ∧ w.cell? ⟨b, off + r * 5 + 3, none⟩ = some (.slice (Q r).A (Q r).L (Q r).C) ∧ w.cell? ⟨b, off + r * 5 + 4, none⟩ = some (.int .i64 (Q r).M) ∧ (Q r).ok w

/-- A number as a whole number with a sign. -/
def toI64 (n : Nat) : Int := ((n : Int) + 9223372036854775808) % 18446744073709551616 - 9223372036854775808
theorem toI64_eq (n : Nat) : wrap64 (n : Int) = toI64 n := by
  unfold toI64 wrap64
  omega
theorem toI64_range (n : Nat) : -9223372036854775808 ≤ toI64 n ∧ toI64 n ≤ 9223372036854775807 := by
  unfold toI64
  omega
theorem toI64_fold (n : Nat) : ∃ X : Nat, foldI (toI64 n) = (X : Int) ∧ X ≤ 18446744073709551615 := by
  have h := toI64_range n
  generalize toI64 n = m at h ⊢
  have hf := foldI_le m h.1 h.2
  obtain ⟨X, hX⟩ := Int.eq_ofNat_of_zero_le hf.1
  exact ⟨X, hX, by omega⟩

def PutGives (base p : Nat) (a : Option Addr) (l : List Int) (w : World) (en : Ending) (w' : World) : Prop :=
  en = .returned (.tuple #[]) ∧ ∃ a', Wr 5 base p a' l w' ∧ Kept p a w w' ∧ Near a a' w

/-- What is packed of a part. -/
def Part.bytes (q : Part) : List Int :=
  if q.K = 1 then short q.N else if q.K = 2 then short (foldI (toI64 q.N)).toNat else if q.K = 3 then textBytes q.S else if q.K = 4 then [(flagSum (q.F.take 8) : Int)] else []

theorem IsParts.below {w w' : World} {a : Option Addr} {n c : Nat} {Q : Nat → Part} (h : IsParts w a n c Q) (hb : Below w.heap.size w w') : IsParts w' a n c Q := by
  obtain ⟨h1, h2, h3, h4⟩ := h
  refine ⟨h1, h2, h3, fun r hr => ?_⟩
  obtain ⟨b, off, ha, d0, d1, d2, d3, d4, hok⟩ := h4 r hr
  exact ⟨b, off, ha, (hb.cell (cell_lt d0)).trans d0, (hb.cell (cell_lt d1)).trans d1, (hb.cell (cell_lt d2)).trans d2, (hb.cell (cell_lt d3)).trans d3, (hb.cell (cell_lt d4)).trans d4, hok.below hb⟩
theorem Wr.grown {e : TypeId} {base p : Nat} {a q : Option Addr} {l : List Int} {w w' : World} (h : Wr e base p a l w) (hb : Below base w w') (hg : GrownBut w w' q) (hq : Away q p a) : Wr e base p a l w' := by
  refine h.kept (p' := w.heap.size) (Kept.grown hb hg) (by have := h.lt.2; omega) (fun x hx => (hq x hx).1) (fun x hx => ⟨by have := (h.row x hx).2.1; omega, fun y hy => ?_⟩)
  exact fun e => (hq y hy).2 x hx e.symm
/-- What is packed of the first k parts. -/
def bytesTo (Q : Nat → Part) : Nat → List Int
  | 0 => []
  | k + 1 => bytesTo Q k ++ (Q k).bytes
theorem Part.bytes_len (q : Part) (h : q.S.size ≤ 300) (hN : q.N ≤ 18446744073709551615) : q.bytes.length ≤ 320 := by
  unfold Part.bytes
  split
  · have := short_ten q.N hN
    omega
  · split
    · obtain ⟨X, hX, hX1⟩ := toI64_fold q.N
      rw [hX, Int.toNat_natCast]
      have := short_ten X hX1
      omega
    · split
      · unfold textBytes
        have := short_ten q.S.size (by omega)
        rw [List.length_append, strBytes_len]
        omega
      · split
        · simp
        · simp
theorem Part.bytes_bytes (q : Part) (hN : q.N ≤ 18446744073709551615) : IsBytes q.bytes := by
  unfold Part.bytes
  split
  · exact short_bytes _
  · split
    · exact short_bytes _
    · split
      · unfold textBytes
        intro x hx
        rcases List.mem_append.mp hx with h | h
        · exact short_bytes _ x h
        · exact strBytes_bytes _ x h
      · split
        · intro x hx
          have := flagSum_take_lt q.F 8
          simp only [List.mem_singleton] at hx
          omega
        · intro x hx; cases hx
end Go.Proofs.YtkakcdojbgnocaaDoor

/- How the parts of layer 5's laws are opened. -/
namespace Go.Proofs.YtkakcdojbgnocaaDoor
open Go.ChangeShapes Go.WideShapes Go.RowKit
set_option linter.unusedVariables false

end Go.Proofs.YtkakcdojbgnocaaDoor

/- The walks of layer 5's laws. -/
namespace Go.Proofs.YtkakcdojbgnocaaDoor
open Go.RowKit
set_option linter.unusedVariables false

theorem Away.moved {e : TypeId} {base p : Nat} {a q q' : Option Addr} {l : List Int} {w : World} (h : Away q p a) (hn : q' = q ∨ ∃ g, q' = some ⟨g, 0, none⟩ ∧ w.heap.size ≤ g) (hw : Wr e base p a l w) : Away q' p a := by
  rcases hn with rfl | ⟨g, rfl, hg⟩
  · exact h
  · intro x hx
    cases hx
    refine ⟨?_, fun y hy => ?_⟩
    · show g ≠ p
      have := hw.lt.2
      omega
    · show y.block ≠ g
      have := (hw.row y hy).2.1
      omega
theorem draws_belowN (w : World) (m : Nat) : Below w.heap.size w (w.drewN m) := ⟨rfl, rfl, rfl, Nat.le_refl _, fun _ _ => rfl⟩

end Go.Proofs.YtkakcdojbgnocaaDoor
