/- Contracts and plain words that the laws' proofs stand on, put together. -/
import Derived.Test.YtkakcdojbgnocaaGreatDoorLibAD
import Derived.Test.YtkakcdojbgnocaaGreatDoorLibAA
import Derived.Lib.LazyBuf
import Derived.Test.YtkakcdojbgnocaaGreatDoorLibAB
import Derived.BigRegion
/- What is packed of flags: plain, with no program in it. -/
namespace Go.Proofs.YtkakcdojbgnocaaGreatDoor
open Go.RowKit
set_option linter.unusedVariables false

/-- Flags as a number, the first one the lowest bit. -/
def flagSum : List Bool → Nat
  | [] => 0
  | b :: r => (if b then 1 else 0) + 2 * flagSum r
theorem flagSum_snoc : ∀ (l : List Bool) (b : Bool), flagSum (l ++ [b]) = flagSum l + (if b then 2 ^ l.length else 0)
  | [], b => by simp [flagSum]
  | c :: r, b => by
    simp only [List.cons_append, flagSum, flagSum_snoc r b, List.length_cons, Nat.pow_succ]
    cases b <;> simp <;> omega
theorem flagSum_lt : ∀ l : List Bool, flagSum l < 2 ^ l.length
  | [] => by simp [flagSum]
  | c :: r => by
    have := flagSum_lt r
    simp only [flagSum, List.length_cons, Nat.pow_succ]
    cases c <;> simp <;> omega
theorem flagSum_bit : ∀ (l : List Bool) (k : Nat), flagSum l / 2 ^ k % 2 = if l.getD k false then 1 else 0
  | [], k => by simp [flagSum]
  | c :: r, 0 => by
    simp only [flagSum, Nat.pow_zero, Nat.div_one, List.getD_cons_zero]
    cases c <;> simp <;> omega
  | c :: r, k + 1 => by
    have h := flagSum_bit r k
    have e : flagSum (c :: r) / 2 ^ (k + 1) = flagSum r / 2 ^ k := by
      rw [Nat.pow_succ, Nat.mul_comm (2 ^ k) 2, ← Nat.div_div_eq_div_mul]
      congr 1
      simp only [flagSum]
      cases c <;> simp <;> omega
    rw [e, h]
    rfl
theorem flagSum_take (f : List Bool) (k : Nat) (h : k < f.length) : flagSum (f.take (k + 1)) = flagSum (f.take k) + (if f.getD k false then 2 ^ k else 0) := by
  have e : f.take (k + 1) = f.take k ++ [f.getD k false] := by
    rw [List.take_add_one, List.getElem?_eq_getElem h, List.getD_eq_getElem?_getD, List.getElem?_eq_getElem h]
    rfl
  have hl : (f.take k).length = k := by rw [List.length_take]; omega
  rw [e, flagSum_snoc, hl]
theorem flagSum_take_lt (f : List Bool) (k : Nat) : flagSum (f.take k) < 2 ^ k :=
  Nat.lt_of_lt_of_le (flagSum_lt _) (Nat.pow_le_pow_right (by decide) (by rw [List.length_take]; omega))
theorem pow8_le (k : Nat) (h : k ≤ 8) : 2 ^ k ≤ 256 := by
  have := Nat.pow_le_pow_right (n := 2) (by decide) h
  omega
/-- 'x |= 1 << k'. -/
theorem orFlag (x k : Nat) (hk : k < 8) (hx : x < 2 ^ k) : bits BinOp.or IntKind.u8 (x : Int) (((2 ^ k : Nat) : Int)) = ((x + 2 ^ k : Nat) : Int) := by
  have h2 : 2 ^ k < 256 := by
    have := Nat.pow_le_pow_right (n := 2) (by decide) (show k ≤ 7 by omega)
    omega
  rw [u8_or_nat x (2 ^ k) (by omega) h2, Nat.or_comm]
  have := Nat.two_pow_add_eq_or_of_lt hx 1
  simp only [Nat.mul_one] at this
  omega
end Go.Proofs.YtkakcdojbgnocaaGreatDoor

/- Contracts of layer 5's writer. -/
namespace Go.Proofs.YtkakcdojbgnocaaGreatDoor
open Go.RowKit
set_option linter.unusedVariables false

theorem cloneB (l : List Int) (n : Nat) (a : Option Addr) (c : Nat) (w : World) (hl : l.length = n) (ha : Reads w a (l.map (Value.int .u8))) (hc : a = none → c = 0) (hm : n ≤ 1000000000000) :
    Calls Tryz.prog 30 #[.slice a n c] w (GivesOwned 5 (l.map (Value.int .u8)) n w) := by
  obtain ⟨i0, hi, hz0, hz1, hz2⟩ := info_parts info8
  have HL := Lib.hid hl
  have kn := fun (w : World) (a : Option Addr) (n c : Nat) => Go.run_eql_slice_nil (P := Tryz.prog) w 40 5 a n c Tryz.underlying40
  cases a with
  | none =>
    have hn : l = [] := by
      cases l with
      | nil => rfl
      | cons y ys => obtain ⟨b, off, e0, _⟩ := ha 0 (.int .u8 y) rfl; cases e0
    subst hn
    have hn0 : n = 0 := hl.symm
    subst hn0
    go_enter Tryz.func30, Tryz.ntmps30
    go_wp2
    go_ret
    exact ⟨none, 0, rfl, ⟨World.ownsRow_nil _ _ _ _, Reads.nil _ _, fun _ => rfl, Nat.le_refl _, Nat.zero_le _, rfl⟩, Below.refl _ _⟩
  | some x =>
    clear hl
    go_enter Tryz.func30, Tryz.ntmps30
    go_wp2_with (at_builtin; refine wpList_append_lit rfl (.tmp 5) (.tmp 6) 40 rfl 5 i0 (.int .u8 0) 1 Tryz.underlying40 hi hz0 hz1 hz2 rfl rfl ha rfl (by rw [List.length_map, HL.out]) hc (bytes_one l .u8) (by unfold maxLen; omega) (by omega) ?_; intro a2 c2 w2 ho2 hb2)
    go_ret
    exact ⟨a2, c2, rfl, ho2, hb2⟩

set_option maxRecDepth 100000 in
theorem addC (base p : Nat) (a b : Option Addr) (l y : List Int) (m cb : Nat) (w : World) (hw : Wr 5 base p a l w) (hb : Reads w b (y.map (Value.int .u8))) (hm : y.length = m) (hc : b = none → cb = 0)
    (hlen : l.length + m ≤ 1000000000000) (hbase : base ≤ w.heap.size) :
    Calls Tryz.prog 50 #[.pointer (some ⟨p, 0, none⟩), .slice b m cb] w (WrGives 5 base p a (l ++ y) w) := by
  obtain ⟨i0, hi, hz0, hz1, hz2⟩ := info_parts info8
  obtain ⟨n, c, h1, h2, hcell, hfz, hn, ho, hap⟩ := hw
  rw [hn] at hlen
  have HN := Lib.hid hn
  have HM := Lib.hid hm
  clear hn hm
  go_enter Tryz.func50, Tryz.ntmps50
  go_wp2_with (at_builtin; refine wpList_append_where rfl (.tmp 11) (.tmp 12) 40 rfl 5 i0 (.int .u8 0) 1 Tryz.underlying40 hi hz0 hz1 hz2 rfl ho rfl hb rfl (by rw [List.length_map, HM.out]) hc (bytes_one y .u8) (n + m) rfl (by unfold maxLen; omega) (by omega) hbase ?_; intro a2 c2 w2 ho2 hb2 hg2 hn2; have hcell2 := hg2.cell hcell hap; have hfz2 := (hg2.frozen (x := ⟨p, 0, none⟩) h2 hap).trans hfz)
  go_ret
  have hnear := Near.of hn2
  have hap2 : Apart a2 p := hnear p h2 hap
  refine ⟨rfl, a2, ⟨n + m, c2, h1, ?_, ?_, ?_, ?_, ?_, hap2⟩, ?_, hnear⟩
  · simpa using Nat.lt_of_lt_of_le h2 hg2.1
  · exact World.cell?_setCell_same w2 ⟨p, 0, none⟩ _ hcell2
  · rw [World.frozen?_setCell]; exact hfz2
  · rw [List.length_append, HN.out, HM.out]
  · rw [List.map_append]; exact ho2.setCell hap2 _
  · exact (Kept.grown hb2 hg2).setCell 0 _

/-- What is packed of a text. -/
def textBytes (s : ByteArray) : List Int := short s.size ++ strBytes s

set_option maxRecDepth 100000 in
theorem wNumC (base p N : Nat) (a : Option Addr) (l : List Int) (w : World) (hw : Wr 5 base p a l w) (hlen : l.length ≤ 100000000000) (hbase : base ≤ w.heap.size) (h : N ≤ 18446744073709551615) :
    Calls Tryz.prog 28 #[.pointer (some ⟨p, 0, none⟩), .int .u64 (N : Int)] w (WrGives 5 base p a (l ++ short N) w) := by
  have H3 := fun w => putO [] (short N) 0 (short N).length none 0 N w rfl rfl rfl (Reads.nil _ _) (fun _ => rfl) (by omega) h
  have hten := short_ten N h
  rw [List.nil_append] at H3
  have HA := fun w a b c hw hb hc => addC base p a b l (short N) (short N).length c w hw hb rfl hc (by omega)
  generalize short N = sh at *
  generalize hL : sh.length = L at *
  clear hlen
  go_enter Tryz.func28, Tryz.ntmps28
  go_wp2_with (first
    | (go_at_call 51; (with_reducible refine (H3 _).mono ?_); rintro e w1 ⟨a1, c1, rfl, ho1, hb1⟩)
    | (go_at_call 50; (with_reducible refine (HA _ _ _ _ (hw.below hb1) ho1.reads ho1.nil0 (Nat.le_trans hbase hb1.size)).mono ?_); rintro e w2 hG; have hG2 := hG.early hb1; obtain ⟨rfl, hG3⟩ := hG2))
  go_ret
  exact ⟨rfl, hG3⟩

set_option maxRecDepth 100000 in
theorem wIntC (base p N : Nat) (m : Int) (a : Option Addr) (l : List Int) (w : World) (hw : Wr 5 base p a l w) (hlen : l.length ≤ 100000000000) (hbase : base ≤ w.heap.size) (hN : foldI m = (N : Int)) (h : N ≤ 18446744073709551615) (h0 : -9223372036854775808 ≤ m) (h1 : m ≤ 9223372036854775807) :
    Calls Tryz.prog 53 #[.pointer (some ⟨p, 0, none⟩), .int .i64 m] w (WrGives 5 base p a (l ++ short N) w) := by
  have H3 := fun w => putIntO [] (short N) 0 (short N).length none 0 m N w hN rfl rfl rfl (Reads.nil _ _) (fun _ => rfl) (by omega) h h0 h1
  have hten := short_ten N h
  rw [List.nil_append] at H3
  have HA := fun w a b c hw hb hc => addC base p a b l (short N) (short N).length c w hw hb rfl hc (by omega)
  generalize short N = sh at *
  generalize hL : sh.length = L at *
  clear hlen hN
  go_enter Tryz.func53, Tryz.ntmps53
  go_wp2_with (first
    | (go_at_call 73; (with_reducible refine (H3 _).mono ?_); rintro e w1 ⟨a1, c1, rfl, ho1, hb1⟩)
    | (go_at_call 50; (with_reducible refine (HA _ _ _ _ (hw.below hb1) ho1.reads ho1.nil0 (Nat.le_trans hbase hb1.size)).mono ?_); rintro e w2 hG; have hG2 := hG.early hb1; obtain ⟨rfl, hG3⟩ := hG2))
  go_ret
  exact ⟨rfl, hG3⟩

set_option maxRecDepth 100000 in
theorem wTextC (base p : Nat) (s : ByteArray) (a : Option Addr) (l : List Int) (w : World) (hw : Wr 5 base p a l w) (hlen : l.length ≤ 10000000000) (hbase : base ≤ w.heap.size) (h : s.size ≤ 1000000000) :
    Calls Tryz.prog 52 #[.pointer (some ⟨p, 0, none⟩), .string s] w (WrGives 5 base p a (l ++ textBytes s) w) := by
  have kc := fun (w : World) (s : ByteArray) => Lib.run_convert_string_bytes (P := Tryz.prog) w 9 40 5 s Tryz.underlying9 Tryz.underlying40 Tryz.underlying5
  have hten := short_ten s.size (by omega)
  have HN := fun w hw hb => wNumC base p s.size a l w hw (by omega) hb (by omega)
  have hl2 : (l ++ short s.size).length ≤ 100000000000 := by rw [List.length_append]; omega
  have HA := fun w a b c hw hb hc => addC base p a b (l ++ short s.size) (strBytes s) s.size c w hw hb (strBytes_len s) hc (by omega)
  have hR := fun w => bytesWorld_reads w 5 s
  have hB := fun w => bytesWorld_below w 5 s
  unfold textBytes
  rw [← List.append_assoc]
  generalize l ++ short s.size = l1 at *
  generalize strBytes s = y at *
  clear hlen hl2 hten
  have hs1 : (s.size : Int) ≤ 1000000000 := by omega
  go_enter Tryz.func52, Tryz.ntmps52
  go_wp2_with (first
    | (go_at_call 28; (with_reducible refine (HN _ hw hbase).mono ?_); rintro e w1 ⟨rfl, a1, hw1, hk1, hn1⟩)
    | (go_at_call 50; (with_reducible refine (HA _ _ _ _ (hw1.below (hB w1)) (hR w1) (fun h => by cases h) (Nat.le_trans hbase (Nat.le_trans hk1.size (hB w1).size))).mono ?_); rintro e w2 hG; have hG2 := (hG.early (hB w1)).later hk1 hn1; obtain ⟨rfl, hG3⟩ := hG2))
  go_ret
  exact ⟨rfl, hG3⟩

set_option maxRecDepth 100000 in
theorem wBytesC (base p : Nat) (a : Option Addr) (l : List Int) (n : Nat) (w : World) (hw : Wr 5 base p a l w) (hl : l.length = n) (hlen : n ≤ 1000000000000) :
    Calls Tryz.prog 12 #[.pointer (some ⟨p, 0, none⟩)] w (GivesOwned 5 (l.map (Value.int .u8)) n w) := by
  obtain ⟨n', c, h1, h2, hcell, hfz, hn, ho, hap⟩ := hw
  obtain rfl : n' = n := hn.symm.trans hl
  have HC := fun w ha => cloneB l n' a c w hl ha ho.nil0 hlen
  go_enter Tryz.func12, Tryz.ntmps12
  go_wp2_with (go_at_call 30; (with_reducible refine (HC _ ho.reads).mono ?_); rintro e w1 ⟨a1, c1, rfl, ho1, hb1⟩)
  go_ret
  exact ⟨a1, c1, rfl, ho1, hb1⟩

set_option maxRecDepth 100000 in
theorem wFlagsC (base p : Nat) (f : List Bool) (n m c : Nat) (b : Option Addr) (a : Option Addr) (l : List Int) (w : World) (hw : Wr 5 base p a l w) (hlen : l.length ≤ 100000000000) (hbase : base ≤ w.heap.size)
    (hr : Reads w b (f.map Value.bool)) (hf : f.length = n) (hc : n ≤ c) (hcm : c ≤ maxLen) (hm : min n 8 = m) :
    Calls Tryz.prog 27 #[.pointer (some ⟨p, 0, none⟩), .slice b n c] w (WrGives 5 base p a (l ++ [(flagSum (f.take 8) : Int)]) w) := by
  have HA := fun x w a b c hw hb hc => addC base p a b l [x] 1 c w hw hb rfl hc (by omega)
  have hl8 := flagSum_take_lt f 8
  have hfe : f.take 8 = f.take m := by
    by_cases c8 : n ≤ 8
    · rw [List.take_of_length_le (by omega), List.take_of_length_le (by omega)]
    · rw [show m = 8 by omega]
  rw [hfe] at hl8 ⊢
  have HF := Lib.hid hf
  unfold maxLen at hcm
  clear hf hfe hlen
  by_cases c8 : n ≤ 8
  all_goals
    have hm2 : (n ≤ 8 ∧ m = n) ∨ (8 < n ∧ m = 8) := by omega
    clear hm
    first
      | (have d8 : (n : Int) ≤ 8 := by omega)
      | (have d8 : (8 : Int) < (n : Int) := by omega; skip)
    go_enter Tryz.func27, Tryz.ntmps27
    go_wp2
    go_loopw [5, 14] (fun x i wr => ∃ k : Nat, k ≤ m ∧ i = .int .i64 (k : Int) ∧ x = .int .u8 ((flagSum (f.take k) : Nat) : Int) ∧ wr = w) (fun _ i _ => m - (intOf i).toNat)
    case atStart => exact ⟨0, Nat.zero_le _, rfl, rfl, rfl⟩
    case round =>
      obtain ⟨k, hk, rfl, rfl, hkeep⟩ := hrel
      subst hkeep
      by_cases hlt : k < m
      · obtain ⟨B, off, rfl, c0⟩ := hr k (.bool (f.getD k false)) (by rw [List.getElem?_map, List.getD_eq_getElem?_getD, List.getElem?_eq_getElem (by rw [HF.out]; omega)]; rfl)
        have hX := flagSum_take f k (by rw [HF.out]; omega)
        have hXl := flagSum_take_lt f k
        have hor := orFlag (flagSum (f.take k)) k (by omega) hXl
        generalize f.getD k false = t at c0 hX
        have hk8 : (k : Int) < 8 := by omega
        have hlt' : (k : Int) < (m : Int) := by omega
        have hln : (k : Int) < (n : Int) := by omega
        have E2 : ∀ u : Nat, u ≤ k → True := fun _ _ => trivial
        generalize hx : flagSum (f.take k) = x at hX hXl hor
        generalize hy : flagSum (f.take (k + 1)) = y at hX
        have HX := Lib.hid hX
        have HY := Lib.hid hy
        have HOR := Lib.hid hor
        clear hX hy hx hor hr HA hw
        have e2 : ((2 ^ k : Nat) : Int) = (2 : Int) ^ k := by push_cast; rfl
        have hp8 : (2 : Int) ^ k % 256 = (2 : Int) ^ k := by
          have h7 : 2 ^ k ≤ 2 ^ 7 := Nat.pow_le_pow_right (by decide) (by omega)
          rw [← e2]
          omega
        have hor2 := HOR.out
        rw [e2] at hor2
        have HOR2 := Lib.hid hor2
        clear e2 hor2
        cases t
        · go_wp2
          go_roundw
          case rel => exact ⟨k + 1, by omega, by go_num, by rw [HY.out]; have := HX.out; simp at this; rw [this], trivial⟩
          case measure => simp [intOf]; omega
        · go_wp2
          go_roundw
          case rel => exact ⟨k + 1, by omega, by go_num, by rw [HY.out, HOR2.out]; have := HX.out; simp at this; rw [this], trivial⟩
          case measure => simp [intOf]; omega
      · have he : k = m := by omega
        subst he
        first
          | (have hkn : ¬ (k : Int) < (n : Int) := by omega)
          | (have hkn : ¬ (k : Int) < 8 := by omega)
        have hr0 : Reads (wr.alloc (.cells #[.int .u8 ((flagSum (f.take k) : Nat) : Int)] 5)) (some ⟨wr.heap.size, 0, none⟩) ([((flagSum (f.take k) : Nat) : Int)].map (Value.int .u8)) := reads_new wr [_] _
        have hb0 := below_alloc wr (.cells #[.int .u8 ((flagSum (f.take k) : Nat) : Int)] 5)
        go_wp2_with (go_at_call 50; (with_reducible refine (HA _ _ _ _ _ (hw.below hb0) hr0 (fun h => by cases h) (Nat.le_trans hbase hb0.size)).mono ?_); rintro e w2 hG; have hG2 := hG.early hb0; obtain ⟨rfl, hG3⟩ := hG2)
        go_ret
        exact ⟨rfl, hG3⟩
end Go.Proofs.YtkakcdojbgnocaaGreatDoor

/- Contracts of layer 5's reader. -/
namespace Go.Proofs.YtkakcdojbgnocaaGreatDoor
open Go.RowKit
set_option linter.unusedVariables false

/-- A reader at block p, without an error, in front of the bytes l. -/
def Rd (p : Nat) (l : List Int) (w : World) : Prop :=
  ∃ a n c, p < w.heap.size ∧ w.cell? ⟨p, 0, none⟩ = some (.slice a n c) ∧ w.cell? ⟨p, 1, none⟩ = some (.int .i64 0) ∧ w.frozen? ⟨p, 0, none⟩ = false ∧ Reads w a (l.map (Value.int .u8)) ∧ l.length = n ∧ n ≤ c ∧ c ≤ maxLen ∧ (a = none → c = 0) ∧ Apart a p
theorem Rd.lt {p : Nat} {l : List Int} {w : World} (h : Rd p l w) : p < w.heap.size := h.choose_spec.choose_spec.choose_spec.1
theorem Rd.below {p : Nat} {l : List Int} {w w' : World} (h : Rd p l w) (hb : Below w.heap.size w w') : Rd p l w' := by
  obtain ⟨a, n, c, h1, h2, h3, h4, h5, h6⟩ := h
  exact ⟨a, n, c, Nat.lt_of_lt_of_le h1 hb.size, (hb.cell (p := ⟨p, 0, none⟩) h1).trans h2, (hb.cell (p := ⟨p, 1, none⟩) h1).trans h3, (hb.frozen (p := ⟨p, 0, none⟩) h1).trans h4, h5.below' hb, h6⟩
theorem Rd.drewN {p : Nat} {l : List Int} {w : World} (h : Rd p l w) (d : Nat) : Rd p l (w.drewN d) := by
  obtain ⟨a, n, c, h1, h2, h3, h4, h5, h6⟩ := h
  exact ⟨a, n, c, by simpa using h1, by simpa using h2, by simpa using h3, by simpa using h4, h5.drewN d, h6⟩
/-- It went on: what is left is another slice. -/
theorem Rd.heap {p : Nat} {l : List Int} {w w' : World} (h : Rd p l w) (e : w'.heap = w.heap) : Rd p l w' := by
  obtain ⟨a, n, c, h1, h2, h3, h4, h5, h6⟩ := h
  have hc : ∀ y, w'.cell? y = w.cell? y := fun y => World.cell?_of_block (by rw [e])
  have hf : ∀ y, w'.frozen? y = w.frozen? y := fun y => World.frozen?_of_block (by rw [e])
  exact ⟨a, n, c, by rw [e]; exact h1, (hc _).trans h2, (hc _).trans h3, (hf _).trans h4, h5.same hc, h6⟩
theorem Rd.step {p : Nat} {l r : List Int} {w : World} {a : Option Addr} {n c : Nat} (h : Rd p l w) (hr : Reads w a (r.map (Value.int .u8))) (hn : r.length = n) (hc : n ≤ c) (hm : c ≤ maxLen) (h0 : a = none → c = 0) (ha : Apart a p) :
    Rd p r (w.setCell ⟨p, 0, none⟩ (.slice a n c)) := by
  obtain ⟨a', n', c', h1, h2, h3, h4, -⟩ := h
  refine ⟨a, n, c, by simpa using h1, World.cell?_setCell_same w ⟨p, 0, none⟩ _ h2, ?_, by rw [World.frozen?_setCell]; exact h4, ?_, hn, hc, hm, h0, ha⟩
  · rw [World.cell?_setCell_other _ _ _ _ (by intro h; cases h)]; exact h3
  · intro i v hv
    obtain ⟨b, off, hb, hcell⟩ := hr i v hv
    refine ⟨b, off, hb, ?_⟩
    have hne : b ≠ p := ha _ hb
    rw [World.cell?_setCell_other _ _ _ _ (fun h => hne (congrArg Addr.block h).symm)]
    exact hcell

/-- A method of the reader answers v, and what is left is l. -/
def RdGives (p : Nat) (v : Value) (l : List Int) (w : World) (en : Ending) (w' : World) : Prop := en = .returned v ∧ Rd p l w' ∧ Kept p none w w'
theorem RdGives.early {p : Nat} {v : Value} {l : List Int} {w w1 w2 : World} {en : Ending} (h : RdGives p v l w1 en w2) (hb : Below w.heap.size w w1) : RdGives p v l w en w2 :=
  ⟨h.1, h.2.1, (Kept.of hb).trans (Near.refl _ _) h.2.2⟩

theorem rErrC (p : Nat) (l : List Int) (w : World) (hr : Rd p l w) : Calls Tryz.prog 60 #[.pointer (some ⟨p, 0, none⟩)] w fun e w' => e = .returned (.int .i64 0) ∧ w = w' := by
  obtain ⟨a, n, c, h1, h2, h3, h4, -⟩ := hr
  go_enter Tryz.func60, Tryz.ntmps60
  go_wp2
  go_ret
  exact ⟨rfl, rfl⟩
theorem rLeftC (p : Nat) (l : List Int) (n : Nat) (w : World) (hr : Rd p l w) (hn : l.length = n) : Calls Tryz.prog 61 #[.pointer (some ⟨p, 0, none⟩)] w fun e w' => e = .returned (.int .i64 (n : Int)) ∧ w = w' := by
  obtain ⟨a, n', c, h1, h2, h3, h4, h5, h6, -⟩ := hr
  obtain rfl : n' = n := h6.symm.trans hn
  go_enter Tryz.func61, Tryz.ntmps61
  go_wp2
  go_ret
  exact ⟨rfl, rfl⟩
theorem rEndC (p : Nat) (w : World) (hr : Rd p [] w) : Calls Tryz.prog 33 #[.pointer (some ⟨p, 0, none⟩)] w fun e w' => e = .returned (.int .i64 0) ∧ w = w' := by
  have H1 := rErrC p [] w hr
  have H2 := rLeftC p [] 0 w hr rfl
  go_enter Tryz.func33, Tryz.ntmps33
  go_wp2_with (first
    | (go_at_call 60; (with_reducible refine H1.mono ?_); rintro e w' ⟨rfl, rfl⟩)
    | (go_at_call 61; (with_reducible refine H2.mono ?_); rintro e w' ⟨rfl, rfl⟩))
  go_ret
  exact ⟨rfl, rfl⟩

set_option maxRecDepth 100000 in
theorem readC (l : List Int) (a : Option Addr) (n c : Nat) (w : World) (ha : Reads w a (l.map (Value.int .u8))) (hn : l.length = n) (hc : n ≤ c) (hm : c ≤ maxLen) (h0 : a = none → c = 0) (hlt : ∀ x, a = some x → x.block < w.heap.size) :
    Calls Tryz.prog 31 #[.slice a n c] w fun e w' => e = .returned (.pointer (some ⟨w.heap.size, 0, none⟩)) ∧ Rd w.heap.size l w' ∧ Below w.heap.size w w' := by
  go_enter Tryz.func31, Tryz.ntmps31
  go_wp2
  go_ret
  refine ⟨rfl, ⟨a, n, c, by simp, ?_, ?_, ?_, ha.below' (below_alloc w _), hn, hc, hm, h0, fun x hx => by have := hlt x hx; omega⟩, below_alloc w _⟩
  · rw [World.cell?_alloc_at _ _ _ _ rfl]; rfl
  · rw [World.cell?_alloc_at _ _ _ _ rfl]; rfl
  · exact World.frozen?_alloc_at _ _ _ _ rfl

set_option maxRecDepth 100000 in
theorem rNumC (p N : Nat) (r l : List Int) (most : Int) (w : World) (hr : Rd p l w) (hl : short N ++ r = l) (hb : IsBytes l) (h : N ≤ 18446744073709551615) (hm : (N : Int) ≤ most) :
    Calls Tryz.prog 57 #[.pointer (some ⟨p, 0, none⟩), .int .u64 most] w (RdGives p (.int .u64 (N : Int)) r w) := by
  have HE := rErrC p l w hr
  have hr' := Lib.hid hr
  obtain ⟨a, n, c, h1, h2, h3, h4, h5, h6, h7, h8, h9, h10⟩ := hr
  have HG := fun w ha => getC l a c w ha hb (by omega)
  have hgot := got_back N r h
  rw [hl] at hgot
  rw [hgot, h6] at HG
  unfold GotIs at HG
  obtain ⟨s1, -, -⟩ := short_bounds N
  have hln : (short N).length + r.length = n := by rw [← h6, ← hl, List.length_append]
  obtain ⟨B, off, rfl⟩ : ∃ B off, a = some ⟨B, off, none⟩ := by
    obtain ⟨B, off, e, -⟩ := h5.at 0 (by omega)
    exact ⟨B, off, e⟩
  have h5' := h5
  rw [← hl, List.map_append] at h5'
  have hcut := h5'.cut_if (c := c) (short N).length (List.length_map _) (fun e => by
    have : r.length = 0 := by omega
    rw [List.length_eq_zero_iff.mp this]; rfl)
  clear hgot h5' hl hb
  generalize (short N).length = L at *
  have hL : (L : Int) ≤ (n : Int) := by omega
  unfold maxLen at h8
  have hap : ∀ o, Apart (some ⟨B, o, none⟩) p := fun o x hx => by cases hx; exact h10 ⟨B, off, none⟩ rfl
  by_cases hcL : c = L
  all_goals
    first
      | (rw [if_pos hcL] at hcut; subst hcL)
      | rw [if_neg hcL] at hcut
    go_enter Tryz.func57, Tryz.ntmps57
    go_wp2_with (first
      | (go_at_call 60; (with_reducible refine HE.mono ?_); rintro e w' ⟨rfl, rfl⟩)
      | (go_at_call 75; (with_reducible refine (HG _ h5).mono ?_); rintro e w' ⟨rfl, rfl⟩))
    go_ret
    exact ⟨rfl, hr'.out.step hcut (by omega) (by omega) (by unfold maxLen; omega) (fun h => by cases h) (hap _), (Kept.refl _ _ _).setCell 0 _⟩

theorem amountC (m : Int) (K : Nat) (w : World) (h0 : -9223372036854775808 ≤ m) (h1 : m ≤ 9223372036854775807) (hK : m.natAbs = K) :
    Calls Tryz.prog 92 #[.int .i64 m] w fun e w' => e = .returned (.int .u64 (K : Int)) ∧ w = w' := by
  by_cases c : m < 0
  · have e1 : IntKind.u64.wrap m = m + 18446744073709551616 := by rw [IntKind.wrap_u64]; omega
    have e2 : IntKind.u64.wrap (-(m + 18446744073709551616)) = (K : Int) := by rw [IntKind.wrap_u64]; omega
    have e3 : (-(m + 18446744073709551616)) % 18446744073709551616 = (K : Int) := by omega
    have e4 : m % 18446744073709551616 = m + 18446744073709551616 := by omega
    go_enter Tryz.func92, Tryz.ntmps92
    go_wp2
    go_ret
    exact ⟨by simp, rfl⟩
  · have e1 : IntKind.u64.wrap m = (K : Int) := by rw [IntKind.wrap_u64]; omega
    go_enter Tryz.func92, Tryz.ntmps92
    go_wp2
    go_ret
    exact ⟨by simp, rfl⟩

set_option maxRecDepth 100000 in
theorem rIntC (p N K : Nat) (m : Int) (r l : List Int) (most : Int) (w : World) (hr : Rd p l w) (hl : short N ++ r = l) (hb : IsBytes l) (hN : foldI m = (N : Int)) (h : N ≤ 18446744073709551615) (h0 : -9223372036854775808 ≤ m) (h1 : m ≤ 9223372036854775807)
    (hK : m.natAbs = K) (hm : (K : Int) ≤ most) (hm1 : most ≤ 9223372036854775807) :
    Calls Tryz.prog 77 #[.pointer (some ⟨p, 0, none⟩), .int .i64 most] w (RdGives p (.int .i64 m) r w) := by
  have HE := rErrC p l w hr
  have HA := fun w => amountC m K w h0 h1 hK
  have hr' := Lib.hid hr
  obtain ⟨a, n, c, g1, g2, g3, g4, h5, h6, h7, h8, h9, h10⟩ := hr
  have HG := fun w ha => getIntC l a c w ha hb (by omega)
  have hgot := got_back N r h
  rw [hl] at hgot
  rw [hgot, h6] at HG
  dsimp only at HG
  rw [← hN, unfold_fold] at HG
  obtain ⟨s1, -, -⟩ := short_bounds N
  have hln : (short N).length + r.length = n := by rw [← h6, ← hl, List.length_append]
  obtain ⟨B, off, rfl⟩ : ∃ B off, a = some ⟨B, off, none⟩ := by
    obtain ⟨B, off, e, -⟩ := h5.at 0 (by omega)
    exact ⟨B, off, e⟩
  have h5' := h5
  rw [← hl, List.map_append] at h5'
  have hcut := h5'.cut_if (c := c) (short N).length (List.length_map _) (fun e => by
    have : r.length = 0 := by omega
    rw [List.length_eq_zero_iff.mp this]; rfl)
  clear hgot h5' hl hb hN hK
  generalize (short N).length = L at *
  have hL : (L : Int) ≤ (n : Int) := by omega
  unfold maxLen at h8
  have hap : ∀ o, Apart (some ⟨B, o, none⟩) p := fun o x hx => by cases hx; exact h10 ⟨B, off, none⟩ rfl
  have hmost : most % 18446744073709551616 = most := by omega
  have hmax : max most 0 = most := by omega
  by_cases hcL : c = L
  all_goals
    first
      | (rw [if_pos hcL] at hcut; subst hcL)
      | rw [if_neg hcL] at hcut
    go_enter Tryz.func77, Tryz.ntmps77
    go_wp2_with (first
      | (go_at_call 60; (with_reducible refine HE.mono ?_); rintro e w' ⟨rfl, rfl⟩)
      | (go_at_call 91; (with_reducible refine (HG _ h5).mono ?_); rintro e w' ⟨rfl, rfl⟩)
      | (go_at_call 92; (with_reducible refine (HA _).mono ?_); rintro e w' ⟨rfl, rfl⟩))
    all_goals
      go_ret
      exact ⟨rfl, hr'.out.step hcut (by omega) (by omega) (by unfold maxLen; omega) (fun h => by cases h) (hap _), (Kept.refl _ _ _).setCell 0 _⟩

set_option maxRecDepth 100000 in
theorem rTextC (p S : Nat) (s : ByteArray) (r l : List Int) (most : Int) (w : World) (hr : Rd p l w) (hS : s.size = S) (hl : textBytes s ++ r = l) (hb : IsBytes l) (hs : S ≤ 1000000000) (hm : (S : Int) ≤ most) (hm1 : most ≤ 9223372036854775807) :
    Calls Tryz.prog 76 #[.pointer (some ⟨p, 0, none⟩), .int .i64 most] w (RdGives p (.string s) r w) := by
  have HE := rErrC p l w hr
  have hr' := Lib.hid hr
  obtain ⟨a, n, c, g1, g2, g3, g4, h5, h6, h7, h8, h9, h10⟩ := hr
  have HG := fun w ha => getC l a c w ha hb (by omega)
  unfold textBytes at hl
  rw [hS, List.append_assoc] at hl
  have hgot := got_back S (strBytes s ++ r) (by omega)
  rw [hl] at hgot
  rw [hgot, h6] at HG
  unfold GotIs at HG
  obtain ⟨s1, -, -⟩ := short_bounds S
  have hten := short_ten S (by omega)
  have hsl : (strBytes s).length = S := (strBytes_len s).trans hS
  have hln : (short S).length + (S + r.length) = n := by rw [← h6, ← hl, List.length_append, List.length_append, hsl]
  obtain ⟨B, off, rfl⟩ : ∃ B off, a = some ⟨B, off, none⟩ := by
    obtain ⟨B, off, e, -⟩ := h5.at 0 (by omega)
    exact ⟨B, off, e⟩
  have h5' := h5
  rw [← hl, List.map_append, List.map_append] at h5'
  have hcut1 := h5'.cut_if (c := c) (short S).length (List.length_map _) (fun e => by
    have hr0 : r.length = 0 := by omega
    have hs0 : (strBytes s).length = 0 := by omega
    rw [List.length_eq_zero_iff.mp hr0, List.length_eq_zero_iff.mp hs0]; rfl)
  have hcut3 := hcut1.head
  clear hcut1
  rw [← List.append_assoc] at h5'
  have hcut2 := h5'.cut_if (c := c) ((short S).length + S) (by rw [List.length_append, List.length_map, List.length_map, hsl]) (fun e => by
    have hr0 : r.length = 0 := by omega
    rw [List.length_eq_zero_iff.mp hr0]; rfl)
  clear hgot h5' hl hb
  generalize (short S).length = L at *
  have hL : (L : Int) ≤ (n : Int) := by omega
  unfold maxLen at h8
  have hap : ∀ o, Apart (some ⟨B, o, none⟩) p := fun o x hx => by cases hx; exact h10 ⟨B, off, none⟩ rfl
  have hmost : most % 18446744073709551616 = most := by omega
  obtain ⟨G, hG⟩ : ∃ G, L + S = G := ⟨_, rfl⟩
  rw [hG] at hcut2
  have hG1 : (L : Int) + (S : Int) = (G : Int) := by omega
  have hG2 : (G : Int) - (L : Int) = (S : Int) := by omega
  have hG3 : (n : Int) - (L : Int) = ((n - L : Nat) : Int) := by omega
  have hG4 : (S : Int) ≤ ((n - L : Nat) : Int) := by omega
  have hG5 : (G : Int) ≤ (n : Int) := by omega
  have hG6 : (L : Int) ≤ (G : Int) := by omega
  have hG7 : G - L = S := by omega
  dsimp only at HG
  have hs0 : s.size = S := hS
  rcases (show (c = L ∧ c = G) ∨ (c ≠ L ∧ c = G) ∨ (c ≠ L ∧ c ≠ G) by omega) with ⟨q1, q2⟩ | ⟨q1, q2⟩ | ⟨q1, q2⟩
  all_goals
    first
      | (rw [if_pos q1] at hcut3; rw [if_pos q2] at hcut2; subst q1; subst q2)
      | (rw [if_neg q1] at hcut3; rw [if_pos q2] at hcut2; subst q2)
      | (rw [if_neg q1] at hcut3; rw [if_neg q2] at hcut2)
    have kb := fun C => run_string_of (P := Tryz.prog) w 40 9 5 _ S C s Tryz.underlying40 Tryz.underlying5 Tryz.underlying9 hcut3 hs0 ⟨_, rfl⟩
    go_enter Tryz.func76, Tryz.ntmps76
    go_wp2_with (first
      | (go_at_call 60; (with_reducible refine HE.mono ?_); rintro e w' ⟨rfl, rfl⟩)
      | (go_at_call 75; (with_reducible refine (HG _ h5).mono ?_); rintro e w' ⟨rfl, rfl⟩))
    all_goals
      go_ret
      exact ⟨rfl, hr'.out.step hcut2 (by omega) (by omega) (by unfold maxLen; omega) (fun h => by cases h) (hap _), (Kept.refl _ _ _).setCell 0 _⟩

theorem infoB : (Tryz.prog.info? 4).map (fun i => (i.zero, i.size, i.bytes)) = some (some (.bool false), 1, 1) := by kernel_rfl

def flagsDone (f : List Bool) (k : Nat) : List Bool := (List.range f.length).map fun i => if i < k then f.getD i false else false
theorem flagsDone_zero (f : List Bool) (n : Nat) (h : f.length = n) : (List.replicate n (Value.bool false)) = (flagsDone f 0).map Value.bool := by
  subst h
  unfold flagsDone
  rw [List.map_map]
  apply List.ext_getElem
  · simp
  · intro i h1 h2; simp
theorem flagsDone_all (f : List Bool) (n : Nat) (h : f.length = n) : flagsDone f n = f := by
  subst h
  unfold flagsDone
  apply List.ext_getElem
  · simp
  · intro i h1 h2
    simp only [List.getElem_map, List.getElem_range]
    rw [if_pos h2, List.getD_eq_getElem?_getD, List.getElem?_eq_getElem h2]
    rfl
theorem flagsDone_set (f : List Bool) (k : Nat) : ((flagsDone f k).map Value.bool).set k (.bool (f.getD k false)) = (flagsDone f (k + 1)).map Value.bool := by
  unfold flagsDone
  apply List.ext_getElem
  · simp
  · intro i h1 h2
    simp only [List.getElem_set, List.getElem_map, List.getElem_range]
    by_cases h : k = i
    · subst h; simp
    · by_cases h3 : i < k
      · have : i < k + 1 := by omega
        simp [h, h3, this]
      · have : ¬ i < k + 1 := by omega
        simp [h, h3, this]

/-- Flags in new memory. -/
def FlagsGives (p : Nat) (f : List Bool) (n : Nat) (l : List Int) (w : World) (en : Ending) (w' : World) : Prop :=
  ∃ a c, en = .returned (.slice a n c) ∧ Owned w.heap.size 4 a n c (f.map Value.bool) w' ∧ Rd p l w' ∧ Kept p none w w'

theorem flag_test (f : List Bool) (k : Nat) (h : flagSum f < 256) : (bits BinOp.and IntKind.u8 ((flagSum f : Int) / 2 ^ k) 1 == 1) = f.getD k false := by
  have e : (flagSum f : Int) / 2 ^ k = ((flagSum f / 2 ^ k : Nat) : Int) := by push_cast; rfl
  have hb := flagSum_bit f k
  have hle : flagSum f / 2 ^ k ≤ flagSum f := Nat.div_le_self _ _
  rw [e, show (1 : Int) = ((1 : Nat) : Int) from rfl, u8_and_nat _ _ (by omega) (by decide), Nat.and_one_is_mod, hb]
  cases f.getD k false <;> rfl

set_option maxRecDepth 100000 in
theorem rFlagsC (p n : Nat) (f : List Bool) (r l : List Int) (w : World) (hr : Rd p l w) (hl : (flagSum f : Int) :: r = l) (hf : f.length = n) (hn : n ≤ 8) :
    Calls Tryz.prog 74 #[.pointer (some ⟨p, 0, none⟩), .int .i64 (n : Int)] w (FlagsGives p f n r w) := by
  obtain ⟨i0, hi, hz0, hz1, hz2⟩ := info_parts infoB
  have HE := rErrC p l w hr
  have hr' := Lib.hid hr
  obtain ⟨a, n', c, g1, g2, g3, g4, h5, h6, h7, h8, h9, h10⟩ := hr
  have hlt := flagSum_lt f
  rw [hf] at hlt
  have h256 : 2 ^ n ≤ 256 := pow8_le n hn
  have HT := fun k => Lib.hid (flag_test f k (by omega))
  have hz : (flagSum f : Int) / 2 ^ n = 0 := by
    have e : (flagSum f : Int) / 2 ^ n = ((flagSum f / 2 ^ n : Nat) : Int) := by push_cast; rfl
    rw [e, Nat.div_eq_of_lt hlt]
    rfl
  have hln : 1 + r.length = n' := by rw [← h6, ← hl, List.length_cons]; omega
  obtain ⟨B, off, rfl⟩ : ∃ B off, a = some ⟨B, off, none⟩ := by
    obtain ⟨B, off, e, -⟩ := h5.at 0 (by omega)
    exact ⟨B, off, e⟩
  have h5' := h5
  rw [← hl] at h5'
  have c0 : w.cell? ⟨B, off, none⟩ = some (.int .u8 (flagSum f : Int)) := by
    obtain ⟨_, _, e, hc⟩ := h5' 0 _ rfl
    cases e
    exact hc
  have hcut := Reads.cut_if (c := c) (xs := [.int .u8 (flagSum f : Int)]) (ys := r.map (Value.int .u8)) h5' 1 rfl (fun e => by
    have : r.length = 0 := by omega
    rw [List.length_eq_zero_iff.mp this]; rfl)
  have HF0 := Lib.hid (flagsDone_zero f n hf)
  have HFA := Lib.hid (flagsDone_all f n hf)
  have HFL := Lib.hid hf
  have HFS := fun k => Lib.hid (flagsDone_set f k)
  clear h5' hl hf h256 hlt
  have hn1 : (1 : Int) ≤ (n' : Int) := by omega
  have hn0 : ¬ (n' : Int) = 0 := by omega
  have hn8 : (n : Int) ≤ 8 := by omega
  unfold maxLen at h8
  have hap : ∀ o, Apart (some ⟨B, o, none⟩) p := fun o x hx => by cases hx; exact h10 ⟨B, off, none⟩ rfl
  generalize hx : (flagSum f : Int) = x at *
  by_cases hcL : c = 1
  all_goals
    first
      | (rw [if_pos hcL] at hcut; subst hcL)
      | rw [if_neg hcL] at hcut
    go_enter Tryz.func74, Tryz.ntmps74
    go_wp2_with (first
      | (go_at_call 60; (with_reducible refine HE.mono ?_); rintro e w' ⟨rfl, rfl⟩)
      | (at_make; refine wpList_make_full _ rfl _ _ 72 rfl w.heap.size 4 i0 (.bool false) 1 Tryz.underlying72 hi hz0 hz1 .i64 .i64 (n : Int) (n : Int) n rfl rfl rfl rfl (by rw [hz2]; omega) (by unfold maxLen; omega) (by simp) ?_; intro w1 hown1 hgrow1))
    have hb1 := (Below.refl _ _).grown hgrow1 (Nat.le_refl _) (by intro k hk; cases hk)
    first
      | have hrd0 := hr'.out.step hcut (n := n' - 1) (c := c - 1) (by omega) (by omega) (by unfold maxLen; omega) (fun h => by cases h) (hap _)
      | have hrd0 := hr'.out.step hcut (n := 0) (c := 0) (by omega) (by omega) (by unfold maxLen; omega) (fun h => by cases h) (hap _)
    have hk0 := (Kept.refl p none w).setCell 0
    simp only [World.size_setCell] at hown1 hb1 ⊢
    obtain ⟨w0, hw0, hb0, hrd, hkp⟩ : ∃ w0, w0.heap.size = w.heap.size ∧ Below w.heap.size w0 w1 ∧ Rd p r w0 ∧ Kept p none w w0 := ⟨_, by simp, hb1, hrd0, hk0 _⟩
    clear hb1 hrd0 hk0 hgrow1
    rw [show (Value.bool false).cells = #[.bool false] from rfl, toList_madeCells_one, Nat.mul_one, HF0.out] at hown1
    go_loopw [51] (fun i wr => ∃ k : Nat, k ≤ n ∧ i = .int .i64 k ∧ wr.ownsRow w.heap.size 4 1 (.slice (some ⟨w.heap.size, 0, none⟩) n n) n ((flagsDone f k).map Value.bool) ∧ Below w.heap.size w0 wr) (fun i _ => n - (intOf i).toNat)
    case atStart => exact ⟨0, Nat.zero_le _, rfl, hown1, hb0⟩
    case round =>
      obtain ⟨k, hk, rfl, hown, hb⟩ := hrel
      clear hown1 hb0
      by_cases hlt : k < n
      · have hfl : (flagsDone f k).length = n := by simp [flagsDone, HFL.out]
        have hlt' : (k : Int) < (n : Int) := by omega
        obtain ⟨v, hc⟩ := row_cell hown k (by omega) (by simp [hfl]; omega)
        have hf := hown.frozenAt k
        have hT := (HT k).out
        have hFS := (HFS k).out
        generalize f.getD k false = t at hT hFS
        have HFSk := Lib.hid hFS
        clear hFS hfl HT HFS
        go_wp2
        go_roundw
        case rel =>
          have hs := hown.stored k (.bool t)
          rw [HFSk.out] at hs
          exact ⟨k + 1, by omega, by go_num, hs.1, hb.setCell (Nat.le_refl _) _⟩
        case measure => simp [intOf]; omega
      · have hkn : ¬ (k : Int) < (n : Int) := by omega
        go_wp2
        go_ret
        have : k = n := by omega
        subst this
        rw [HFA.out] at hown
        obtain ⟨_, _, e3, ho3⟩ := Owned.of hown
        cases e3
        exact ⟨_, _, rfl, ho3, hrd.below (by rw [hw0]; exact hb), hkp.trans (Near.refl _ _) (Kept.of (by rw [hw0]; exact hb))⟩
end Go.Proofs.YtkakcdojbgnocaaGreatDoor

/- The parts of layer 5's laws: what a walk is told of them; the laws' helpers. -/
namespace Go.Proofs.YtkakcdojbgnocaaGreatDoor
open Go.RowKit
set_option linter.unusedVariables false

/-- A part: what kind, its number, its text, its flags, what is asked at most. -/
structure Part where
  K : Int
  N : Nat
  S : ByteArray
  A : Option Addr
  L : Nat
  C : Nat
  M : Int
  F : List Bool
def Part.cells (q : Part) : Array Value := #[.int .i64 q.K, .int .u64 (q.N : Int), .string q.S, .slice q.A q.L q.C, .int .i64 q.M]
structure Part.ok (q : Part) (w : World) : Prop where
  n1 : q.N ≤ 18446744073709551615
  k0 : -9223372036854775808 ≤ q.K
  k1 : q.K ≤ 9223372036854775807
  m0 : -9223372036854775808 ≤ q.M
  m1 : q.M ≤ 9223372036854775807
  s1 : q.S.size ≤ maxLen
  fl : q.F.length = q.L
  lc : q.L ≤ q.C
  cm : q.C ≤ maxLen
  nil : q.A = none → q.C = 0
  rd : Reads w q.A (q.F.map Value.bool)
theorem Part.ok.below {q : Part} {w w' : World} (h : q.ok w) (hb : Below w.heap.size w w') : q.ok w' := { h with rd := h.rd.below' hb }

/-- A slice of parts that came in. -/
def IsParts (w : World) (a : Option Addr) (len cap : Nat) (Q : Nat → Part) : Prop :=
  len ≤ cap ∧ cap ≤ maxLen ∧ (a = none → cap = 0) ∧ ∀ r, r < len → ∃ b off, a = some ⟨b, off, none⟩ ∧ w.cell? ⟨b, off + r * 5, none⟩ = some (.int .i64 (Q r).K) ∧ w.cell? ⟨b, off + r * 5 + 1, none⟩ = some (.int .u64 ((Q r).N : Int)) ∧
    w.cell? ⟨b, off + r * 5 + 2, none⟩ = some (.string (Q r).S) ∧ w.cell? ⟨b, off + r * 5 + 3, none⟩ = some (.slice (Q r).A (Q r).L (Q r).C) ∧ w.cell? ⟨b, off + r * 5 + 4, none⟩ = some (.int .i64 (Q r).M) ∧ (Q r).ok w

theorem refNumC (q : List Int) (N n : Nat) (w : World) (hq : short N = q) (hn : q.length = n) (h : N ≤ 18446744073709551615) :
    Calls Tryz.prog 37 #[.int .u64 (N : Int)] w (GivesOwned 5 (q.map (Value.int .u8)) n w) := by
  have H := fun w => refPutO q N n w hq hn h
  go_enter Tryz.func37, Tryz.ntmps37
  go_wp2_with (go_at_call 62; (with_reducible refine (H _).mono ?_); rintro e w' ⟨a, c, rfl, ho, hb⟩)
  go_ret
  exact ⟨a, c, rfl, ho, hb⟩

set_option maxRecDepth 100000 in
theorem refPackTextC (s : ByteArray) (n : Nat) (w : World) (hs : s.size ≤ 1000000) (hn : (textBytes s).length = n) :
    Calls Tryz.prog 38 #[.string s] w (GivesOwned 5 ((textBytes s).map (Value.int .u8)) n w) := by
  obtain ⟨i0, hi, hz0, hz1, hz2⟩ := info_parts info8
  have kc := fun (w : World) (s : ByteArray) => Lib.run_convert_string_bytes (P := Tryz.prog) w 9 40 5 s Tryz.underlying9 Tryz.underlying40 Tryz.underlying5
  have HN := fun w => refNumC (short s.size) s.size (short s.size).length w rfl rfl (by omega)
  have hten := short_ten s.size (by omega)
  have hR := fun w => bytesWorld_reads w 5 s
  have hB := fun w => bytesWorld_below w 5 s
  have hl := strBytes_len s
  unfold textBytes at hn ⊢
  rw [List.length_append, hl] at hn
  rw [List.map_append]
  generalize (short s.size).length = L at *
  generalize strBytes s = y at *
  have HL := Lib.hid hl
  have hs1 : (s.size : Int) ≤ 1000000 := by omega
  clear hl
  go_enter Tryz.func38, Tryz.ntmps38
  go_wp2_with (first
    | (go_at_call 37; (with_reducible refine (HN _).mono ?_); rintro e w1 ⟨a1, c1, rfl, ho1, hb1⟩; have ho2 := ho1.below (hB w1) (Nat.le_refl _); have hb2 := hb1.trans ((hB w1).mono hb1.size))
    | (at_builtin; refine wpList_append_where rfl (.tmp 8) (.tmp 10) 40 rfl 5 i0 (.int .u8 0) 1 Tryz.underlying40 hi hz0 hz1 hz2 rfl ho2 rfl (hR w1) rfl (by rw [List.length_map, HL.out]) (fun h => by cases h) (bytes_one y .u8) n hn (by unfold maxLen; omega) (by omega) hb2.size ?_; intro a3 c3 w3 ho3 hb3 hg3 hn3))
  go_ret
  exact ⟨a3, c3, rfl, ho3, hb2.trans hb3⟩

theorem owned_one (w : World) (e : TypeId) (x : Value) : Owned w.heap.size e (some ⟨w.heap.size, 0, none⟩) 1 1 [x] (w.alloc (.cells #[x] e)) := by
  have h : (w.alloc (.cells #[x] e)).ownsRow w.heap.size e 1 (.slice (some ⟨w.heap.size, 0, none⟩) 1 1) 1 [x] := World.ownsRow_lit _ #[x] 1 (Nat.le_refl _) (by unfold maxLen; omega) rfl
  obtain ⟨a, c, e1, h1⟩ := owns_open h
  cases e1
  exact ⟨h, h1⟩

set_option maxRecDepth 100000 in
theorem refFlagsC (f : List Bool) (n m c : Nat) (b : Option Addr) (w : World) (hr : Reads w b (f.map Value.bool)) (hf : f.length = n) (hc : n ≤ c) (hcm : c ≤ maxLen) (hm : min n 8 = m) :
    Calls Tryz.prog 36 #[.slice b n c] w (GivesOwned 5 [.int .u8 (flagSum (f.take 8) : Int)] 1 w) := by
  have hl8 := flagSum_take_lt f 8
  have hfe : f.take 8 = f.take m := by
    by_cases c8 : n ≤ 8
    · rw [List.take_of_length_le (by omega), List.take_of_length_le (by omega)]
    · rw [show m = 8 by omega]
  rw [hfe] at hl8 ⊢
  have HF := Lib.hid hf
  unfold maxLen at hcm
  clear hf hfe
  go_enter Tryz.func36, Tryz.ntmps36
  go_wp2
  go_loopw [3, 4, 5] (fun x b i wr => ∃ k : Nat, k ≤ m ∧ i = .int .i64 (k : Int) ∧ x = .int .i64 ((flagSum (f.take k) : Nat) : Int) ∧ b = .int .i64 ((2 ^ k : Nat) : Int) ∧ w = wr) (fun _ _ i _ => m - (intOf i).toNat)
  case atStart => exact ⟨0, Nat.zero_le _, rfl, rfl, rfl, rfl⟩
  case round =>
    obtain ⟨k, hk, rfl, rfl, rfl, rfl⟩ := hrel
    by_cases hlt : k < m
    · obtain ⟨B, off, rfl, c0⟩ := hr k (.bool (f.getD k false)) (by rw [List.getElem?_map, List.getD_eq_getElem?_getD, List.getElem?_eq_getElem (by rw [HF.out]; omega)]; rfl)
      have hX := flagSum_take f k (by rw [HF.out]; omega)
      have hXl := flagSum_take_lt f k
      generalize f.getD k false = t at c0 hX
      have hp : 2 ^ k ≤ 256 := pow8_le k (by omega)
      have hp2 : 2 ^ (k + 1) = 2 * 2 ^ k := by rw [Nat.pow_succ]; omega
      have hk8 : (k : Int) < 8 := by omega
      have hln : (k : Int) < (n : Int) := by omega
      generalize hx : flagSum (f.take k) = x at hX hXl
      generalize hy : flagSum (f.take (k + 1)) = y at hX
      generalize hP2 : 2 ^ (k + 1) = P2 at hp2
      generalize 2 ^ k = P at *
      have HX := Lib.hid hX
      have HY := Lib.hid hy
      have HP2 := Lib.hid hP2
      clear hX hy hx hr hP2
      cases t
      · go_wp2
        go_roundw
        case rel => exact ⟨k + 1, by omega, by go_num, by rw [HY.out]; have := HX.out; simp at this; rw [this], by rw [HP2.out, hp2]; push_cast; rw [Int.mul_comm], trivial⟩
        case measure => simp [intOf]; omega
      · go_wp2
        go_roundw
        case rel => exact ⟨k + 1, by omega, by go_num, by rw [HY.out]; have := HX.out; simp at this; rw [this]; push_cast; rfl, by rw [HP2.out, hp2]; push_cast; rw [Int.mul_comm], trivial⟩
        case measure => simp [intOf]; omega
    · have he : k = m := by omega
      subst he
      have hsm : ((flagSum (f.take k) : Nat) : Int) % 256 = ((flagSum (f.take k) : Nat) : Int) := by omega
      by_cases hkn : k < n
      · have d1 : (k : Int) < (n : Int) := by omega
        have d2 : ¬ (k : Int) < 8 := by omega
        generalize flagSum (f.take k) = x at *
        clear hr
        go_wp2
        go_ret
        exact ⟨_, _, rfl, owned_one w _ _, below_alloc w _⟩
      · have d1 : ¬ (k : Int) < (n : Int) := by omega
        generalize flagSum (f.take k) = x at *
        clear hr
        go_wp2
        go_ret
        exact ⟨_, _, rfl, owned_one w _ _, below_alloc w _⟩

/-- A number as a whole number with a sign. -/
def toI64 (n : Nat) : Int := ((n : Int) + 9223372036854775808) % 18446744073709551616 - 9223372036854775808
theorem toI64_eq (n : Nat) : wrap64 (n : Int) = toI64 n := by
  unfold toI64 wrap64
  omega
theorem toI64_range (n : Nat) : -9223372036854775808 ≤ toI64 n ∧ toI64 n ≤ 9223372036854775807 := by
  unfold toI64
  omega
theorem toI64_fold (n : Nat) : ∃ X : Nat, foldI (toI64 n) = (X : Int) ∧ X ≤ 18446744073709551615 := by
  have h := toI64_range n
  generalize toI64 n = m at h ⊢
  have hf := foldI_le m h.1 h.2
  obtain ⟨X, hX⟩ := Int.eq_ofNat_of_zero_le hf.1
  exact ⟨X, hX, by omega⟩

def PutGives (base p : Nat) (a : Option Addr) (l : List Int) (w : World) (en : Ending) (w' : World) : Prop :=
  en = .returned (.tuple #[]) ∧ ∃ a', Wr 5 base p a' l w' ∧ Kept p a w w' ∧ Near a a' w

/-- What is packed of a part. -/
def Part.bytes (q : Part) : List Int :=
  if q.K = 1 then short q.N else if q.K = 2 then short (foldI (toI64 q.N)).toNat else if q.K = 3 then textBytes q.S else if q.K = 4 then [(flagSum (q.F.take 8) : Int)] else []

theorem IsParts.below {w w' : World} {a : Option Addr} {n c : Nat} {Q : Nat → Part} (h : IsParts w a n c Q) (hb : Below w.heap.size w w') : IsParts w' a n c Q := by
  obtain ⟨h1, h2, h3, h4⟩ := h
  refine ⟨h1, h2, h3, fun r hr => ?_⟩
  obtain ⟨b, off, ha, d0, d1, d2, d3, d4, hok⟩ := h4 r hr
  exact ⟨b, off, ha, (hb.cell (cell_lt d0)).trans d0, (hb.cell (cell_lt d1)).trans d1, (hb.cell (cell_lt d2)).trans d2, (hb.cell (cell_lt d3)).trans d3, (hb.cell (cell_lt d4)).trans d4, hok.below hb⟩
theorem Wr.grown {e : TypeId} {base p : Nat} {a q : Option Addr} {l : List Int} {w w' : World} (h : Wr e base p a l w) (hb : Below base w w') (hg : GrownBut w w' q) (hq : Away q p a) : Wr e base p a l w' := by
  refine h.kept (p' := w.heap.size) (Kept.grown hb hg) (by have := h.lt.2; omega) (fun x hx => (hq x hx).1) (fun x hx => ⟨by have := (h.row x hx).2.1; omega, fun y hy => ?_⟩)
  exact fun e => (hq y hy).2 x hx e.symm
/-- What is packed of the first k parts. -/
def bytesTo (Q : Nat → Part) : Nat → List Int
  | 0 => []
  | k + 1 => bytesTo Q k ++ (Q k).bytes
theorem Part.bytes_len (q : Part) (h : q.S.size ≤ 300) (hN : q.N ≤ 18446744073709551615) : q.bytes.length ≤ 320 := by
  unfold Part.bytes
  split
  · have := short_ten q.N hN
    omega
  · split
    · obtain ⟨X, hX, hX1⟩ := toI64_fold q.N
      rw [hX, Int.toNat_natCast]
      have := short_ten X hX1
      omega
    · split
      · unfold textBytes
        have := short_ten q.S.size (by omega)
        rw [List.length_append, strBytes_len]
        omega
      · split
        · simp
        · simp
theorem Part.bytes_bytes (q : Part) (hN : q.N ≤ 18446744073709551615) : IsBytes q.bytes := by
  unfold Part.bytes
  split
  · exact short_bytes _
  · split
    · exact short_bytes _
    · split
      · unfold textBytes
        intro x hx
        rcases List.mem_append.mp hx with h | h
        · exact short_bytes _ x h
        · exact strBytes_bytes _ x h
      · split
        · intro x hx
          have := flagSum_take_lt q.F 8
          simp only [List.mem_singleton] at hx
          omega
        · intro x hx; cases hx
end Go.Proofs.YtkakcdojbgnocaaGreatDoor

/- How the parts of layer 5's laws are opened. -/
namespace Go.Proofs.YtkakcdojbgnocaaGreatDoor
open Go.ChangeShapes Go.WideShapes Go.RowKit
set_option linter.unusedVariables false

end Go.Proofs.YtkakcdojbgnocaaGreatDoor

/- The walks of layer 5's laws. -/
namespace Go.Proofs.YtkakcdojbgnocaaGreatDoor
open Go.RowKit
set_option linter.unusedVariables false

theorem wr_new (w : World) (e t : TypeId) : Wr e w.heap.size w.heap.size none [] (w.alloc (.cells #[.slice none 0 0] t)) := by
  refine ⟨0, 0, Nat.le_refl _, by simp, ?_, World.frozen?_alloc_at _ _ _ _ rfl, rfl, ⟨World.ownsRow_nil _ _ _ _, Reads.nil _ _, fun _ => rfl, Nat.le_refl _, Nat.zero_le _, rfl⟩, Apart.none _⟩
  rw [World.cell?_alloc_at _ _ _ _ rfl]; rfl

theorem Away.moved {e : TypeId} {base p : Nat} {a q q' : Option Addr} {l : List Int} {w : World} (h : Away q p a) (hn : q' = q ∨ ∃ g, q' = some ⟨g, 0, none⟩ ∧ w.heap.size ≤ g) (hw : Wr e base p a l w) : Away q' p a := by
  rcases hn with rfl | ⟨g, rfl, hg⟩
  · exact h
  · intro x hx
    cases hx
    refine ⟨?_, fun y hy => ?_⟩
    · show g ≠ p
      have := hw.lt.2
      omega
    · show y.block ≠ g
      have := (hw.row y hy).2.1
      omega
theorem draws_belowN (w : World) (m : Nat) : Below w.heap.size w (w.drewN m) := ⟨rfl, rfl, rfl, Nat.le_refl _, fun _ _ => rfl⟩

end Go.Proofs.YtkakcdojbgnocaaGreatDoor
