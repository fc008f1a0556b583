/- Contracts of layer 5's writer. -/
import Derived.Test.YtfdiomghoheljaaKept
import Derived.Test.YtfdiomghoheljaaPackPlain
import Derived.Test.YtfdiomghoheljaaVarLaw
import Derived.Lib.LazyBuf
namespace Go.Proofs.Ytfdiomghoheljaa
open Go.RowKit
set_option linter.unusedVariables false

theorem cloneB (l : List Int) (n : Nat) (a : Option Addr) (c : Nat) (w : World) (hl : l.length = n) (ha : Reads w a (l.map (Value.int .u8))) (hc : a = none → c = 0) (hm : n ≤ 1000000000000) :
    Calls Try.prog 39 #[.slice a n c] w (GivesOwned 5 (l.map (Value.int .u8)) n w) := by
  obtain ⟨i0, hi, hz0, hz1, hz2⟩ := info_parts info8
  have HL := Lib.hid hl
  have kn := fun (w : World) (a : Option Addr) (n c : Nat) => Go.run_eql_slice_nil (P := Try.prog) w 47 5 a n c Try.underlying47
  cases a with
  | none =>
    have hn : l = [] := by
      cases l with
      | nil => rfl
      | cons y ys => obtain ⟨b, off, e0, _⟩ := ha 0 (.int .u8 y) rfl; cases e0
    subst hn
    have hn0 : n = 0 := hl.symm
    subst hn0
    go_enter Try.func39, Try.ntmps39
    go_wp2
    go_ret
    exact ⟨none, 0, rfl, ⟨World.ownsRow_nil _ _ _ _, Reads.nil _ _, fun _ => rfl, Nat.le_refl _, Nat.zero_le _, rfl⟩, Below.refl _ _⟩
  | some x =>
    clear hl
    go_enter Try.func39, Try.ntmps39
    go_wp2_with (at_builtin; refine wpList_append_lit rfl (.tmp 5) (.tmp 6) 47 rfl 5 i0 (.int .u8 0) 1 Try.underlying47 hi hz0 hz1 hz2 rfl rfl ha rfl (by rw [List.length_map, HL.out]) hc (bytes_one l .u8) (by unfold maxLen; omega) (by omega) ?_; intro a2 c2 w2 ho2 hb2)
    go_ret
    exact ⟨a2, c2, rfl, ho2, hb2⟩

set_option maxRecDepth 100000 in
theorem addC (base p : Nat) (a b : Option Addr) (l y : List Int) (m cb : Nat) (w : World) (hw : Wr 5 base p a l w) (hb : Reads w b (y.map (Value.int .u8))) (hm : y.length = m) (hc : b = none → cb = 0)
    (hlen : l.length + m ≤ 1000000000000) (hbase : base ≤ w.heap.size) :
    Calls Try.prog 46 #[.pointer (some ⟨p, 0, none⟩), .slice b m cb] w (WrGives 5 base p a (l ++ y) w) := by
  obtain ⟨i0, hi, hz0, hz1, hz2⟩ := info_parts info8
  obtain ⟨n, c, h1, h2, hcell, hfz, hn, ho, hap⟩ := hw
  rw [hn] at hlen
  have HN := Lib.hid hn
  have HM := Lib.hid hm
  clear hn hm
  go_enter Try.func46, Try.ntmps46
  go_wp2_with (at_builtin; refine wpList_append_where rfl (.tmp 11) (.tmp 12) 47 rfl 5 i0 (.int .u8 0) 1 Try.underlying47 hi hz0 hz1 hz2 rfl ho rfl hb rfl (by rw [List.length_map, HM.out]) hc (bytes_one y .u8) (n + m) rfl (by unfold maxLen; omega) (by omega) hbase ?_; intro a2 c2 w2 ho2 hb2 hg2 hn2; have hcell2 := hg2.cell hcell hap; have hfz2 := (hg2.frozen (x := ⟨p, 0, none⟩) h2 hap).trans hfz)
  go_ret
  have hnear := Near.of hn2
  have hap2 : Apart a2 p := hnear p h2 hap
  refine ⟨rfl, a2, ⟨n + m, c2, h1, ?_, ?_, ?_, ?_, ?_, hap2⟩, ?_, hnear⟩
  · simpa using Nat.lt_of_lt_of_le h2 hg2.1
  · exact World.cell?_setCell_same w2 ⟨p, 0, none⟩ _ hcell2
  · rw [World.frozen?_setCell]; exact hfz2
  · rw [List.length_append, HN.out, HM.out]
  · rw [List.map_append]; exact ho2.setCell hap2 _
  · exact (Kept.grown hb2 hg2).setCell 0 _

/-- What is packed of a text. -/
def textBytes (s : ByteArray) : List Int := short s.size ++ strBytes s

set_option maxRecDepth 100000 in
theorem wNumC (base p N : Nat) (a : Option Addr) (l : List Int) (w : World) (hw : Wr 5 base p a l w) (hlen : l.length ≤ 100000000000) (hbase : base ≤ w.heap.size) (h : N ≤ 18446744073709551615) :
    Calls Try.prog 38 #[.pointer (some ⟨p, 0, none⟩), .int .u64 (N : Int)] w (WrGives 5 base p a (l ++ short N) w) := by
  have H3 := fun w => putO [] (short N) 0 (short N).length none 0 N w rfl rfl rfl (Reads.nil _ _) (fun _ => rfl) (by omega) h
  have hten := short_ten N h
  rw [List.nil_append] at H3
  have HA := fun w a b c hw hb hc => addC base p a b l (short N) (short N).length c w hw hb rfl hc (by omega)
  generalize short N = sh at *
  generalize hL : sh.length = L at *
  clear hlen
  go_enter Try.func38, Try.ntmps38
  go_wp2_with (first
    | (go_at_call 47; (with_reducible refine (H3 _).mono ?_); rintro e w1 ⟨a1, c1, rfl, ho1, hb1⟩)
    | (go_at_call 46; (with_reducible refine (HA _ _ _ _ (hw.below hb1) ho1.reads ho1.nil0 (Nat.le_trans hbase hb1.size)).mono ?_); rintro e w2 hG; have hG2 := hG.early hb1; obtain ⟨rfl, hG3⟩ := hG2))
  go_ret
  exact ⟨rfl, hG3⟩

set_option maxRecDepth 100000 in
theorem wBytesC (base p : Nat) (a : Option Addr) (l : List Int) (n : Nat) (w : World) (hw : Wr 5 base p a l w) (hl : l.length = n) (hlen : n ≤ 1000000000000) :
    Calls Try.prog 20 #[.pointer (some ⟨p, 0, none⟩)] w (GivesOwned 5 (l.map (Value.int .u8)) n w) := by
  obtain ⟨n', c, h1, h2, hcell, hfz, hn, ho, hap⟩ := hw
  obtain rfl : n' = n := hn.symm.trans hl
  have HC := fun w ha => cloneB l n' a c w hl ha ho.nil0 hlen
  go_enter Try.func20, Try.ntmps20
  go_wp2_with (go_at_call 39; (with_reducible refine (HC _ ho.reads).mono ?_); rintro e w1 ⟨a1, c1, rfl, ho1, hb1⟩)
  go_ret
  exact ⟨a1, c1, rfl, ho1, hb1⟩

end Go.Proofs.Ytfdiomghoheljaa
