/- Contracts of layer 6: parts; the reference's. -/
import Derived.Test.YtlmcfflpgkapgaaAscii3
import Derived.Test.YtlmcfflpgkapgaaOwnAt
namespace Go.Proofs.Ytlmcfflpgkapgaa
open Go.RowKit
set_option linter.unusedVariables false

theorem infoStr : (Try.prog.info? 9).map (fun i => (i.zero, i.size, i.bytes)) = some (some (.string ⟨#[]⟩), 1, 16) := by kernel_rfl
/-- Strings of these bytes. -/
def strs (p : List (List UInt8)) : List Value := p.map fun l => Value.string (str l)
theorem strs_length (p : List (List UInt8)) : (strs p).length = p.length := by unfold strs; rw [List.length_map]
theorem strs_snoc (p : List (List UInt8)) (x : List UInt8) : strs p ++ [.string (str x)] = strs (p ++ [x]) := by unfold strs; rw [List.map_append]; rfl

/-- Texts in new memory. -/
def GivesStrs (p : List (List UInt8)) (w : World) (en : Ending) (w' : World) : Prop :=
  ∃ a c, en = .returned (.slice a p.length c) ∧ Owned w.heap.size 9 a p.length c (strs p) w' ∧ Below w.heap.size w w'

set_option maxRecDepth 100000 in
theorem splitC (l : List UInt8) (c : UInt8) (n : Nat) (w : World) (hl : l.length = n) (hm : n ≤ 1000000000000) :
    Calls Try.prog 19 #[.string (str l), .int .u8 (c.toNat : Int)] w (GivesStrs (splitL l c) w) := by
  have hsz : (str l).size = n := by rw [str_size, hl]
  have hx := str_extract l
  obtain ⟨i0, hi, hz0, hz1, hz2⟩ := info_parts infoStr
  have ht : (List.drop (splitK l c n).2 l).take (n - (splitK l c n).2) = l.drop (splitK l c n).2 := by rw [← hl, List.take_of_length_le (by simp)]
  have HT := Lib.hid ht
  have HS : Hid (splitL l c = (splitK l c n).1 ++ [l.drop (splitK l c n).2]) := by unfold splitL; rw [hl]; rfl
  have hown0 : Owned w.heap.size 9 none 0 0 [] w := ⟨World.ownsRow_nil w _ _ _, Reads.nil _ _, fun _ => rfl, Nat.le_refl _, Nat.zero_le _, rfl⟩
  have hbel0 := Below.refl w.heap.size w
  have HL := Lib.hid hl
  clear hl ht
  go_enter Try.func19, Try.ntmps19
  go_wp2
  go_loopw [5, 6, 10] (fun v s i wr => ∃ (k N : Nat) (a : Option Addr) (C : Nat), k ≤ n ∧ N ≤ k ∧ v = .slice a N C ∧ s = .int .i64 ((splitK l c k).2 : Int) ∧ i = .int .i64 (k : Int) ∧ Owned w.heap.size 9 a N C (strs (splitK l c k).1) wr ∧ Below w.heap.size w wr) (fun _ _ i _ => n - (intOf i).toNat)
  case atStart => exact ⟨0, 0, _, _, Nat.zero_le _, Nat.le_refl _, rfl, rfl, rfl, hown0, hbel0⟩
  case round =>
    clear hown0 hbel0
    obtain ⟨k, N, a, C, hk, hN, rfl, rfl, rfl, ho, hb⟩ := hrel
    have hle := (splitK_le l c k).2
    by_cases hlt : k < n
    · have hlt' : (k : Int) < (n : Int) := by omega
      have hix := run_index_str (P := Try.prog) wr 9 l .i64 k Try.underlying9 (by rw [HL.out]; exact hlt)
      have HK : Hid (splitK l c (k + 1) = if (l.getD k 0 == c) = true then ((splitK l c k).1 ++ [(l.drop (splitK l c k).2).take (k - (splitK l c k).2)], k + 1) else splitK l c k) := rfl
      have hcmp : (l.getD k 0 == c) = decide ((l.getD k 0).toNat = c.toNat) := by
        rw [Bool.eq_iff_iff, decide_eq_true_iff]
        simp only [beq_iff_eq]
        exact ⟨fun h => by rw [h], fun h => UInt8.toNat_inj.1 h⟩
      rw [hcmp] at HK
      clear hcmp
      have hcl := u8_lt c
      have hxl := u8_lt (l.getD k 0)
      generalize (l.getD k 0).toNat = x at *
      generalize splitK l c k = q at HK ho hle
      obtain ⟨p, s⟩ := q
      simp only [] at ho hle
      have HO := Lib.hid ho
      have hbs := hb.size
      have HB := Lib.hid hb
      clear ho hb
      by_cases hxc : x = c.toNat
      · have HK2 : Hid (splitK l c (k + 1) = (p ++ [(l.drop s).take (k - s)], k + 1)) := by have := HK.out; rw [if_pos (by simpa using hxc)] at this; exact this
        have hxc' : (x : Int) = (c.toNat : Int) := by omega
        have hxs := hx s k
        have hs' : (s : Int) ≤ (k : Int) := by omega
        have hkn : (k : Int) ≤ (n : Int) := by omega
        clear hx HK
        generalize (l.drop s).take (k - s) = y at HK2 hxs
        generalize c.toNat = cc at *
        subst hxc
        have hO := HO.out
        go_wp2_with (at_builtin; refine wpList_append_one rfl (.tmp 18) (.tmp 23) 46 rfl 9 i0 (.string ⟨#[]⟩) 16 Try.underlying46 hi hz0 hz1 hz2 rfl hO.1 rfl rfl rfl (by unfold maxLen; omega) (by omega) hbs ?_; intro v2 w2 ho2 hb2; obtain ⟨a2, c2, rfl, ho3⟩ := Owned.of ho2)
        rw [strs_snoc] at ho3
        go_roundw
        case rel => exact ⟨k + 1, N + 1, a2, c2, by omega, by omega, rfl, by rw [HK2.out]; go_num, by go_num, by rw [HK2.out]; exact ho3, HB.out.trans hb2⟩
        case measure => simp [intOf]; omega
      · have HK2 : Hid (splitK l c (k + 1) = (p, s)) := by have := HK.out; rw [if_neg (by simpa using hxc)] at this; exact this
        have hxc' : ¬ (x : Int) = (c.toNat : Int) := by omega
        clear HK
        generalize c.toNat = cc at *
        go_wp2
        go_roundw
        case rel => exact ⟨k + 1, N, a, C, by omega, by omega, rfl, by rw [HK2.out], by go_num, by rw [HK2.out]; exact HO.out, HB.out⟩
        case measure => simp [intOf]; omega
    · obtain rfl : k = n := by omega
      have HO := Lib.hid ho
      have hbs := hb.size
      have HB := Lib.hid hb
      have hT := HT.out
      clear ho hb HT
      generalize splitK l c k = q at *
      obtain ⟨p, s⟩ := q
      simp only [] at *
      have hxs := hx s k
      rw [hT] at hxs
      have hs' : (s : Int) ≤ (k : Int) := by omega
      have hO := HO.out
      clear hx hT
      generalize l.drop s = y at *
      go_wp2_with (at_builtin; refine wpList_append_one rfl (.tmp 28) (.tmp 32) 46 rfl 9 i0 (.string ⟨#[]⟩) 16 Try.underlying46 hi hz0 hz1 hz2 rfl hO.1 rfl rfl rfl (by unfold maxLen; omega) (by omega) hbs ?_; intro v2 w2 ho2 hb2; obtain ⟨a2, c2, rfl, ho3⟩ := Owned.of ho2)
      rw [strs_snoc] at ho3
      go_ret
      have hN : N + 1 = (splitL l c).length := by rw [HS.out, ← strs_length, ← ho3.len]
      rw [← HS.out] at ho3
      refine ⟨a2, c2, ?_, ?_, HB.out.trans hb2⟩
      · rw [← hN]; rfl
      · rw [← hN]; exact ho3

set_option maxRecDepth 100000 in
theorem refSplitC (l : List UInt8) (c : UInt8) (n : Nat) (w : World) (hl : l.length = n) (hm : n ≤ 1000000000000) :
    Calls Try.prog 23 #[.string (str l), .int .u8 (c.toNat : Int)] w (GivesStrs (splitL l c) w) := by
  have hsz : (str l).size = n := by rw [str_size, hl]
  have hx := str_extract l
  obtain ⟨i0, hi, hz0, hz1, hz2⟩ := info_parts infoStr
  have ht : (List.drop (splitK l c n).2 l).take (n - (splitK l c n).2) = l.drop (splitK l c n).2 := by rw [← hl, List.take_of_length_le (by simp)]
  have HT := Lib.hid ht
  have HS : Hid (splitL l c = (splitK l c n).1 ++ [l.drop (splitK l c n).2]) := by unfold splitL; rw [hl]; rfl
  have hown0 := owned_lit w 9
  have hbel0 := below_alloc w (.cells #[] 9)
  have HL := Lib.hid hl
  clear hl ht
  go_enter Try.func23, Try.ntmps23
  go_wp2
  go_loopw [5, 6, 7] (fun v s i wr => ∃ (k N : Nat) (a : Option Addr) (C : Nat), k ≤ n ∧ N ≤ k ∧ v = .slice a N C ∧ s = .int .i64 ((splitK l c k).2 : Int) ∧ i = .int .i64 (k : Int) ∧ Owned w.heap.size 9 a N C (strs (splitK l c k).1) wr ∧ Below w.heap.size w wr) (fun _ _ i _ => n - (intOf i).toNat)
  case atStart => exact ⟨0, 0, _, _, Nat.zero_le _, Nat.le_refl _, rfl, rfl, rfl, hown0, hbel0⟩
  case round =>
    clear hown0 hbel0
    obtain ⟨k, N, a, C, hk, hN, rfl, rfl, rfl, ho, hb⟩ := hrel
    have hle := (splitK_le l c k).2
    by_cases hlt : k < n
    · have hlt' : (k : Int) < (n : Int) := by omega
      have hix := run_index_str (P := Try.prog) wr 9 l .i64 k Try.underlying9 (by rw [HL.out]; exact hlt)
      have HK : Hid (splitK l c (k + 1) = if (l.getD k 0 == c) = true then ((splitK l c k).1 ++ [(l.drop (splitK l c k).2).take (k - (splitK l c k).2)], k + 1) else splitK l c k) := rfl
      have hcmp : (l.getD k 0 == c) = decide ((l.getD k 0).toNat = c.toNat) := by
        rw [Bool.eq_iff_iff, decide_eq_true_iff]
        simp only [beq_iff_eq]
        exact ⟨fun h => by rw [h], fun h => UInt8.toNat_inj.1 h⟩
      rw [hcmp] at HK
      clear hcmp
      have hcl := u8_lt c
      have hxl := u8_lt (l.getD k 0)
      generalize (l.getD k 0).toNat = x at *
      generalize splitK l c k = q at HK ho hle
      obtain ⟨p, s⟩ := q
      simp only [] at ho hle
      have HO := Lib.hid ho
      have hbs := hb.size
      have HB := Lib.hid hb
      clear ho hb
      by_cases hxc : x = c.toNat
      · have HK2 : Hid (splitK l c (k + 1) = (p ++ [(l.drop s).take (k - s)], k + 1)) := by have := HK.out; rw [if_pos (by simpa using hxc)] at this; exact this
        have hxc' : (x : Int) = (c.toNat : Int) := by omega
        have hxs := hx s k
        have hs' : (s : Int) ≤ (k : Int) := by omega
        have hkn : (k : Int) ≤ (n : Int) := by omega
        clear hx HK
        generalize (l.drop s).take (k - s) = y at HK2 hxs
        generalize c.toNat = cc at *
        subst hxc
        have hO := HO.out
        go_wp2_with (at_builtin; refine wpList_append_one rfl (.tmp 20) (.tmp 25) 46 rfl 9 i0 (.string ⟨#[]⟩) 16 Try.underlying46 hi hz0 hz1 hz2 rfl hO.1 rfl rfl rfl (by unfold maxLen; omega) (by omega) hbs ?_; intro v2 w2 ho2 hb2; obtain ⟨a2, c2, rfl, ho3⟩ := Owned.of ho2)
        rw [strs_snoc] at ho3
        go_roundw
        case rel => exact ⟨k + 1, N + 1, a2, c2, by omega, by omega, rfl, by rw [HK2.out]; go_num, by go_num, by rw [HK2.out]; exact ho3, HB.out.trans hb2⟩
        case measure => simp [intOf]; omega
      · have HK2 : Hid (splitK l c (k + 1) = (p, s)) := by have := HK.out; rw [if_neg (by simpa using hxc)] at this; exact this
        have hxc' : ¬ (x : Int) = (c.toNat : Int) := by omega
        clear HK
        generalize c.toNat = cc at *
        go_wp2
        go_roundw
        case rel => exact ⟨k + 1, N, a, C, by omega, by omega, rfl, by rw [HK2.out], by go_num, by rw [HK2.out]; exact HO.out, HB.out⟩
        case measure => simp [intOf]; omega
    · obtain rfl : k = n := by omega
      have HO := Lib.hid ho
      have hbs := hb.size
      have HB := Lib.hid hb
      have hT := HT.out
      clear ho hb HT
      generalize splitK l c k = q at *
      obtain ⟨p, s⟩ := q
      simp only [] at *
      have hxs := hx s k
      rw [hT] at hxs
      have hs' : (s : Int) ≤ (k : Int) := by omega
      have hO := HO.out
      clear hx hT
      generalize l.drop s = y at *
      go_wp2_with (at_builtin; refine wpList_append_one rfl (.tmp 29) (.tmp 33) 46 rfl 9 i0 (.string ⟨#[]⟩) 16 Try.underlying46 hi hz0 hz1 hz2 rfl hO.1 rfl rfl rfl (by unfold maxLen; omega) (by omega) hbs ?_; intro v2 w2 ho2 hb2; obtain ⟨a2, c2, rfl, ho3⟩ := Owned.of ho2)
      rw [strs_snoc] at ho3
      go_ret
      have hN : N + 1 = (splitL l c).length := by rw [HS.out, ← strs_length, ← ho3.len]
      rw [← HS.out] at ho3
      refine ⟨a2, c2, ?_, ?_, HB.out.trans hb2⟩
      · rw [← hN]; rfl
      · rw [← hN]; exact ho3

end Go.Proofs.Ytlmcfflpgkapgaa
