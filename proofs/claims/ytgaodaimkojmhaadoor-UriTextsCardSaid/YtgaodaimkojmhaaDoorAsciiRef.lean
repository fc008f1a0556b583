/- Contracts of the reference of layer 6. -/
import Derived.Test.YtgaodaimkojmhaaDoorAscii4
namespace Go.Proofs.YtgaodaimkojmhaaDoor
open Go.RowKit
set_option linter.unusedVariables false

set_option maxRecDepth 100000 in
theorem refLowerC (l : List UInt8) (n : Nat) (w : World) (hl : l.length = n) (hm : n ≤ maxLen) :
    Calls Tryd.prog 23 #[.string (str l)] w (GivesStr (l.map low) w) := by
  have hsz : (str l).size = n := by rw [str_size, hl]
  have hx := str_extract l
  unfold maxLen at hm
  have HL := Lib.hid hl
  clear hl
  go_enter Tryd.func23, Tryd.ntmps23
  go_wp2
  go_loopw [3, 4] (fun v i wr => ∃ k : Nat, k ≤ n ∧ v = .string (str ((l.take k).map low)) ∧ i = .int .i64 (k : Int) ∧ Below w.heap.size w wr) (fun _ i _ => n - (intOf i).toNat)
  case atStart => exact ⟨0, Nat.zero_le _, rfl, rfl, Below.refl _ _⟩
  case round =>
    obtain ⟨k, hk, rfl, rfl, hb⟩ := hrel
    have HB := Lib.hid hb
    have hbs := hb.size
    clear hb
    by_cases hlt : k < n
    · have hlt' : (k : Int) < (n : Int) := by omega
      have hkl : k < l.length := by rw [HL.out]; exact hlt
      have hi := run_index_str (P := Tryd.prog) wr 9 l .i64 k Tryd.underlying9 hkl
      have hxk := hx k (k + 1)
      rw [cut_one hkl] at hxk
      have hmap : Hid ((l.take (k + 1)).map low = (l.take k).map low ++ [low (l.getD k 0)]) := by unfold Hid; rw [take_snoc hkl, List.map_append]; rfl
      have hlen : ((l.take k).map low).length = k := by simp; omega
      have ha := fun (w : World) (y : UInt8) => run_add_str (P := Tryd.prog) w ((l.take k).map low) [y] (by rw [hlen]; simp; omega)
      have hone := fun (w : World) v (hv : v = ((low (l.getD k 0)).toNat : Int)) => one_back (P := Tryd.prog) w 33 9 5 (low (l.getD k 0)) v hv Tryd.underlying33 Tryd.underlying5 Tryd.underlying9
      have hb0 := u8_lt (l.getD k 0)
      clear hx hkl
      by_cases h : 65 ≤ (l.getD k 0).toNat ∧ (l.getD k 0).toNat ≤ 90
      · have h1 := hone wr (((l.getD k 0).toNat : Int) + 32) (by rw [low_up h]; push_cast; rfl)
        obtain ⟨h2, h3⟩ := h
        clear hone hxk
        generalize low (l.getD k 0) = y at *
        have ha1 := fun w => ha w y
        clear ha hlen
        generalize (l.take k).map low = z at *
        generalize (l.getD k 0).toNat = x at *
        have h2' : (65 : Int) ≤ (x : Int) := by omega
        have h3' : (x : Int) ≤ 90 := by omega
        go_wp2
        go_roundw
        case rel => exact ⟨k + 1, by omega, by rw [hmap.out], by go_num, HB.out.alloc hbs _⟩
        case measure => simp [intOf]; omega
      · have e := low_not h
        rw [e] at hmap
        have ha1 := fun w => ha w (l.getD k 0)
        clear hone e ha hlen
        generalize (l.take k).map low = z at *
        generalize l.getD k 0 = y at *
        generalize y.toNat = x at *
        go_wp2
        all_goals (go_roundw; (case rel => exact ⟨k + 1, by omega, by rw [hmap.out], by go_num, HB.out⟩); (case measure => simp [intOf]; omega))
    · obtain rfl : k = n := by omega
      have e1 : l.take k = l := List.take_of_length_le (by rw [HL.out]; omega)
      rw [e1]
      go_wp2
      go_ret
      exact ⟨rfl, HB.out⟩
/-- BEGIN trim -/
theorem refBegin : True := trivial

end Go.Proofs.YtgaodaimkojmhaaDoor
