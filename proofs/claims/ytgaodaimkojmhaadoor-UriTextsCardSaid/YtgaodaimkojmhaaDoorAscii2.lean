/- Contracts of layer 6: texts. -/
import Derived.Test.YtgaodaimkojmhaaDoorAscii
import Derived.Below
import Derived.Test.YtgaodaimkojmhaaDoorOwn
namespace Go.Proofs.YtgaodaimkojmhaaDoor
open Go.RowKit
set_option linter.unusedVariables false

/-- A text is answered; what was there is as it was. -/
def GivesStr (l : List UInt8) (w : World) (e : Ending) (w' : World) : Prop := e = .returned (.string (str l)) ∧ Below w.heap.size w w'

set_option maxRecDepth 100000 in
theorem lowerC (l : List UInt8) (n : Nat) (w : World) (hl : l.length = n) (hm : n ≤ maxLen) :
    Calls Tryd.prog 33 #[.string (str l)] w (GivesStr (l.map low) w) := by
  have hsz : (str l).size = n := by rw [str_size, hl]
  have hcv := fun w : World => Lib.run_convert_string_bytes (P := Tryd.prog) w 9 33 5 (str l) Tryd.underlying9 Tryd.underlying33 Tryd.underlying5
  have hB0 := BRow.new w 5 l
  have hb0 : Below w.heap.size w (Lib.bytesWorld w 5 (str l)) := ⟨rfl, rfl, rfl, by rw [Lib.bytesWorld_size]; omega, fun k hk => Lib.bytesWorld_at_old w 5 (str l) k hk⟩
  unfold maxLen at hm
  have HL := Lib.hid hl
  clear hl
  go_enter Tryd.func33, Tryd.ntmps33
  go_wp2
  generalize Lib.bytesWorld w 5 (str l) = w1 at *
  go_loopw [9] (fun i wr => ∃ k : Nat, k ≤ n ∧ i = .int .i64 (k : Int) ∧ BRow wr w.heap.size ((l.take k).map low ++ l.drop k) ∧ Below w.heap.size w wr) (fun i _ => n - (intOf i).toNat)
  case atStart => exact ⟨0, Nat.zero_le _, rfl, by simpa using hB0, hb0⟩
  case round =>
    obtain ⟨k, hk, rfl, H, hb⟩ := hrel
    clear hcv hB0 hb0
    have hlen : ((l.take k).map low ++ l.drop k).length = n := by have := HL.out; simp; omega
    by_cases hlt : k < n
    · have hlt' : (k : Int) < (n : Int) := by omega
      have hi := run_index_str (P := Tryd.prog) wr 9 l .i64 k Tryd.underlying9 (by rw [HL.out]; exact hlt)
      have HS := Lib.hid (set_low (f := low) (l := l) (k := k) (by rw [HL.out]; exact hlt))
      have HN := Lib.hid (H.set k (low (l.getD k 0)))
      have hc := H.cell k (by omega)
      have hf := H.free k (by omega)
      have hlt2 : w.heap.size < wr.heap.size := H.lt
      have HC := fun w => smallC (l.getD k 0) w
      have HB := Lib.hid hb
      generalize ((List.take k l).map low ++ List.drop k l).getD k 0 = y at hc
      clear H hb
      generalize l.getD k 0 = x at *
      go_wp2_with (go_at_call 47; (with_reducible refine (HC _).mono ?_); rintro e w2 ⟨rfl, rfl⟩)
      go_roundw
      case rel => exact ⟨k + 1, by omega, by go_num, by rw [← HS.out]; exact HN.out, HB.out.setCell (Nat.le_refl _) _⟩
      case measure => simp [intOf]; omega
    · obtain rfl : k = n := by omega
      have e1 : (l.take k).map low ++ l.drop k = l.map low := by rw [← HL.out]; simp
      rw [e1] at H hlen
      have hbk := fun cap => H.back (P := Tryd.prog) 33 9 5 k cap Tryd.underlying33 Tryd.underlying5 Tryd.underlying9 hlen
      have HB := Lib.hid hb
      clear H hb e1
      go_wp2
      go_ret
      exact ⟨rfl, HB.out⟩

theorem sameC (a b : List UInt8) (n m : Nat) (w : World) (hl : a.length = n) (hm : n ≤ maxLen) (hl2 : b.length = m) (hm2 : m ≤ maxLen) :
    Calls Tryd.prog 15 #[.string (str a), .string (str b)] w fun e w' => e = .returned (.bool (a.map low == b.map low)) ∧ Below w.heap.size w w' := by
  have H1 := fun w => lowerC a n w hl hm
  have H2 := fun w => lowerC b m w hl2 hm2
  unfold GivesStr at H1 H2
  have hk := str_toList
  go_enter Tryd.func15, Tryd.ntmps15
  go_wp2_with (go_at_call 33; first | ((with_reducible refine (H1 _).mono ?_); rintro e1 w1 ⟨rfl, hb1⟩) | ((with_reducible refine (H2 _).mono ?_); rintro e2 w2 ⟨rfl, hb2⟩))
  go_ret
  exact ⟨rfl, hb1.trans (hb2.mono hb1.size)⟩

theorem digitsC (l : List UInt8) (n : Nat) (w : World) (hl : l.length = n) (hm : n ≤ maxLen) :
    Calls Tryd.prog 38 #[.string (str l)] w fun e w' => e = .returned (.int .i64 (l.findIdx (fun x => !digit x) : Int)) ∧ w = w' := by
  have HF := fun w => firstDigitC (fun x => !digit x) l n w (fun x => digitFnC x w) hl hm
  generalize l.findIdx (fun x => !digit x) = f at *
  clear hl
  go_enter Tryd.func38, Tryd.ntmps38
  go_wp2_with (go_at_call 56; (with_reducible refine (HF _).mono ?_); rintro e w2 ⟨rfl, rfl⟩)
  go_ret
  exact ⟨rfl, rfl⟩

/-- What is ahead of the first byte c, what is behind it, and whether there is one. -/
def cutL (l : List UInt8) (c : UInt8) : List UInt8 × List UInt8 × Bool :=
  if l.findIdx (· == c) = l.length then (l, [], false) else (l.take (l.findIdx (· == c)), l.drop (l.findIdx (· == c) + 1), true)

end Go.Proofs.YtgaodaimkojmhaaDoor
