/- Contracts of layer 6: texts. -/
import Derived.Test.YtlmcfflpgkapgaaAscii
import Derived.Below
import Derived.Test.YtlmcfflpgkapgaaOwn
namespace Go.Proofs.Ytlmcfflpgkapgaa
open Go.RowKit
set_option linter.unusedVariables false

/-- A text is answered; what was there is as it was. -/
def GivesStr (l : List UInt8) (w : World) (e : Ending) (w' : World) : Prop := e = .returned (.string (str l)) ∧ Below w.heap.size w w'

set_option maxRecDepth 100000 in
theorem lowerC (l : List UInt8) (n : Nat) (w : World) (hl : l.length = n) (hm : n ≤ maxLen) :
    Calls Try.prog 26 #[.string (str l)] w (GivesStr (l.map low) w) := by
  have hsz : (str l).size = n := by rw [str_size, hl]
  have hcv := fun w : World => Lib.run_convert_string_bytes (P := Try.prog) w 9 60 5 (str l) Try.underlying9 Try.underlying60 Try.underlying5
  have hB0 := BRow.new w 5 l
  have hb0 : Below w.heap.size w (Lib.bytesWorld w 5 (str l)) := ⟨rfl, rfl, rfl, by rw [Lib.bytesWorld_size]; omega, fun k hk => Lib.bytesWorld_at_old w 5 (str l) k hk⟩
  unfold maxLen at hm
  have HL := Lib.hid hl
  clear hl
  go_enter Try.func26, Try.ntmps26
  go_wp2
  generalize Lib.bytesWorld w 5 (str l) = w1 at *
  go_loopw [9] (fun i wr => ∃ k : Nat, k ≤ n ∧ i = .int .i64 (k : Int) ∧ BRow wr w.heap.size ((l.take k).map low ++ l.drop k) ∧ Below w.heap.size w wr) (fun i _ => n - (intOf i).toNat)
  case atStart => exact ⟨0, Nat.zero_le _, rfl, by simpa using hB0, hb0⟩
  case round =>
    obtain ⟨k, hk, rfl, H, hb⟩ := hrel
    clear hcv hB0 hb0
    have hlen : ((l.take k).map low ++ l.drop k).length = n := by have := HL.out; simp; omega
    by_cases hlt : k < n
    · have hlt' : (k : Int) < (n : Int) := by omega
      have hi := run_index_str (P := Try.prog) wr 9 l .i64 k Try.underlying9 (by rw [HL.out]; exact hlt)
      have HS := Lib.hid (set_low (f := low) (l := l) (k := k) (by rw [HL.out]; exact hlt))
      have HN := Lib.hid (H.set k (low (l.getD k 0)))
      have hc := H.cell k (by omega)
      have hf := H.free k (by omega)
      have hlt2 : w.heap.size < wr.heap.size := H.lt
      have HC := fun w => smallC (l.getD k 0) w
      have HB := Lib.hid hb
      generalize ((List.take k l).map low ++ List.drop k l).getD k 0 = y at hc
      clear H hb
      generalize l.getD k 0 = x at *
      go_wp2_with (go_at_call 37; (with_reducible refine (HC _).mono ?_); rintro e w2 ⟨rfl, rfl⟩)
      go_roundw
      case rel => exact ⟨k + 1, by omega, by go_num, by rw [← HS.out]; exact HN.out, HB.out.setCell (Nat.le_refl _) _⟩
      case measure => simp [intOf]; omega
    · obtain rfl : k = n := by omega
      have e1 : (l.take k).map low ++ l.drop k = l.map low := by rw [← HL.out]; simp
      rw [e1] at H hlen
      have hbk := fun cap => H.back (P := Try.prog) 60 9 5 k cap Try.underlying60 Try.underlying5 Try.underlying9 hlen
      have HB := Lib.hid hb
      clear H hb e1
      go_wp2
      go_ret
      exact ⟨rfl, HB.out⟩

set_option maxRecDepth 100000 in
theorem trimC (l : List UInt8) (n : Nat) (w : World) (hl : l.length = n) (hm : n ≤ maxLen) :
    Calls Try.prog 21 #[.string (str l)] w fun e w' => e = .returned (.string (str (trimL l))) ∧ w = w' := by
  have hsz : (str l).size = n := by rw [str_size, hl]
  unfold maxLen at hm
  have HL := Lib.hid hl
  clear hl
  go_enter Try.func21, Try.ntmps21
  go_wp2
  go_loopw [3, 8] (fun v i wr => ∃ k : Nat, k ≤ n ∧ v = .int .i64 (endB l k : Int) ∧ i = .int .i64 (k : Int) ∧ w = wr) (fun _ i _ => n - (intOf i).toNat)
  case atStart => exact ⟨0, Nat.zero_le _, rfl, rfl, rfl⟩
  case round =>
    obtain ⟨k, hk, rfl, rfl, rfl⟩ := hrel
    by_cases hlt : k < n
    · have hlt' : (k : Int) < (n : Int) := by omega
      have hi := run_index_str (P := Try.prog) w 9 l .i64 k Try.underlying9 (by rw [HL.out]; exact hlt)
      have HC := fun w => isBlankC (l.getD k 0) w
      have HE : Hid (endB l (k + 1) = if blank (l.getD k 0) = true then endB l k else k + 1) := rfl
      generalize blank (l.getD k 0) = t at HC HE
      generalize l.getD k 0 = x at HC hi
      cases t
      · go_wp2_with (go_at_call 34; (with_reducible refine (HC _).mono ?_); rintro e w2 ⟨rfl, rfl⟩)
        go_roundw
        case rel => exact ⟨k + 1, by omega, by rw [HE.out]; simp, by go_num, by first | rfl | trivial⟩
        case measure => simp [intOf]; omega
      · go_wp2_with (go_at_call 34; (with_reducible refine (HC _).mono ?_); rintro e w2 ⟨rfl, rfl⟩)
        go_roundw
        case rel => exact ⟨k + 1, by omega, by rw [HE.out]; simp, by go_num, by first | rfl | trivial⟩
        case measure => simp [intOf]; omega
    · obtain rfl : k = n := by omega
      have he := endB_le l k
      have hf := frontB_le l
      have hx : (str l).extract 0 (endB l k) = str (l.take (endB l k)) := by rw [str_extract]; simp
      have hx2 : (str l).extract (frontB l) (endB l k) = str (trimL l) := by rw [str_extract]; unfold trimL; rw [HL.out]
      have HF := fun w => firstTrimC (fun x => !blank x) (l.take (endB l k)) (endB l k) w (fun x => trimFnC x w) (by rw [List.length_take, HL.out]; omega) (by unfold maxLen; omega)
      have e1 : (l.take (endB l k)).findIdx (fun x => !blank x) = frontB l := by unfold frontB; rw [HL.out]
      rw [HL.out] at hf
      simp only [e1] at HF
      clear e1
      obtain ⟨tl, htl⟩ : ∃ tl, trimL l = tl := ⟨_, rfl⟩
      rw [htl] at hx2
      have HT := Lib.hid htl
      clear htl
      generalize frontB l = f at *
      generalize endB l k = e at *
      generalize l.take e = l2 at *
      go_wp2_with (go_at_call 31; (with_reducible refine (HF _).mono ?_); rintro e w2 ⟨rfl, rfl⟩)
      go_ret
      exact ⟨by rw [HT.out]; rfl, rfl⟩

theorem controlC (l : List UInt8) (n : Nat) (w : World) (hl : l.length = n) (hm : n ≤ maxLen) :
    Calls Try.prog 18 #[.string (str l)] w fun e w' => e = .returned (.bool (l.any ctl)) ∧ w = w' := by
  have hsz : (str l).size = n := by rw [str_size, hl]
  have HF := fun w => firstCtlC ctl l n w (fun x => isControlC x w) hl hm
  have e1 : l.any ctl = decide (l.findIdx ctl < n) := by
    rw [Bool.eq_iff_iff, List.any_eq_true, decide_eq_true_iff, ← hl]
    exact (List.findIdx_lt_length (xs := l) (p := ctl)).symm
  rw [e1]
  clear e1
  unfold maxLen at hm
  generalize l.findIdx ctl = f at *
  clear hl
  go_enter Try.func18, Try.ntmps18
  go_wp2_with (go_at_call 31; (with_reducible refine (HF _).mono ?_); rintro e w2 ⟨rfl, rfl⟩)
  go_ret
  exact ⟨rfl, rfl⟩

/-- What is ahead of the first byte c, what is behind it, and whether there is one. -/
def cutL (l : List UInt8) (c : UInt8) : List UInt8 × List UInt8 × Bool :=
  if l.findIdx (· == c) = l.length then (l, [], false) else (l.take (l.findIdx (· == c)), l.drop (l.findIdx (· == c) + 1), true)

theorem cutC (l : List UInt8) (c : UInt8) (n : Nat) (w : World) (hl : l.length = n) (hm : n ≤ maxLen) :
    Calls Try.prog 20 #[.string (str l), .int .u8 (c.toNat : Int)] w fun e w' => e = .returned (.tuple #[.string (str (cutL l c).1), .string (str (cutL l c).2.1), .bool (cutL l c).2.2]) ∧ Below w.heap.size w w' := by
  have hsz : (str l).size = n := by rw [str_size, hl]
  have hf : l.findIdx (· == c) ≤ n := by rw [← hl]; exact List.findIdx_le_length
  have hcell : (w.alloc (.cells #[.int .u8 (c.toNat : Int)] 5)).cell? ⟨w.heap.size, 0, none⟩ = some (.int .u8 (c.toNat : Int)) := by simp
  have hb := below_alloc w (.cells #[.int .u8 (c.toNat : Int)] 5)
  have hmf : ∀ (fn : Fn) (first cap : Array Value) (w : World), (Instr.makeFunc fn first cap).run Try.prog w = .ok (.func fn first cap) w := fun _ _ _ _ => rfl
  have HF := fun w b hc => firstCutC (· == c) l n b w (fun x => cutFnC x c b w hc) hl hm
  unfold cutL
  rw [hl]
  have hx1 : ∀ f, (str l).extract 0 f = str (l.take f) := fun f => by rw [str_extract]; simp
  have hx2 : ∀ f, (str l).extract f n = str (l.drop f) := fun f => by rw [str_extract, ← hl, List.take_of_length_le (by simp)]
  obtain ⟨f, hff⟩ : ∃ f, l.findIdx (· == c) = f := ⟨_, rfl⟩
  simp only [hff] at *
  clear hff hl
  unfold maxLen at hm
  by_cases he : f = n
  · rw [if_pos he]
    go_enter Try.func20, Try.ntmps20
    go_wp2_with (go_at_call 31; (with_reducible refine (HF _ w.heap.size hcell).mono ?_); rintro e w2 ⟨rfl, rfl⟩)
    go_ret3
    exact ⟨rfl, hb⟩
  · rw [if_neg he]
    have b1 : (f : Int) ≤ (n : Int) := by omega
    have b2 : (f : Int) + 1 ≤ (n : Int) := by omega
    have b3 : ¬ (f : Int) = (n : Int) := by omega
    go_enter Try.func20, Try.ntmps20
    go_wp2_with (go_at_call 31; (with_reducible refine (HF _ w.heap.size hcell).mono ?_); rintro e w2 ⟨rfl, rfl⟩)
    go_quiet (fail)
    go_wp2
    go_ret3
    exact ⟨rfl, hb.os, hb.tape, hb.output, hb.size, hb.block⟩
end Go.Proofs.Ytlmcfflpgkapgaa
