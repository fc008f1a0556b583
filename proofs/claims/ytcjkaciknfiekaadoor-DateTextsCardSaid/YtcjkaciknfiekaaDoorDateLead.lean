/- Contracts of layer 7: the digits that a token begins with, and what is behind them. -/
import Derived.Test.YtcjkaciknfiekaaDoorDateWord
namespace Go.Proofs.YtcjkaciknfiekaaDoor
open Go.RowKit
set_option linter.unusedVariables false

theorem leadC (l : List UInt8) (n : Nat) (w : World) (hl : l.length = n) (hm : n ≤ maxLen) :
    Calls Tryd.prog 46 #[.string (str l)] w fun e w' => e = .returned (.int .i64 (lead l : Int)) ∧ w = w' := digitsC l n w hl hm

def LeadIs (v : Int) (l : List UInt8) (b : Bool) (w : World) (e : Ending) (w' : World) : Prop :=
  e = .returned (.tuple #[.int .i64 v, .string (str l), .bool b]) ∧ ∃ q, w' = w.drewN q

theorem leadingYes (l : List UInt8) (n : Nat) (a b : Int) (w : World) (hl : l.length = n) (hm : n ≤ maxLen) (ha : 1 ≤ a) (hb : b ≤ 9) (h1 : a ≤ (lead l : Int)) (h2 : (lead l : Int) ≤ b) :
    Calls Tryd.prog 41 #[.string (str l), .int .i64 a, .int .i64 b] w (LeadIs (valL l) (l.drop (lead l)) true w) := by
  have hsz : (str l).size = n := by rw [str_size, hl]
  have hle := lead_le l
  rw [hl] at hle
  have HD := leadC l n w hl hm
  have HN := numberC (l.take (lead l)) (lead l) w (by simp; omega) (by omega)
  rw [num_lead l (by omega)] at HN
  have hx1 : (str l).extract 0 (lead l) = str (l.take (lead l)) := by rw [str_extract]; simp
  have hx2 : (str l).extract (lead l) n = str (l.drop (lead l)) := by rw [str_extract, List.take_of_length_le (by rw [List.length_drop, hl]; omega)]
  unfold LeadIs
  have hv := valL_le l
  generalize valL l = v at *
  generalize lead l = d at *
  generalize l.take d = t at *
  generalize l.drop d = r at *
  clear hl
  unfold maxLen at hm
  have hdn : (d : Int) ≤ (n : Int) := by omega
  go_enter Tryd.func41, Tryd.ntmps41
  go_wp2_with (first
    | (go_at_call 46; (with_reducible refine HD.mono ?_); rintro e w2 ⟨rfl, rfl⟩)
    | (go_at_call 47; (with_reducible refine HN.mono ?_); rintro e w2 ⟨rfl, rfl⟩))
  go_quiet (fail)
  go_wp2
  go_ret3
  exact ⟨rfl, _, rfl⟩

theorem leadingNo (l : List UInt8) (n : Nat) (a b : Int) (w : World) (hl : l.length = n) (hm : n ≤ maxLen) (h : (lead l : Int) < a ∨ b < (lead l : Int)) :
    Calls Tryd.prog 41 #[.string (str l), .int .i64 a, .int .i64 b] w (LeadIs 0 [] false w) := by
  have HD := leadC l n w hl hm
  unfold LeadIs
  generalize lead l = d at *
  by_cases h1 : (d : Int) < a
  · clear h
    go_enter Tryd.func41, Tryd.ntmps41
    go_wp2_with (go_at_call 46; (with_reducible refine HD.mono ?_); rintro e w2 ⟨rfl, rfl⟩)
    go_ret3
    exact ⟨rfl, 0, rfl⟩
  · have h2 : b < (d : Int) := by omega
    clear h
    go_enter Tryd.func41, Tryd.ntmps41
    go_wp2_with (go_at_call 46; (with_reducible refine HD.mono ?_); rintro e w2 ⟨rfl, rfl⟩)
    go_ret3
    exact ⟨rfl, 0, rfl⟩

/-- Both. -/
def leadOf (a b : Nat) (l : List UInt8) : Nat × List UInt8 × Bool := if dig a b l = true then (valL l, l.drop (lead l), true) else (0, [], false)
theorem leadingC (l : List UInt8) (n : Nat) (a b : Nat) (a' b' : Int) (w : World) (hl : l.length = n) (hm : n ≤ maxLen) (ha : 1 ≤ a) (hb : b ≤ 9) (ha' : a' = (a : Int)) (hb' : b' = (b : Int)) :
    Calls Tryd.prog 41 #[.string (str l), .int .i64 a', .int .i64 b'] w (LeadIs ((leadOf a b l).1 : Int) (leadOf a b l).2.1 (leadOf a b l).2.2 w) := by
  subst ha' hb'
  unfold leadOf
  cases c : dig a b l with
  | true =>
    simp only [dig, Bool.and_eq_true, decide_eq_true_iff] at c
    exact leadingYes l n a b w hl hm (by omega) (by omega) (by omega) (by omega)
  | false =>
    simp only [dig, Bool.and_eq_false_iff, decide_eq_false_iff_not] at c
    exact leadingNo l n a b w hl hm (by omega)
theorem leadOf_le (a b : Nat) (l : List UInt8) : (leadOf a b l).2.1.length ≤ l.length := by
  unfold leadOf
  split
  · simp
  · simp

theorem behindColonC (l : List UInt8) (w : World) :
    Calls Tryd.prog 42 #[.string (str l)] w fun e w' => e = .returned (.string (str (colon l))) ∧ w = w' := by
  have HC := Tryd.strings_CutPrefix (str l) ⟨#[58]⟩ w
  rw [str_data] at HC
  have hd : ({ data := #[58] } : ByteArray).data.toList = [58] := rfl
  rw [hd] at HC
  unfold colon
  cases c : Lib.hasPrefix l [58] with
  | true =>
    rw [c] at HC
    simp only [if_true]
    generalize Lib.trimPrefix l [58] = t at *
    clear c hd
    go_enter Tryd.func42, Tryd.ntmps42
    go_wp2_with (go_at_call 48; (with_reducible refine HC.mono ?_); rintro e w2 ⟨rfl, rfl⟩)
    go_ret
    exact ⟨rfl, rfl⟩
  | false =>
    rw [c] at HC
    generalize Lib.trimPrefix l [58] = t at *
    clear c hd
    go_enter Tryd.func42, Tryd.ntmps42
    go_wp2_with (go_at_call 48; (with_reducible refine HC.mono ?_); rintro e w2 ⟨rfl, rfl⟩)
    go_ret
    exact ⟨rfl, rfl⟩
end Go.Proofs.YtcjkaciknfiekaaDoor
