/- Contracts and plain words that the laws' proofs stand on, put together. -/
import Derived.Test.YtelgaglnmcggkaaGreatDoorLibAF
import Derived.Test.YtelgaglnmcggkaaGreatDoorLibAA
import Derived.Test.YtelgaglnmcggkaaGreatDoorLibAE
import Derived.Deep.RegionHeld3
import Derived.BigQuiet
/- Stamps and clocks in plain words. No program in it. -/
namespace Go.Proofs.YtelgaglnmcggkaaGreatDoor
set_option linter.unusedVariables false

structure StampN where
  wall : Int
  count : Int
  dev : Int
theorem StampN.ext' {a b : StampN} (h1 : a.wall = b.wall) (h2 : a.count = b.count) (h3 : a.dev = b.dev) : a = b := by
  cases a; cases b
  simp only at h1 h2 h3
  subst h1 h2 h3
  rfl
def rightT (s : StampN) : Bool := decide (0 ≤ s.wall) && (decide (s.wall ≤ 4398046511104) && (decide (0 ≤ s.count) && (decide (s.count ≤ 65535) && (decide (0 ≤ s.dev) && decide (s.dev ≤ 63)))))
theorem rightT_iff {s : StampN} : rightT s = true ↔ 0 ≤ s.wall ∧ s.wall ≤ 4398046511104 ∧ 0 ≤ s.count ∧ s.count ≤ 65535 ∧ 0 ≤ s.dev ∧ s.dev ≤ 63 := by
  unfold rightT
  simp only [Bool.and_eq_true, decide_eq_true_iff]
def lessT (a b : StampN) : Bool := if a.wall ≠ b.wall then decide (a.wall < b.wall) else if a.count ≠ b.count then decide (a.count < b.count) else decide (a.dev < b.dev)
def sameT (x y : StampN) : Bool := x.wall == y.wall && (x.count == y.count && x.dev == y.dev)
theorem sameT_iff {x y : StampN} : sameT x y = true ↔ x = y := by
  unfold sameT
  simp only [Bool.and_eq_true, beq_iff_eq]
  constructor
  · rintro ⟨h1, h2, h3⟩
    exact StampN.ext' h1 h2 h3
  · rintro rfl
    exact ⟨rfl, rfl, rfl⟩

structure ClockN where
  now : Int
  last : StampN
structure OkK (c : ClockN) : Prop where
  now0 : 0 ≤ c.now
  now1 : c.now ≤ 4398046511104
  right : rightT c.last = true
def tickK (c : ClockN) (ms : Int) : ClockN × Int := if ms < 0 ∨ 4398046511104 - c.now < ms then (c, 4) else (⟨c.now + ms, c.last⟩, 0)
def peekK (c : ClockN) : StampN × Int := if c.last.wall < c.now then (⟨c.now, 0, c.last.dev⟩, 0) else if 65535 ≤ c.last.count then (⟨0, 0, 0⟩, 7) else (⟨c.last.wall, c.last.count + 1, c.last.dev⟩, 0)
def nextK (c : ClockN) : ClockN := if (peekK c).2 = 0 then ⟨c.now, (peekK c).1⟩ else c
def takeK (c : ClockN) (s : StampN) : ClockN := if c.last.wall < s.wall ∨ (c.last.wall = s.wall ∧ c.last.count < s.count) then ⟨c.now, ⟨s.wall, s.count, c.last.dev⟩⟩ else c
def restoreK (c : ClockN) (s : StampN) : ClockN × Int := if rightT s = false then (c, 4) else (takeK c s, 0)
def hearK (c : ClockN) (s : StampN) : ClockN × Int := if rightT s = false then (c, 4) else if c.now + 60000 < s.wall then (c, 8) else (takeK c s, 0)

/-- At most as late, whosever it is. -/
def AtMost (m s : StampN) : Prop := m.wall < s.wall ∨ (m.wall = s.wall ∧ m.count ≤ s.count)
theorem AtMost.trans {a b c : StampN} (h : AtMost a b) (k : AtMost b c) : AtMost a c := by
  unfold AtMost at *
  omega
theorem take_most (c : ClockN) (s : StampN) : AtMost c.last (takeK c s).last ∧ AtMost s (takeK c s).last := by
  unfold takeK AtMost
  by_cases h : c.last.wall < s.wall ∨ (c.last.wall = s.wall ∧ c.last.count < s.count)
  · rw [if_pos h]
    exact ⟨by simp only; omega, .inr ⟨rfl, Int.le_refl _⟩⟩
  · rw [if_neg h]
    exact ⟨.inr ⟨rfl, Int.le_refl _⟩, by omega⟩
theorem tick_last (c : ClockN) (ms : Int) : (tickK c ms).1.last = c.last := by
  unfold tickK
  split <;> rfl
/-- The next stamp is above all that was at most the last one. -/
theorem peek_less {c : ClockN} (h0 : (peekK c).2 = 0) {m : StampN} (hm : AtMost m c.last) : lessT m (peekK c).1 = true := by
  unfold peekK at h0 ⊢
  unfold AtMost at hm
  by_cases c1 : c.last.wall < c.now
  · rw [if_pos c1] at h0 ⊢
    unfold lessT
    rw [if_pos (by simp only; omega)]
    exact decide_eq_true (by simp only; omega)
  · rw [if_neg c1] at h0 ⊢
    by_cases c2 : 65535 ≤ c.last.count
    · rw [if_pos c2] at h0
      cases h0
    · rw [if_neg c2]
      unfold lessT
      by_cases e : m.wall = c.last.wall
      · rw [if_neg (by simp only; omega), if_pos (by simp only; omega)]
        exact decide_eq_true (by simp only; omega)
      · rw [if_pos (by simp only; omega)]
        exact decide_eq_true (by simp only; omega)
theorem next_most (c : ClockN) : AtMost c.last (nextK c).last := by
  unfold nextK
  split
  · rename_i h0
    unfold peekK at h0 ⊢
    unfold AtMost
    by_cases c1 : c.last.wall < c.now
    · rw [if_pos c1]; simp only; omega
    · rw [if_neg c1] at h0 ⊢
      by_cases c2 : 65535 ≤ c.last.count
      · rw [if_pos c2] at h0
        cases h0
      · rw [if_neg c2]; exact .inr ⟨rfl, by simp only; omega⟩
  · exact .inr ⟨rfl, Int.le_refl _⟩
theorem next_last {c : ClockN} (h0 : (peekK c).2 = 0) : (nextK c).last = (peekK c).1 := by unfold nextK; rw [if_pos h0]

def bytesT (s : StampN) : List Int := short s.wall.toNat ++ (short s.count.toNat ++ short s.dev.toNat)
theorem bytesT_len {s : StampN} (h : rightT s = true) : (bytesT s).length ≤ 30 := by
  have h := rightT_iff.1 h
  unfold bytesT
  rw [List.length_append, List.length_append]
  have l1 := short_ten s.wall.toNat (by omega)
  have l2 := short_ten s.count.toNat (by omega)
  have l3 := short_ten s.dev.toNat (by omega)
  omega

end Go.Proofs.YtelgaglnmcggkaaGreatDoor

/- Contracts of the reference of layer 19: which stamps may be, which are ahead; the next one; a tick. -/
namespace Go.Proofs.YtelgaglnmcggkaaGreatDoor
open Go.RowKit
set_option linter.unusedVariables false

def valT (s : StampN) : Value := .agg #[.int .i64 s.wall, .int .i64 s.count, .int .i64 s.dev]
def valK (c : ClockN) : Value := .agg #[.int .i64 c.now, .int .i64 c.last.wall, .int .i64 c.last.count, .int .i64 c.last.dev]

end Go.Proofs.YtelgaglnmcggkaaGreatDoor

/- Contracts of the reference of layer 19: a stamp restored, or heard; the next one. -/
namespace Go.Proofs.YtelgaglnmcggkaaGreatDoor
open Go.RowKit
set_option linter.unusedVariables false

end Go.Proofs.YtelgaglnmcggkaaGreatDoor
