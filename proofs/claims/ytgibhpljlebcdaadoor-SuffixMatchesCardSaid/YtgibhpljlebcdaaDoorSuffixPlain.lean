/- Public suffixes in plain words. No program in it. -/
import Derived.Test.YtgibhpljlebcdaaDoorHostPlain2
import Derived.Test.YtgibhpljlebcdaaDoorAsciiRef2
namespace Go.Proofs.YtgibhpljlebcdaaDoor
open Go.RowKit
set_option linter.unusedVariables false

/-- A rule's sign (42: any, 33: not, 0: none) and its name. -/
def splitR (s : List UInt8) : UInt8 × List UInt8 :=
  if 2 < s.length ∧ s.take 2 = [42, 46] then (42, s.drop 2) else if 1 < s.length ∧ s.getD 0 0 = 33 then (33, s.drop 1) else (0, s)

def hasDot (l : List UInt8) : Bool := decide (l.findIdx (· == 46) < l.length)
def ruleB (s : List UInt8) : Bool := nameB (splitR s).2 && (!((splitR s).1 == 33) || hasDot (splitR s).2)

/-- A name's last labels, so many. -/
def lastN (s : List UInt8) (n : Nat) : List UInt8 := if n = 0 then [] else tailL s ((splitL s 46).length - n)

def notAt (R : List (List UInt8)) (s : List UInt8) (n : Nat) : Bool := R.any fun r => (splitR r).1 == 33 && (splitR r).2 == lastN s n
def fitB (r s : List UInt8) (n : Nat) : Bool := ((splitR r).1 == 0 && (splitR r).2 == lastN s n) || ((splitR r).1 == 42 && (decide (2 ≤ n) && (splitR r).2 == lastN s (n - 1)))
def fitAt (R : List (List UInt8)) (s : List UInt8) (n : Nat) : Bool := R.any fun r => fitB r s n

/-- The greatest number from 1 to k that is so; 0: there is none. -/
def topAt (p : Nat → Bool) : Nat → Nat
  | 0 => 0
  | k + 1 => if p (k + 1) = true then k + 1 else topAt p k

/-- The public suffix of a name by rules. -/
def ofL (R : List (List UInt8)) (s : List UInt8) : List UInt8 :=
  if 0 < topAt (notAt R s) (splitL s 46).length then lastN s (topAt (notAt R s) (splitL s 46).length - 1)
  else if 0 < topAt (fitAt R s) (splitL s 46).length then lastN s (topAt (fitAt R s) (splitL s 46).length)
  else lastN s 1

theorem topAt_le (p : Nat → Bool) : ∀ k, topAt p k ≤ k
  | 0 => Nat.le_refl _
  | k + 1 => by
    unfold topAt
    split
    · exact Nat.le_refl _
    · exact Nat.le_succ_of_le (topAt_le p k)

theorem topAt_yes (p : Nat → Bool) : ∀ k, 0 < topAt p k → p (topAt p k) = true
  | 0, h => absurd h (Nat.lt_irrefl 0)
  | k + 1, h => by
    unfold topAt at h ⊢
    split
    · rename_i h1; exact h1
    · rename_i h1
      rw [if_neg h1] at h
      exact topAt_yes p k h

theorem topAt_no (p : Nat → Bool) : ∀ k m, topAt p k < m → m ≤ k → p m = false
  | 0, m, h, h2 => by omega
  | k + 1, m, h, h2 => by
    unfold topAt at h
    split at h
    · omega
    · rename_i h1
      by_cases e : m = k + 1
      · subst e; simpa using h1
      · exact topAt_no p k m h (by omega)

/-- The greatest, told by what it is. -/
theorem topAt_is {p : Nat → Bool} {k n : Nat} (h1 : n ≤ k) (hp : 0 < n → p n = true) (hno : ∀ m, n < m → m ≤ k → p m = false) : topAt p k = n := by
  have hle := topAt_le p k
  rcases Nat.lt_trichotomy (topAt p k) n with h | h | h
  · have := topAt_no p k n h h1
    rw [hp (by omega)] at this
    cases this
  · exact h
  · have := topAt_yes p k (by omega)
    rw [hno _ h hle] at this
    cases this

theorem topAt_congr {p q : Nat → Bool} : ∀ {k : Nat}, (∀ m, 1 ≤ m → m ≤ k → p m = q m) → topAt p k = topAt q k
  | 0, _ => rfl
  | k + 1, h => by
    unfold topAt
    rw [h (k + 1) (by omega) (by omega), topAt_congr (k := k) fun m h1 h2 => h m h1 (by omega)]

/-- All labels of a name have a byte. -/
theorem labels_pos {s : List UInt8} (h : nameB s = true) : ∀ x ∈ splitL s 46, x ≠ [] := by
  intro x hx e
  have := List.all_eq_true.1 (name_labels h).2.2 x hx
  rw [e] at this
  cases this

theorem tail_le (s : List UInt8) (j : Nat) : (tailL s j).length ≤ s.length := by
  rcases Nat.eq_zero_or_pos j with rfl | h0
  · rw [tail_zero]; exact Nat.le_refl _
  · by_cases h : j < (splitL s 46).length
    · have := (below_len (tail_below j h0 h)).1; omega
    · have : tailL s j = [] := by unfold tailL; rw [List.drop_eq_nil_of_le (by omega)]; rfl
      rw [this]; simp

theorem tail_end (s : List UInt8) : tailL s (splitL s 46).length = [] := by
  unfold tailL
  rw [List.drop_eq_nil_of_le (Nat.le_refl _)]
  rfl

theorem tail_last (s : List UInt8) (j : Nat) (hj : j + 1 = (splitL s 46).length) : tailL s j = (splitL s 46).getD j [] := by
  unfold tailL
  rw [List.drop_eq_getElem_cons (by omega), List.drop_eq_nil_of_le (by omega)]
  simp [joinL, List.getD, show j < (splitL s 46).length by omega]

theorem tail_ne {s : List UInt8} (hp : ∀ x ∈ splitL s 46, x ≠ []) (j : Nat) (hj : j < (splitL s 46).length) : tailL s j ≠ [] := by
  by_cases h : j + 1 = (splitL s 46).length
  · rw [tail_last s j h]
    refine hp _ ?_
    simp only [List.getD, List.getElem?_eq_getElem hj, Option.getD_some]
    exact List.getElem_mem _
  · rw [tail_next j (by omega)]
    simp

theorem last_le (s : List UInt8) (n : Nat) : (lastN s n).length ≤ s.length := by
  unfold lastN
  split
  · simp
  · exact tail_le s _

/-- A text with a dot has two parts. -/
theorem dot_two (l : List UInt8) : hasDot l = decide (2 ≤ (splitL l 46).length) := by
  unfold hasDot
  have hle : l.findIdx (· == 46) ≤ l.length := List.findIdx_le_length
  rcases cut_split l 46 with ⟨h1, h2, h3⟩ | ⟨h1, h2⟩
  · have : l.findIdx (· == 46) = l.length := by
      unfold cutL at h1
      by_cases e : l.findIdx (· == 46) = l.length
      · exact e
      · rw [if_neg e] at h1; cases h1
    rw [this, h3, decide_eq_false (by omega), decide_eq_false (by simp)]
  · have : l.findIdx (· == 46) ≠ l.length := by
      unfold cutL at h1
      intro e
      rw [if_pos e] at h1; cases h1
    have hp := splitL_pos (cutL l 46).2.1 46
    rw [h2, decide_eq_true (by omega), decide_eq_true (by rw [List.length_cons]; omega)]

/-- In whatever order rules stand, and however often each. -/
theorem of_same {R Q : List (List UInt8)} (h : ∀ x, x ∈ R ↔ x ∈ Q) (s : List UInt8) : ofL R s = ofL Q s := by
  have hany : ∀ f : List UInt8 → Bool, R.any f = Q.any f := fun f => by
    rw [Bool.eq_iff_iff, List.any_eq_true, List.any_eq_true]
    exact ⟨fun ⟨x, hx, hf⟩ => ⟨x, (h x).1 hx, hf⟩, fun ⟨x, hx, hf⟩ => ⟨x, (h x).2 hx, hf⟩⟩
  have e1 : notAt R s = notAt Q s := funext fun n => hany _
  have e2 : fitAt R s = fitAt Q s := funext fun n => hany _
  unfold ofL
  rw [e1, e2]
end Go.Proofs.YtgibhpljlebcdaaDoor
