/- Paths in plain words: directories, which path fits which. No program in it. -/
import Derived.Test.YtilgcphpieiliaaHostPlain2
namespace Go.Proofs.Ytilgcphpieiliaa
open Go.RowKit
set_option linter.unusedVariables false

/-- The place behind the last slash of the first so many bytes; 0: there is none. -/
def lastS (l : List UInt8) : Nat → Nat
  | 0 => 0
  | k + 1 => if (l.getD k 0 == 47) = true then k + 1 else lastS l k

theorem lastS_le (l : List UInt8) : ∀ k, lastS l k ≤ k
  | 0 => Nat.le_refl _
  | k + 1 => by
    unfold lastS
    split
    · exact Nat.le_refl _
    · exact Nat.le_succ_of_le (lastS_le l k)

theorem lastS_at (l : List UInt8) : ∀ k, 0 < lastS l k → l.getD (lastS l k - 1) 0 = 47
  | 0, h => absurd h (Nat.lt_irrefl 0)
  | k + 1, h => by
    unfold lastS at h ⊢
    split
    · rename_i h1
      simpa using h1
    · rename_i h1
      rw [if_neg h1] at h
      exact lastS_at l k h

/-- A path's directory. -/
def defaultL (l : List UInt8) : List UInt8 := if lastS l l.length ≤ 1 ∨ l.getD 0 0 ≠ 47 then [47] else l.take (lastS l l.length - 1)
/-- Does a path fit a cookie's? -/
def fitP (p c : List UInt8) : Bool := decide (c.length ≤ p.length) && (p.take c.length == c && (decide (p.length = c.length) || (decide (0 < c.length) && c.getD (c.length - 1) 0 == 47 || p.getD c.length 0 == 47)))
def slashN (l : List UInt8) : Nat := l.countP (· == 47)

theorem fitP_refl (p : List UInt8) : fitP p p = true := by
  unfold fitP
  simp

theorem fitP_cases {p c : List UInt8} (h : fitP p c = true) : c.length ≤ p.length ∧ p.take c.length = c ∧ (p.length = c.length ∨ (0 < c.length ∧ c.getD (c.length - 1) 0 = 47) ∨ p.getD c.length 0 = 47) := by
  unfold fitP at h
  simp only [Bool.and_eq_true, Bool.or_eq_true, decide_eq_true_iff, beq_iff_eq] at h
  obtain ⟨h1, h2, h3⟩ := h
  exact ⟨h1, h2, h3⟩

theorem fitP_of {p c : List UInt8} (h1 : c.length ≤ p.length) (h2 : p.take c.length = c) (h3 : p.length = c.length ∨ (0 < c.length ∧ c.getD (c.length - 1) 0 = 47) ∨ p.getD c.length 0 = 47) : fitP p c = true := by
  unfold fitP
  simp only [Bool.and_eq_true, Bool.or_eq_true, decide_eq_true_iff, beq_iff_eq]
  exact ⟨h1, h2, h3⟩

theorem getD_take {l : List UInt8} {n k : Nat} (h : k < n) : (l.take n).getD k 0 = l.getD k 0 := by
  simp only [List.getD, List.getElem?_take]
  rw [if_pos h]

theorem fitP_trans {a b c : List UInt8} (h1 : fitP a b = true) (h2 : fitP b c = true) : fitP a c = true := by
  obtain ⟨a1, a2, a3⟩ := fitP_cases h1
  obtain ⟨b1, b2, b3⟩ := fitP_cases h2
  refine fitP_of (by omega) ?_ ?_
  · rw [← a2, List.take_take, Nat.min_eq_left b1] at b2
    exact b2
  · rcases b3 with b3 | b3 | b3
    · rcases a3 with a3 | a3 | a3
      · exact .inl (by omega)
      · refine .inr (.inl ⟨by omega, ?_⟩)
        have e : b = c := by rw [← b2, ← b3, List.take_length]
        rw [← e]; exact a3.2
      · refine .inr (.inr ?_)
        rw [← b3]; exact a3
    · exact .inr (.inl b3)
    · by_cases hlt : c.length < b.length
      · refine .inr (.inr ?_)
        rw [← a2, getD_take hlt] at b3
        exact b3
      · have : b.getD c.length 0 = 0 := by
          simp only [List.getD, List.getElem?_eq_none (by omega : b.length ≤ c.length)]
          rfl
        rw [this] at b3
        exact absurd b3 (by decide)

theorem default_head (l : List UInt8) : (defaultL l).getD 0 0 = 47 ∧ 1 ≤ (defaultL l).length := by
  unfold defaultL
  split
  · exact ⟨rfl, by simp⟩
  · rename_i h
    have hle := lastS_le l l.length
    have h1 : 1 < lastS l l.length := by
      by_cases c : lastS l l.length ≤ 1
      · exact absurd (.inl c) h
      · omega
    have h2 : l.getD 0 0 = 47 := by
      by_cases c : l.getD 0 0 = 47
      · exact c
      · exact absurd (.inr c) h
    refine ⟨by rw [getD_take (by omega)]; exact h2, ?_⟩
    rw [List.length_take]
    omega

theorem default_fit {l : List UInt8} (h : l.getD 0 0 = 47) (h0 : 1 ≤ l.length) : fitP l (defaultL l) = true := by
  have hle := lastS_le l l.length
  unfold defaultL
  by_cases c : lastS l l.length ≤ 1
  · rw [if_pos (.inl c)]
    refine fitP_of h0 ?_ (.inr (.inl ⟨by decide, rfl⟩))
    cases l with
    | nil => simp at h0
    | cons x xs =>
      have e : x = 47 := h
      subst e
      rfl
  · rw [if_neg (by rintro (c2 | c2) <;> contradiction)]
    have e : (l.take (lastS l l.length - 1)).length = lastS l l.length - 1 := by rw [List.length_take]; omega
    refine fitP_of (by omega) (by rw [e]) (.inr (.inr ?_))
    rw [e]
    exact lastS_at l l.length (by omega)

theorem default_lt {l : List UInt8} (h : defaultL l ≠ [47]) : (defaultL l).length < l.length := by
  have hle := lastS_le l l.length
  unfold defaultL at h ⊢
  split
  · rename_i c
    rw [if_pos c] at h
    exact absurd rfl h
  · rw [List.length_take]
    have : ¬ lastS l l.length ≤ 1 := fun c => by rename_i h2; exact h2 (.inl c)
    omega

/-- A path's directories, one above the other. -/
def partsF : Nat → List UInt8 → List (List UInt8)
  | 0, l => [defaultL l]
  | k + 1, l => if defaultL l = [47] then [[47]] else defaultL l :: partsF k (defaultL l)
def partsP (l : List UInt8) : List (List UInt8) := if 1 ≤ l.length ∧ l.getD 0 0 = 47 then partsF l.length l else []
/-- The directory above, so often. -/
def upD (l : List UInt8) : Nat → List UInt8
  | 0 => l
  | k + 1 => defaultL (upD l k)

theorem upD_shift (l : List UInt8) : ∀ k, upD (defaultL l) k = upD l (k + 1)
  | 0 => rfl
  | k + 1 => by
    show defaultL (upD (defaultL l) k) = defaultL (upD l (k + 1))
    rw [upD_shift l k]

theorem default_nil_lt (l : List UInt8) (h : l.length = 0) : defaultL l = [47] := by
  have : l = [] := List.eq_nil_of_length_eq_zero h
  subst this
  rfl

theorem partsF_is : ∀ (k : Nat) (l : List UInt8), l.length ≤ k → 1 ≤ (partsF k l).length ∧ ∀ i, i < (partsF k l).length → (partsF k l).getD i [] = upD l (i + 1) ∧ (((partsF k l).getD i [] = [47]) ↔ i + 1 = (partsF k l).length)
  | 0, l, h => by
    have e := default_nil_lt l (by omega)
    refine ⟨by simp [partsF], fun i hi => ?_⟩
    have hi : i < 1 := by simpa [partsF] using hi
    obtain rfl : i = 0 := by omega
    exact ⟨rfl, by simp [partsF, e]⟩
  | k + 1, l, h => by
    by_cases hd : defaultL l = [47]
    · have e : partsF (k + 1) l = [[47]] := by unfold partsF; rw [if_pos hd]
      rw [e]
      refine ⟨by simp, fun i hi => ?_⟩
      have hi : i < 1 := by simpa using hi
      obtain rfl : i = 0 := by omega
      exact ⟨hd.symm, by simp⟩
    · have e : partsF (k + 1) l = defaultL l :: partsF k (defaultL l) := by
        show (if defaultL l = [47] then [[47]] else defaultL l :: partsF k (defaultL l)) = _
        rw [if_neg hd]
      have hlt := default_lt hd
      obtain ⟨h1, h2⟩ := partsF_is k (defaultL l) (by omega)
      rw [e]
      refine ⟨by simp, fun i hi => ?_⟩
      cases i with
      | zero =>
        refine ⟨rfl, ?_⟩
        simp only [List.getD_cons_zero, List.length_cons]
        exact ⟨fun c => absurd c hd, fun c => by omega⟩
      | succ i =>
        have hi : i < (partsF k (defaultL l)).length := by simpa using hi
        obtain ⟨g1, g2⟩ := h2 i hi
        simp only [List.getD_cons_succ, List.length_cons]
        refine ⟨by rw [g1, upD_shift], ?_⟩
        rw [g2]
        omega

theorem parts_is {l : List UInt8} (h : l.getD 0 0 = 47) (h0 : 1 ≤ l.length) : 1 ≤ (partsP l).length ∧ ∀ i, i < (partsP l).length → (partsP l).getD i [] = upD l (i + 1) ∧ (((partsP l).getD i [] = [47]) ↔ i + 1 = (partsP l).length) := by
  unfold partsP
  rw [if_pos ⟨h0, h⟩]
  exact partsF_is l.length l (Nat.le_refl _)

theorem upD_head {l : List UInt8} (h : l.getD 0 0 = 47) (h0 : 1 ≤ l.length) : ∀ k, (upD l k).getD 0 0 = 47 ∧ 1 ≤ (upD l k).length
  | 0 => ⟨h, h0⟩
  | k + 1 => default_head _

theorem upD_fit {l : List UInt8} (h : l.getD 0 0 = 47) (h0 : 1 ≤ l.length) : ∀ k, fitP l (upD l k) = true
  | 0 => fitP_refl l
  | k + 1 => by
    obtain ⟨g1, g2⟩ := upD_head h h0 k
    exact fitP_trans (upD_fit h h0 k) (default_fit g1 g2)

theorem default_le (l : List UInt8) : (defaultL l).length ≤ max l.length 1 := by
  unfold defaultL
  split
  · simp; omega
  · rw [List.length_take]
    omega

theorem upD_le (l : List UInt8) : ∀ k, (upD l k).length ≤ max l.length 1
  | 0 => by simp only [upD]; omega
  | k + 1 => by
    have h1 := default_le (upD l k)
    have h2 := upD_le l k
    show (defaultL (upD l k)).length ≤ _
    omega
end Go.Proofs.Ytilgcphpieiliaa
