/- Contracts and plain words that the laws' proofs stand on, put together. -/
import Derived.Test.YthefieemngmnjaaGreatDoorLibAD
import Derived.Test.YthefieemngmnjaaGreatDoorLibAC
import Derived.Lib.Join
import Derived.Lib.LastIndexByte
import Derived.Test.YthefieemngmnjaaGreatDoorStrsIn
/- Public suffixes in plain words. No program in it. -/
namespace Go.Proofs.YthefieemngmnjaaGreatDoor
open Go.RowKit
set_option linter.unusedVariables false

/-- A rule's sign (42: any, 33: not, 0: none) and its name. -/
def splitR (s : List UInt8) : UInt8 × List UInt8 :=
  if 2 < s.length ∧ s.take 2 = [42, 46] then (42, s.drop 2) else if 1 < s.length ∧ s.getD 0 0 = 33 then (33, s.drop 1) else (0, s)

def hasDot (l : List UInt8) : Bool := decide (l.findIdx (· == 46) < l.length)
def ruleB (s : List UInt8) : Bool := nameB (splitR s).2 && (!((splitR s).1 == 33) || hasDot (splitR s).2)

/-- A name's last labels, so many. -/
def lastN (s : List UInt8) (n : Nat) : List UInt8 := if n = 0 then [] else tailL s ((splitL s 46).length - n)

def notAt (R : List (List UInt8)) (s : List UInt8) (n : Nat) : Bool := R.any fun r => (splitR r).1 == 33 && (splitR r).2 == lastN s n
def fitB (r s : List UInt8) (n : Nat) : Bool := ((splitR r).1 == 0 && (splitR r).2 == lastN s n) || ((splitR r).1 == 42 && (decide (2 ≤ n) && (splitR r).2 == lastN s (n - 1)))
def fitAt (R : List (List UInt8)) (s : List UInt8) (n : Nat) : Bool := R.any fun r => fitB r s n

/-- The greatest number from 1 to k that is so; 0: there is none. -/
def topAt (p : Nat → Bool) : Nat → Nat
  | 0 => 0
  | k + 1 => if p (k + 1) = true then k + 1 else topAt p k

/-- The public suffix of a name by rules. -/
def ofL (R : List (List UInt8)) (s : List UInt8) : List UInt8 :=
  if 0 < topAt (notAt R s) (splitL s 46).length then lastN s (topAt (notAt R s) (splitL s 46).length - 1)
  else if 0 < topAt (fitAt R s) (splitL s 46).length then lastN s (topAt (fitAt R s) (splitL s 46).length)
  else lastN s 1

theorem topAt_le (p : Nat → Bool) : ∀ k, topAt p k ≤ k
  | 0 => Nat.le_refl _
  | k + 1 => by
    unfold topAt
    split
    · exact Nat.le_refl _
    · exact Nat.le_succ_of_le (topAt_le p k)

theorem topAt_yes (p : Nat → Bool) : ∀ k, 0 < topAt p k → p (topAt p k) = true
  | 0, h => absurd h (Nat.lt_irrefl 0)
  | k + 1, h => by
    unfold topAt at h ⊢
    split
    · rename_i h1; exact h1
    · rename_i h1
      rw [if_neg h1] at h
      exact topAt_yes p k h

theorem topAt_no (p : Nat → Bool) : ∀ k m, topAt p k < m → m ≤ k → p m = false
  | 0, m, h, h2 => by omega
  | k + 1, m, h, h2 => by
    unfold topAt at h
    split at h
    · omega
    · rename_i h1
      by_cases e : m = k + 1
      · subst e; simpa using h1
      · exact topAt_no p k m h (by omega)

/-- The greatest, told by what it is. -/
theorem topAt_is {p : Nat → Bool} {k n : Nat} (h1 : n ≤ k) (hp : 0 < n → p n = true) (hno : ∀ m, n < m → m ≤ k → p m = false) : topAt p k = n := by
  have hle := topAt_le p k
  rcases Nat.lt_trichotomy (topAt p k) n with h | h | h
  · have := topAt_no p k n h h1
    rw [hp (by omega)] at this
    cases this
  · exact h
  · have := topAt_yes p k (by omega)
    rw [hno _ h hle] at this
    cases this

/-- All labels of a name have a byte. -/
theorem labels_pos {s : List UInt8} (h : nameB s = true) : ∀ x ∈ splitL s 46, x ≠ [] := by
  intro x hx e
  have := List.all_eq_true.1 (name_labels h).2.2 x hx
  rw [e] at this
  cases this

theorem tail_le (s : List UInt8) (j : Nat) : (tailL s j).length ≤ s.length := by
  rcases Nat.eq_zero_or_pos j with rfl | h0
  · rw [tail_zero]; exact Nat.le_refl _
  · by_cases h : j < (splitL s 46).length
    · have := (below_len (tail_below j h0 h)).1; omega
    · have : tailL s j = [] := by unfold tailL; rw [List.drop_eq_nil_of_le (by omega)]; rfl
      rw [this]; simp

theorem tail_last (s : List UInt8) (j : Nat) (hj : j + 1 = (splitL s 46).length) : tailL s j = (splitL s 46).getD j [] := by
  unfold tailL
  rw [List.drop_eq_getElem_cons (by omega), List.drop_eq_nil_of_le (by omega)]
  simp [joinL, List.getD, show j < (splitL s 46).length by omega]

theorem tail_ne {s : List UInt8} (hp : ∀ x ∈ splitL s 46, x ≠ []) (j : Nat) (hj : j < (splitL s 46).length) : tailL s j ≠ [] := by
  by_cases h : j + 1 = (splitL s 46).length
  · rw [tail_last s j h]
    refine hp _ ?_
    simp only [List.getD, List.getElem?_eq_getElem hj, Option.getD_some]
    exact List.getElem_mem _
  · rw [tail_next j (by omega)]
    simp

theorem last_le (s : List UInt8) (n : Nat) : (lastN s n).length ≤ s.length := by
  unfold lastN
  split
  · simp
  · exact tail_le s _

/-- A text with a dot has two parts. -/
theorem dot_two (l : List UInt8) : hasDot l = decide (2 ≤ (splitL l 46).length) := by
  unfold hasDot
  have hle : l.findIdx (· == 46) ≤ l.length := List.findIdx_le_length
  rcases cut_split l 46 with ⟨h1, h2, h3⟩ | ⟨h1, h2⟩
  · have : l.findIdx (· == 46) = l.length := by
      unfold cutL at h1
      by_cases e : l.findIdx (· == 46) = l.length
      · exact e
      · rw [if_neg e] at h1; cases h1
    rw [this, h3, decide_eq_false (by omega), decide_eq_false (by simp)]
  · have : l.findIdx (· == 46) ≠ l.length := by
      unfold cutL at h1
      intro e
      rw [if_pos e] at h1; cases h1
    have hp := splitL_pos (cutL l 46).2.1 46
    rw [h2, decide_eq_true (by omega), decide_eq_true (by rw [List.length_cons]; omega)]

end Go.Proofs.YthefieemngmnjaaGreatDoor

/- Public suffixes in plain words: what a name's own one and what is its own have in common. No program in it. -/
namespace Go.Proofs.YthefieemngmnjaaGreatDoor
open Go.RowKit
set_option linter.unusedVariables false

/-- What Check, Of, Public and Own answer. -/
def checkN (R : List (List UInt8)) : Int := if 256 < R.length then 3 else if R.all ruleB = true then 0 else 1
def ofR (R : List (List UInt8)) (s : List UInt8) : List UInt8 × Int :=
  if checkN R ≠ 0 then ([], checkN R) else if nameB s = true then (ofL R s, 0) else ([], 1)
def publicR (R : List (List UInt8)) (s : List UInt8) : Bool := decide ((ofR R s).2 = 0) && (ofR R s).1 == s
def ownR (R : List (List UInt8)) (s : List UInt8) : List UInt8 × Bool :=
  if (ofR R s).2 = 0 ∧ (ofR R s).1 ≠ s then (lastN s ((splitL (ofR R s).1 46).length + 1), true) else ([], false)

theorem last_all (s : List UInt8) : lastN s (splitL s 46).length = s := by
  unfold lastN
  have := splitL_pos s 46
  rw [if_neg (by omega), Nat.sub_self, tail_zero]

theorem last_split {s : List UInt8} (h : (splitL s 46).all labelB = true) {m : Nat} (h1 : 1 ≤ m) (h2 : m ≤ (splitL s 46).length) : splitL (lastN s m) 46 = (splitL s 46).drop ((splitL s 46).length - m) := by
  unfold lastN
  rw [if_neg (by omega)]
  exact tail_split h _ (by omega)

theorem last_count {s : List UInt8} (h : (splitL s 46).all labelB = true) {m : Nat} (h1 : 1 ≤ m) (h2 : m ≤ (splitL s 46).length) : (splitL (lastN s m) 46).length = m := by
  rw [last_split h h1 h2, List.length_drop]
  omega

theorem check_cases (R : List (List UInt8)) : (256 < R.length ∧ checkN R = 3) ∨ (R.length ≤ 256 ∧ R.all ruleB = false ∧ checkN R = 1) ∨ (R.length ≤ 256 ∧ R.all ruleB = true ∧ checkN R = 0) := by
  unfold checkN
  by_cases h : 256 < R.length
  · exact .inl ⟨h, if_pos h⟩
  · rw [if_neg h]
    cases R.all ruleB with
    | true => exact .inr (.inr ⟨by omega, rfl, rfl⟩)
    | false => exact .inr (.inl ⟨by omega, rfl, rfl⟩)

end Go.Proofs.YthefieemngmnjaaGreatDoor

/- How a public suffix is found by the program: rules, parted, and the most labels of those that fit. No program in it. -/
namespace Go.Proofs.YthefieemngmnjaaGreatDoor
open Go.RowKit
set_option linter.unusedVariables false

/-- A rule, parted: its kind (0, 1: any, 2: not), its name, and how many labels. -/
structure RuleK where
  kind : Int
  name : List UInt8
  labels : Int

def countN (l : List UInt8) : Nat := if nameB l = true then (splitL l 46).length else 0

def ruleK (s : List UInt8) : RuleK :=
  if Lib.hasPrefix s [42, 46] = true then ⟨1, s.drop 2, 1 + (countN (s.drop 2) : Int)⟩ else if Lib.hasPrefix s [33] = true then ⟨2, s.drop 1, -1 + (countN (s.drop 1) : Int)⟩ else ⟨0, s, (countN s : Int)⟩

def okK (s : List UInt8) : Bool := decide (0 < countN (ruleK s).name) && decide (0 < (ruleK s).labels)

theorem count_pos (l : List UInt8) : decide (0 < countN l) = nameB l := by
  unfold countN
  have := splitL_pos l 46
  cases h : nameB l <;> simp
  omega

theorem pre_one (s : List UInt8) : Lib.hasPrefix s [33] = decide (1 ≤ s.length ∧ s.getD 0 0 = 33) := by
  cases s with
  | nil => rfl
  | cons x t =>
    unfold Lib.hasPrefix
    rw [Bool.eq_iff_iff, decide_eq_true_iff, List.isPrefixOf_iff_prefix]
    simp [List.getD, eq_comm]

theorem pre_two (s : List UInt8) : Lib.hasPrefix s [42, 46] = decide (s.take 2 = [42, 46]) := by
  unfold Lib.hasPrefix
  rw [Bool.eq_iff_iff, decide_eq_true_iff, List.isPrefixOf_iff_prefix]
  constructor
  · rintro ⟨r, rfl⟩; rfl
  · intro h
    exact ⟨s.drop 2, by rw [← h, List.take_append_drop]⟩

/-- A text that is a rule, by its sign. -/
theorem rule_cases {s : List UInt8} (h : ruleB s = true) : ∃ nm, nameB nm = true ∧
    ((splitR s = (0, nm) ∧ ruleK s = ⟨0, nm, ((splitL nm 46).length : Int)⟩) ∨
     (splitR s = (42, nm) ∧ ruleK s = ⟨1, nm, 1 + ((splitL nm 46).length : Int)⟩) ∨
     (splitR s = (33, nm) ∧ 2 ≤ (splitL nm 46).length ∧ ruleK s = ⟨2, nm, -1 + ((splitL nm 46).length : Int)⟩)) := by
  unfold ruleB at h
  rw [Bool.and_eq_true] at h
  obtain ⟨h1, h2⟩ := h
  unfold ruleK
  rw [pre_one, pre_two]
  by_cases e : s.take 2 = [42, 46]
  · by_cases e2 : 2 < s.length
    · have es : splitR s = (42, s.drop 2) := by unfold splitR; rw [if_pos ⟨e2, e⟩]
      rw [es] at h1
      refine ⟨s.drop 2, h1, .inr (.inl ⟨es, ?_⟩)⟩
      rw [if_pos (by simpa using e)]
      unfold countN
      rw [if_pos h1]
    · have el : s = [42, 46] := by rw [← e, List.take_of_length_le (by omega)]
      subst el
      exact absurd h1 (by decide)
  · rw [if_neg (by simpa using e)]
    by_cases e2 : 1 < s.length ∧ s.getD 0 0 = 33
    · have es : splitR s = (33, s.drop 1) := by unfold splitR; rw [if_neg (by simp [e]), if_pos e2]
      rw [es] at h1 h2
      have h3 : hasDot (s.drop 1) = true := by simpa using h2
      rw [dot_two, decide_eq_true_iff] at h3
      refine ⟨s.drop 1, h1, .inr (.inr ⟨es, h3, ?_⟩)⟩
      rw [if_pos (decide_eq_true ⟨by omega, e2.2⟩)]
      unfold countN
      rw [if_pos h1]
    · have es : splitR s = (0, s) := by unfold splitR; rw [if_neg (by simp [e]), if_neg e2]
      rw [es] at h1
      refine ⟨s, h1, .inl ⟨es, ?_⟩⟩
      have : ¬ (1 ≤ s.length ∧ s.getD 0 0 = 33) := by
        rintro ⟨a, b⟩
        have hl : s.length = 1 := by
          by_cases c : 1 < s.length
          · exact absurd ⟨c, b⟩ e2
          · omega
        match s, hl with
        | [x], _ =>
          have : x = 33 := b
          subst this
          exact absurd h1 (by decide)
      rw [if_neg (by simpa using this)]
      unfold countN
      rw [if_pos h1]

theorem ok_rule (s : List UInt8) : okK s = ruleB s := by
  cases h : ruleB s with
  | true =>
    obtain ⟨nm, hn, ⟨-, e⟩ | ⟨-, e⟩ | ⟨-, h2, e⟩⟩ := rule_cases h <;>
    · unfold okK
      rw [e]
      have := splitL_pos nm 46
      simp only [count_pos, hn, Bool.true_and, decide_eq_true_iff]
      omega
  | false =>
    rw [Bool.eq_false_iff]
    intro c
    unfold okK at c
    rw [Bool.and_eq_true, count_pos] at c
    obtain ⟨c1, c2⟩ := c
    rw [decide_eq_true_iff] at c2
    rw [← Bool.not_eq_true] at h
    apply h
    unfold ruleB splitR
    unfold ruleK at c1 c2
    rw [pre_one, pre_two] at c1 c2
    by_cases e : s.take 2 = [42, 46]
    · rw [if_pos (by simpa using e)] at c1 c2
      by_cases e2 : 2 < s.length
      · rw [if_pos ⟨e2, e⟩]
        simp only [c1]
        rfl
      · exfalso
        have : s.drop 2 = [] := List.drop_eq_nil_of_le (by omega)
        rw [this] at c1
        exact absurd c1 (by decide)
    · rw [if_neg (by simpa using e)] at c1 c2
      rw [if_neg (by simp [e])]
      by_cases e2 : 1 ≤ s.length ∧ s.getD 0 0 = 33
      · rw [if_pos (decide_eq_true e2)] at c1 c2
        have hl : 1 < s.length := by
          by_cases c : 1 < s.length
          · exact c
          · exfalso
            have : s.drop 1 = [] := List.drop_eq_nil_of_le (by omega)
            rw [this] at c1
            exact absurd c1 (by decide)
        rw [if_pos ⟨hl, e2.2⟩]
        simp only [c1, Bool.true_and]
        simp only [countN, c1, if_true] at c2
        rw [dot_two, decide_eq_true (by omega)]
        decide
      · rw [if_neg (by simpa using e2)] at c1
        rw [if_neg (fun x => e2 ⟨by omega, x.2⟩)]
        simp only [c1]
        rfl

/-- Whatever stands around a dot. -/
theorem split_app (d : List UInt8) : ∀ (n : Nat) (p : List UInt8), p.length ≤ n → splitL (p ++ 46 :: d) 46 = splitL p 46 ++ splitL d 46
  | n, p, hn => by
    by_cases h : (46 : UInt8) ∈ p
    · obtain ⟨x, r, rfl, hx⟩ := List.eq_append_cons_of_mem h
      have hx' : ∀ y ∈ x, (y == 46) = false := fun y hy => beq_eq_false_iff_ne.2 fun e => hx (e ▸ hy)
      match n, hn with
      | n + 1, hn =>
        rw [List.append_assoc, List.cons_append, split_cons x _ 46 hx', split_cons x _ 46 hx', split_app d n r (by simp at hn; omega), List.cons_append]
      | 0, hn => simp at hn
    · have hx' : ∀ y ∈ p, (y == 46) = false := fun y hy => beq_eq_false_iff_ne.2 fun e => h (e ▸ hy)
      rw [split_cons p _ 46 hx', split_one p 46 hx', List.singleton_append]

theorem suffix_yes {s d : List UInt8} : Lib.hasSuffix s d = true ↔ ∃ p, s = p ++ d := by
  unfold Lib.hasSuffix
  rw [List.isSuffixOf_iff_suffix]
  exact ⟨fun ⟨p, h⟩ => ⟨p, h.symm⟩, fun ⟨p, h⟩ => ⟨p, h.symm⟩⟩

theorem trim_app (p d : List UInt8) : Lib.trimSuffix (p ++ d) d = p := by
  unfold Lib.trimSuffix
  rw [if_pos (suffix_yes.2 ⟨p, rfl⟩)]
  simp

/-- A name that ends with a point and a text has that text for its last labels. -/
theorem last_app {p d : List UInt8} : lastN (p ++ 46 :: d) (splitL d 46).length = d ∧ (splitL d 46).length + 1 ≤ (splitL (p ++ 46 :: d) 46).length := by
  have h := split_app d p.length p (Nat.le_refl _)
  have h1 := splitL_pos p 46
  have h2 := splitL_pos d 46
  constructor
  · unfold lastN tailL
    rw [if_neg (by omega), h, List.length_append, Nat.add_sub_cancel, List.drop_left, joinL_all]
  · rw [h, List.length_append]; omega

theorem ends_last {s d : List UInt8} : (Lib.hasSuffix s d = true ∧ Lib.hasSuffix (Lib.trimSuffix s d) [46] = true) ↔ ((splitL d 46).length + 1 ≤ (splitL s 46).length ∧ d = lastN s (splitL d 46).length) := by
  have h2 := splitL_pos d 46
  constructor
  · rintro ⟨a, b⟩
    obtain ⟨p, rfl⟩ := suffix_yes.1 a
    rw [trim_app] at b
    obtain ⟨q, rfl⟩ := suffix_yes.1 b
    rw [List.append_assoc, List.singleton_append]
    exact ⟨last_app.2, last_app.1.symm⟩
  · rintro ⟨a, b⟩
    have hb := tail_below (s := s) ((splitL s 46).length - (splitL d 46).length) (by omega) (by omega)
    unfold lastN at b
    rw [if_neg (by omega)] at b
    rw [← b, below_suffix] at hb
    obtain ⟨p, rfl⟩ := suffix_yes.1 hb
    have e : p ++ 46 :: d = (p ++ [46]) ++ d := by simp
    rw [e, trim_app]
    exact ⟨suffix_yes.2 ⟨_, rfl⟩, suffix_yes.2 ⟨p, rfl⟩⟩

theorem is_last {s d : List UInt8} : (Lib.hasSuffix s d = true ∧ Lib.trimSuffix s d = []) ↔ s = d := by
  constructor
  · rintro ⟨a, b⟩
    obtain ⟨p, rfl⟩ := suffix_yes.1 a
    rw [trim_app] at b
    rw [b]; rfl
  · rintro rfl
    exact ⟨suffix_yes.2 ⟨[], rfl⟩, trim_app [] s⟩

/-- Does a rule fit a name? -/
def fitsK (q : RuleK) (s : List UInt8) : Bool := Lib.hasSuffix s q.name && (Lib.hasSuffix (Lib.trimSuffix s q.name) [46] || (Lib.trimSuffix s q.name == [] && !(q.kind == 1)))

theorem fits_any (q : RuleK) (s : List UInt8) (h : q.kind = 1) : fitsK q s = true ↔ ((splitL q.name 46).length + 1 ≤ (splitL s 46).length ∧ q.name = lastN s (splitL q.name 46).length) := by
  rw [← ends_last]
  unfold fitsK
  rw [h]
  simp

theorem fits_else (q : RuleK) (s : List UInt8) (h : q.kind ≠ 1) : fitsK q s = true ↔ ((splitL q.name 46).length ≤ (splitL s 46).length ∧ q.name = lastN s (splitL q.name 46).length) := by
  have e : fitsK q s = true ↔ ((Lib.hasSuffix s q.name = true ∧ Lib.hasSuffix (Lib.trimSuffix s q.name) [46] = true) ∨ (Lib.hasSuffix s q.name = true ∧ Lib.trimSuffix s q.name = [])) := by
    unfold fitsK
    rw [beq_eq_false_iff_ne.2 h]
    simp only [Bool.not_false, Bool.and_true, Bool.and_eq_true, Bool.or_eq_true, beq_iff_eq, and_or_left]
  rw [e, ends_last, is_last]
  constructor
  · rintro (⟨a, b⟩ | rfl)
    · exact ⟨by omega, b⟩
    · exact ⟨Nat.le_refl _, (last_all q.name).symm⟩
  · rintro ⟨a, b⟩
    by_cases c : (splitL q.name 46).length = (splitL s 46).length
    · rw [c, last_all] at b
      exact .inr b.symm
    · exact .inl ⟨by omega, b⟩

/-- The most labels of those rules that are (not) not rules, and fit. -/
def condK (b : Bool) (s : List UInt8) (q : RuleK) : Bool := ((q.kind == 2) == b) && fitsK q s
def mostK (Q : List RuleK) (b : Bool) (s : List UInt8) : Int := Q.foldl (fun m q => if condK b s q = true then max m q.labels else m) 0

theorem most_take {Q : List RuleK} {b : Bool} {s : List UInt8} {k : Nat} (hk : k < Q.length) : mostK (Q.take (k + 1)) b s = if condK b s Q[k] = true then max (mostK (Q.take k) b s) Q[k].labels else mostK (Q.take k) b s := by
  unfold mostK
  rw [List.take_succ_eq_append_getElem hk, List.foldl_append]
  rfl

theorem fold_is (b : Bool) (s : List UInt8) : ∀ (Q : List RuleK) (m : Int), m ≤ Q.foldl (fun m q => if condK b s q = true then max m q.labels else m) m ∧ (∀ q ∈ Q, condK b s q = true → q.labels ≤ Q.foldl (fun m q => if condK b s q = true then max m q.labels else m) m) ∧
    (Q.foldl (fun m q => if condK b s q = true then max m q.labels else m) m = m ∨ ∃ q ∈ Q, condK b s q = true ∧ q.labels = Q.foldl (fun m q => if condK b s q = true then max m q.labels else m) m)
  | [], m => ⟨Int.le_refl _, fun q h => absurd h (by simp), .inl rfl⟩
  | q :: Q, m => by
    obtain ⟨h1, h2, h3⟩ := fold_is b s Q (if condK b s q = true then max m q.labels else m)
    rw [List.foldl_cons]
    generalize Q.foldl (fun m q => if condK b s q = true then max m q.labels else m) (if condK b s q = true then max m q.labels else m) = x at *
    refine ⟨?_, ?_, ?_⟩
    · split at h1 <;> omega
    · intro y hy hc
      rcases List.mem_cons.1 hy with rfl | hy
      · rw [if_pos hc] at h1; omega
      · exact h2 y hy hc
    · rcases h3 with h3 | ⟨y, hy, hc, e⟩
      · split at h3
        · rename_i hc
          by_cases hm : m < q.labels
          · exact .inr ⟨q, List.mem_cons_self, hc, by omega⟩
          · exact .inl (by omega)
        · exact .inl h3
      · exact .inr ⟨y, List.mem_cons_of_mem _ hy, hc, e⟩

theorem most_is (Q : List RuleK) (b : Bool) (s : List UInt8) : 0 ≤ mostK Q b s ∧ (∀ q ∈ Q, condK b s q = true → q.labels ≤ mostK Q b s) ∧ (mostK Q b s = 0 ∨ ∃ q ∈ Q, condK b s q = true ∧ q.labels = mostK Q b s) := fold_is b s Q 0

def pubK (Q : List RuleK) (s : List UInt8) : Int := if 0 < mostK Q true s then mostK Q true s else max (mostK Q false s) 1

/-- What is found is the public suffix. -/
theorem of_pub {R : List (List UInt8)} {s : List UInt8} (hR : R.all ruleB = true) (hs : nameB s = true) :
    ∃ n : Nat, pubK (R.map ruleK) s = (n : Int) ∧ 1 ≤ n ∧ n ≤ (splitL s 46).length ∧ ofL R s = lastN s n := by
  have hall := (name_labels hs).2.2
  have hK := splitL_pos s 46
  have hcnt := fun m h1 h2 => last_count hall (m := m) h1 h2
  obtain ⟨a0, a1, a2⟩ := most_is (R.map ruleK) true s
  obtain ⟨b0, b1, b2⟩ := most_is (R.map ruleK) false s
  unfold pubK ofL
  generalize mostK (R.map ruleK) true s = A at *
  generalize mostK (R.map ruleK) false s = B at *
  obtain ⟨n, rfl⟩ := Int.eq_ofNat_of_zero_le a0
  obtain ⟨m, rfl⟩ := Int.eq_ofNat_of_zero_le b0
  have hrules := fun r hr => rule_cases (List.all_eq_true.1 hR r hr)
  have hN : ∀ k, 1 ≤ k → k ≤ (splitL s 46).length → notAt R s k = true → (k : Int) - 1 ≤ n ∧ 2 ≤ k := by
    intro k hk1 hk2 hk
    unfold notAt at hk
    obtain ⟨r, hr, hp⟩ := List.any_eq_true.1 hk
    rw [Bool.and_eq_true, beq_iff_eq, beq_iff_eq] at hp
    obtain ⟨nm, hnm, ⟨e, -⟩ | ⟨e, -⟩ | ⟨e, h2, e2⟩⟩ := hrules r hr
    · rw [e] at hp; dsimp only at hp; exact absurd hp.1 (by decide)
    · rw [e] at hp; dsimp only at hp; exact absurd hp.1 (by decide)
    · rw [e] at hp; dsimp only at hp
      have hl : (splitL nm 46).length = k := by rw [hp.2]; exact hcnt k hk1 hk2
      have := a1 (ruleK r) (List.mem_map_of_mem hr) (by
        unfold condK
        rw [Bool.and_eq_true]
        refine ⟨by rw [e2]; rfl, (fits_else _ s (by rw [e2]; exact (by decide : (2 : Int) ≠ 1))).2 ?_⟩
        rw [e2]
        simp only []
        rw [hl]
        exact ⟨hk2, hp.2⟩)
      rw [e2] at this
      simp only [] at this
      omega
  have hF : ∀ k, 1 ≤ k → k ≤ (splitL s 46).length → fitAt R s k = true → (k : Int) ≤ m := by
    intro k hk1 hk2 hk
    unfold fitAt at hk
    obtain ⟨r, hr, hp⟩ := List.any_eq_true.1 hk
    unfold fitB at hp
    simp only [Bool.or_eq_true, Bool.and_eq_true, beq_iff_eq, decide_eq_true_iff] at hp
    obtain ⟨nm, hnm, ⟨e, e2⟩ | ⟨e, e2⟩ | ⟨e, h2, e2⟩⟩ := hrules r hr
    · rw [e] at hp; dsimp only at hp
      have hp2 : nm = lastN s k := by
        rcases hp with hp | hp
        · exact hp.2
        · exact absurd hp.1 (by decide)
      have hl : (splitL nm 46).length = k := by rw [hp2]; exact hcnt k hk1 hk2
      have := b1 (ruleK r) (List.mem_map_of_mem hr) (by
        unfold condK
        rw [Bool.and_eq_true]
        refine ⟨by rw [e2]; rfl, (fits_else _ s (by rw [e2]; exact (by decide : (0 : Int) ≠ 1))).2 ?_⟩
        rw [e2]
        simp only []
        rw [hl]
        exact ⟨hk2, hp2⟩)
      rw [e2] at this
      simp only [] at this
      omega
    · rw [e] at hp; dsimp only at hp
      have hp2 : 2 ≤ k ∧ nm = lastN s (k - 1) := by
        rcases hp with hp | hp
        · exact absurd hp.1 (by decide)
        · exact hp.2
      have hl : (splitL nm 46).length = k - 1 := by rw [hp2.2]; exact hcnt (k - 1) (by omega) (by omega)
      have := b1 (ruleK r) (List.mem_map_of_mem hr) (by
        unfold condK
        rw [Bool.and_eq_true]
        refine ⟨by rw [e2]; rfl, (fits_any _ s (by rw [e2])).2 ?_⟩
        rw [e2]
        simp only []
        rw [hl]
        exact ⟨by omega, hp2.2⟩)
      rw [e2] at this
      simp only [] at this
      omega
    · rw [e] at hp; dsimp only at hp
      rcases hp with hp | hp
      · exact absurd hp.1 (by decide)
      · exact absurd hp.1 (by decide)
  have hN0 : 0 < n → n + 1 ≤ (splitL s 46).length ∧ notAt R s (n + 1) = true := by
    intro hn
    rcases a2 with h | ⟨q, hq, hc, hl⟩
    · omega
    · obtain ⟨r, hr, rfl⟩ := List.mem_map.1 hq
      unfold condK at hc
      rw [Bool.and_eq_true, beq_iff_eq] at hc
      obtain ⟨hc1, hc2⟩ := hc
      obtain ⟨nm, hnm, ⟨e, e2⟩ | ⟨e, e2⟩ | ⟨e, h2, e2⟩⟩ := hrules r hr
      · rw [e2] at hc1; dsimp only at hc1; exact absurd hc1 (by decide)
      · rw [e2] at hc1; dsimp only at hc1; exact absurd hc1 (by decide)
      · have := (fits_else _ s (by rw [e2]; exact (by decide : (2 : Int) ≠ 1))).1 hc2
        rw [e2] at this hl
        simp only [] at this hl
        have el : (splitL nm 46).length = n + 1 := by omega
        rw [el] at this
        refine ⟨this.1, ?_⟩
        unfold notAt
        rw [List.any_eq_true]
        refine ⟨r, hr, ?_⟩
        rw [e, ← this.2]
        simp
  have hF0 : 0 < m → m ≤ (splitL s 46).length ∧ fitAt R s m = true := by
    intro hm
    rcases b2 with h | ⟨q, hq, hc, hl⟩
    · omega
    · obtain ⟨r, hr, rfl⟩ := List.mem_map.1 hq
      unfold condK at hc
      rw [Bool.and_eq_true, beq_iff_eq] at hc
      obtain ⟨hc1, hc2⟩ := hc
      obtain ⟨nm, hnm, ⟨e, e2⟩ | ⟨e, e2⟩ | ⟨e, h2, e2⟩⟩ := hrules r hr
      · have := (fits_else _ s (by rw [e2]; exact (by decide : (0 : Int) ≠ 1))).1 hc2
        rw [e2] at this hl
        simp only [] at this hl
        have el : (splitL nm 46).length = m := by omega
        rw [el] at this
        refine ⟨this.1, ?_⟩
        unfold fitAt fitB
        rw [List.any_eq_true]
        refine ⟨r, hr, ?_⟩
        rw [e, ← this.2]
        simp
      · have := (fits_any _ s (by rw [e2])).1 hc2
        rw [e2] at this hl
        simp only [] at this hl
        have h1 := splitL_pos nm 46
        have el : (splitL nm 46).length = m - 1 := by omega
        rw [el] at this
        refine ⟨by omega, ?_⟩
        unfold fitAt fitB
        rw [List.any_eq_true]
        refine ⟨r, hr, ?_⟩
        rw [e, ← this.2]
        simp
        omega
      · rw [e2] at hc1; dsimp only at hc1; exact absurd hc1 (by decide)
  by_cases hn : 0 < n
  · obtain ⟨h1, h2⟩ := hN0 hn
    have ht : topAt (notAt R s) (splitL s 46).length = n + 1 := topAt_is h1 (fun _ => h2) fun k k1 k2 => by
      rw [Bool.eq_false_iff]
      intro c
      have := hN k (by omega) k2 c
      omega
    rw [ht, if_pos (by omega), if_pos (by omega)]
    exact ⟨n, rfl, by omega, by omega, rfl⟩
  · have ht : topAt (notAt R s) (splitL s 46).length = 0 := topAt_is (Nat.zero_le _) (fun h => absurd h (by omega)) fun k k1 k2 => by
      rw [Bool.eq_false_iff]
      intro c
      have := hN k (by omega) k2 c
      omega
    rw [ht, if_neg (by omega), if_neg (by omega)]
    by_cases hm : 0 < m
    · obtain ⟨h1, h2⟩ := hF0 hm
      have hu : topAt (fitAt R s) (splitL s 46).length = m := topAt_is h1 (fun _ => h2) fun k k1 k2 => by
        rw [Bool.eq_false_iff]
        intro c
        have := hF k (by omega) k2 c
        omega
      rw [hu, if_pos hm]
      exact ⟨m, by omega, by omega, h1, rfl⟩
    · have hu : topAt (fitAt R s) (splitL s 46).length = 0 := topAt_is (Nat.zero_le _) (fun h => absurd h (by omega)) fun k k1 k2 => by
        rw [Bool.eq_false_iff]
        intro c
        have := hF k (by omega) k2 c
        omega
      rw [hu, if_neg (by omega)]
      exact ⟨1, by omega, by omega, by omega, rfl⟩

theorem lib_join : ∀ P : List (List UInt8), Lib.join P [46] = joinL 46 P
  | [] => rfl
  | [x] => Lib.join_one x _
  | x :: y :: r => by
    have := lib_join (y :: r)
    unfold joinL
    rw [← this]
    unfold Lib.join
    simp [List.intercalate]

end Go.Proofs.YthefieemngmnjaaGreatDoor

/- Contracts of the reference of layer 9. -/
namespace Go.Proofs.YthefieemngmnjaaGreatDoor
open Go.RowKit
set_option linter.unusedVariables false

theorem refFindDotC (l : List UInt8) (n : Nat) (w : World) (hl : l.length = n) (hm : n ≤ maxLen) :
    Calls Tryz.prog 35 #[.string (str l), .int .u8 46] w fun e w' => e = .returned (.int .i64 (findL l 46)) ∧ w = w' := refFindC l 46 n w hl hm

theorem find_dot (l : List UInt8) : decide (0 ≤ findL l 46) = hasDot l := by
  unfold findL hasDot
  have hle : l.findIdx (· == 46) ≤ l.length := List.findIdx_le_length
  split
  · rename_i h
    rw [h, decide_eq_false (by omega), decide_eq_false (by omega)]
  · rename_i h
    rw [decide_eq_true (by omega), decide_eq_true (by omega)]

theorem splitR_len (s : List UInt8) : (splitR s).2.length ≤ s.length := by
  unfold splitR
  split
  · simp
  · split
    · simp
    · simp

/-- A rule's sign is one of three. -/
theorem splitR_sign (s : List UInt8) : (splitR s).1 = 0 ∨ (splitR s).1 = 33 ∨ (splitR s).1 = 42 := by
  unfold splitR
  split
  · exact .inr (.inr rfl)
  · split
    · exact .inr (.inl rfl)
    · exact .inl rfl

set_option maxRecDepth 100000 in
theorem refRSplitC (l : List UInt8) (n : Nat) (w : World) (hl : l.length = n) (hm : n ≤ maxLen) :
    Calls Tryz.prog 74 #[.string (str l)] w fun e w' => e = .returned (.tuple #[.int .u8 ((splitR l).1.toNat : Int), .string (str (splitR l).2)]) ∧ ∃ d, w' = w.drewN d := by
  have hsz : (str l).size = n := by rw [str_size, hl]
  unfold maxLen at hm
  have hk := str_toList
  unfold splitR
  rw [hl]
  have h2 : ({ data := #[42, 46] } : ByteArray) = str [42, 46] := rfl
  have hx1 : (str l).extract 0 2 = str (l.take 2) := by rw [str_extract]; simp
  have hx2 : (str l).extract 2 n = str (l.drop 2) := by rw [str_extract, List.take_of_length_le (by simp; omega)]
  have hx3 : (str l).extract 1 n = str (l.drop 1) := by rw [str_extract, List.take_of_length_le (by simp; omega)]
  by_cases c2 : 2 < n
  · have c2' : (2 : Int) < (n : Int) := by omega
    have c2d : decide ((2 : Int) < (n : Int)) = true := decide_eq_true c2'
    have c22 : (2 : Int) ≤ (n : Int) := by omega
    cases hq : (l.take 2 == [42, 46]) with
    | true =>
      rw [if_pos ⟨c2, beq_iff_eq.1 hq⟩]
      generalize l.drop 2 = y at *
      generalize l.take 2 = z at *
      clear hl hx3
      go_enter Tryz.func74, Tryz.ntmps74
      go_wp2_with fail
      go_quiet (fail)
      go_wp2
      go_ret2
      exact ⟨rfl, _, rfl⟩
    | false =>
      have hne : ¬ (2 < n ∧ l.take 2 = [42, 46]) := fun h => by rw [beq_iff_eq.2 h.2] at hq; cases hq
      rw [if_neg hne]
      have i0 := first_str (P := Tryz.prog) w 9 l Tryz.underlying9 (by omega)
      have c1 : (1 : Int) < (n : Int) := by omega
      have c12 : (1 : Int) ≤ (n : Int) := by omega
      have c1d : decide ((1 : Int) < (n : Int)) = true := decide_eq_true c1
      have e0 := u8_is (l.getD 0 0) 33 (by omega)
      by_cases h33 : l.getD 0 0 = 33
      · rw [if_pos ⟨by omega, h33⟩]
        have e0' : (((l.getD 0 0).toNat : Int) == 33) = true := by rw [h33]; rfl
        generalize l.drop 2 = y at *
        generalize l.drop 1 = y1 at *
        generalize l.take 2 = z at *
        generalize (l.getD 0 0).toNat = x at *
        clear hl e0 h33 hne
        go_enter Tryz.func74, Tryz.ntmps74
        go_wp2_with fail
        go_quiet (fail)
        go_wp2
        go_ret2
        exact ⟨rfl, _, rfl⟩
      · have hn2 : ¬ (1 < n ∧ l.getD 0 0 = 33) := fun h => h33 h.2
        rw [if_neg hn2]
        have e0' : (((l.getD 0 0).toNat : Int) == 33) = false := by
          have : (l.getD 0 0 == UInt8.ofNat 33) = false := by rw [beq_eq_false_iff_ne]; exact h33
          rw [this] at e0
          exact e0.symm
        generalize l.drop 2 = y at *
        generalize l.drop 1 = y1 at *
        generalize l.take 2 = z at *
        generalize (l.getD 0 0).toNat = x at *
        clear hl e0 h33 hne hn2
        go_enter Tryz.func74, Tryz.ntmps74
        go_wp2
        go_ret2
        exact ⟨rfl, 0, rfl⟩
  · have c2' : ¬ (2 : Int) < (n : Int) := by omega
    rw [if_neg (fun h => c2 h.1)]
    by_cases c1 : 1 < n
    · have i0 := first_str (P := Tryz.prog) w 9 l Tryz.underlying9 (by omega)
      have c1' : (1 : Int) < (n : Int) := by omega
      have c12 : (1 : Int) ≤ (n : Int) := by omega
      have e0 := u8_is (l.getD 0 0) 33 (by omega)
      by_cases h33 : l.getD 0 0 = 33
      · rw [if_pos ⟨c1, h33⟩]
        have e0' : (((l.getD 0 0).toNat : Int) == 33) = true := by rw [h33]; rfl
        generalize l.drop 2 = y at *
        generalize l.drop 1 = y1 at *
        generalize l.take 2 = z at *
        generalize (l.getD 0 0).toNat = x at *
        clear hl e0 h33 hx1 hx2
        go_enter Tryz.func74, Tryz.ntmps74
        go_wp2_with fail
        go_quiet (fail)
        go_wp2
        go_ret2
        exact ⟨rfl, _, rfl⟩
      · rw [if_neg (fun h => h33 h.2)]
        have e0' : (((l.getD 0 0).toNat : Int) == 33) = false := by
          have : (l.getD 0 0 == UInt8.ofNat 33) = false := by rw [beq_eq_false_iff_ne]; exact h33
          rw [this] at e0
          exact e0.symm
        generalize (l.getD 0 0).toNat = x at *
        clear hl e0 h33 hx1 hx2 hx3
        go_enter Tryz.func74, Tryz.ntmps74
        go_wp2
        go_ret2
        exact ⟨rfl, 0, rfl⟩
    · rw [if_neg (fun h => c1 h.1)]
      have c1' : ¬ (1 : Int) < (n : Int) := by omega
      clear hl hx1 hx2 hx3
      go_enter Tryz.func74, Tryz.ntmps74
      go_wp2
      go_ret2
      exact ⟨rfl, 0, rfl⟩

set_option maxRecDepth 100000 in
theorem refRuleC (l : List UInt8) (n : Nat) (w : World) (hl : l.length = n) (hm : n ≤ maxLen) :
    Calls Tryz.prog 55 #[.string (str l)] w fun e w' => e = .returned (.bool (ruleB l)) ∧ Below w.heap.size w w' := by
  have hb := Below.refl w.heap.size w
  have HS := fun w => refRSplitC l n w hl hm
  have hle := splitR_len l
  have hsg := splitR_sign l
  rw [hl] at hle
  unfold ruleB
  generalize splitR l = q at *
  obtain ⟨c, x⟩ := q
  simp only [] at HS hle hsg ⊢
  obtain ⟨m, hx⟩ : ∃ m, x.length = m := ⟨_, rfl⟩
  rw [hx] at hle
  have HN := fun w => refNameC x m w hx (by omega)
  have HF := fun w => refFindDotC x m w hx (by omega)
  have hfd := find_dot x
  generalize nameB x = nm at *
  generalize hasDot x = hd at *
  generalize findL x 46 = v at *
  clear hx hl
  cases nm with
  | false =>
    clear hfd
    go_enter Tryz.func55, Tryz.ntmps55
    go_wp2_with (first
      | (go_at_call 74; (with_reducible refine (HS _).mono ?_); rintro e w1 ⟨rfl, d1, rfl⟩; have hb := below_draws hb d1)
      | (go_at_call 36; (with_reducible refine (HN _).mono ?_); rintro e w1 ⟨rfl, hx⟩; have hb := hb.trans (hx.mono hb.size); clear hx))
    go_ret
    exact ⟨rfl, hb⟩
  | true =>
    rw [Bool.true_and]
    rcases hsg with rfl | rfl | rfl
    · clear hfd
      go_enter Tryz.func55, Tryz.ntmps55
      go_wp2_with (first
        | (go_at_call 74; (with_reducible refine (HS _).mono ?_); rintro e w1 ⟨rfl, d1, rfl⟩; have hb := below_draws hb d1)
        | (go_at_call 36; (with_reducible refine (HN _).mono ?_); rintro e w1 ⟨rfl, hx⟩; have hb := hb.trans (hx.mono hb.size); clear hx))
      go_ret
      exact ⟨rfl, hb⟩
    · cases hd
      all_goals (
        first | (have hv : (0 : Int) ≤ v := of_decide_eq_true hfd) | (have hv : ¬ (0 : Int) ≤ v := of_decide_eq_false hfd)
        go_enter Tryz.func55, Tryz.ntmps55
        go_wp2_with (first
          | (go_at_call 74; (with_reducible refine (HS _).mono ?_); rintro e w1 ⟨rfl, d1, rfl⟩; have hb := below_draws hb d1)
          | (go_at_call 36; (with_reducible refine (HN _).mono ?_); rintro e w1 ⟨rfl, hx⟩; have hb := hb.trans (hx.mono hb.size); clear hx)
          | (go_at_call 35; (with_reducible refine (HF _).mono ?_); rintro e w1 ⟨rfl, rfl⟩))
        go_ret
        exact ⟨rfl, hb⟩)
    · clear hfd
      go_enter Tryz.func55, Tryz.ntmps55
      go_wp2_with (first
        | (go_at_call 74; (with_reducible refine (HS _).mono ?_); rintro e w1 ⟨rfl, d1, rfl⟩; have hb := below_draws hb d1)
        | (go_at_call 36; (with_reducible refine (HN _).mono ?_); rintro e w1 ⟨rfl, hx⟩; have hb := hb.trans (hx.mono hb.size); clear hx))
      go_ret
      exact ⟨rfl, hb⟩
end Go.Proofs.YthefieemngmnjaaGreatDoor

/- Contracts of the reference of layer 9: rules, a name's last labels. -/
namespace Go.Proofs.YthefieemngmnjaaGreatDoor
open Go.RowKit
set_option linter.unusedVariables false

set_option maxRecDepth 100000 in
theorem refRightC (a : Option Addr) (len cap : Nat) (R : List (List UInt8)) (w : World) (hR : IsStrs w a len cap R) :
    Calls Tryz.prog 25 #[.slice a len cap] w fun e w' => e = .returned (.bool (R.all ruleB)) ∧ Below w.heap.size w w' := by
  obtain ⟨hN, hlc, hcm, -, r1, hml⟩ := hR
  have hlm : len ≤ 9223372036854775807 := by unfold maxLen at hcm; omega
  have HP := Lib.hid hN
  have HR : Hid (∀ k, k < len → ruleB (R.getD k []) = false → R.all ruleB = false) := fun k hk h => all_no' (by rw [HP.out]; exact hk) h
  have HY : Hid ((∀ j, j < len → ruleB (R.getD j []) = true) → R.all ruleB = true) := fun h => all_yes' (by rw [HP.out]; exact h)
  generalize R.all ruleB = z at *
  clear hN
  go_enter Tryz.func25, Tryz.ntmps25
  go_wp2
  go_loopw [3] (fun i wr => ∃ k : Nat, k ≤ len ∧ i = .int .i64 (k : Int) ∧ Hid (∀ j, j < k → ruleB (R.getD j []) = true) ∧ Below w.heap.size w wr) (fun i _ => len - (intOf i).toNat)
  case atStart => exact ⟨0, Nat.zero_le _, rfl, fun j hj => absurd hj (by omega), Below.refl _ _⟩
  case round =>
    obtain ⟨k, hk, rfl, H, hb⟩ := hrel
    by_cases hlt : k < len
    · have hlt' : (k : Int) < (len : Int) := by omega
      obtain ⟨g, off, rfl, hc⟩ := str_at (r1.below' hb) k (by rw [HP.out]; exact hlt)
      have hlk : (R.getD k []).length ≤ maxLen := hml _ (by
        have : k < R.length := by rw [HP.out]; exact hlt
        simp only [List.getD, List.getElem?_eq_getElem this, Option.getD_some]
        exact List.getElem_mem _)
      have HN := Lib.hid (fun (hp : ruleB (R.getD k []) = true) => (fun j hj => by
        rcases Nat.lt_succ_iff_lt_or_eq.1 hj with h | rfl
        · exact H.out j h
        · exact hp : ∀ j, j < k + 1 → ruleB (R.getD j []) = true))
      have HF := Lib.hid (HR.out k hlt)
      have HC := fun w => refRuleC (R.getD k []) _ w rfl hlk
      clear hml hlk
      generalize ruleB (R.getD k []) = t at *
      generalize R.getD k [] = x at hc HC
      cases t
      · have HF2 := Lib.hid (HF.out rfl)
        clear HN HF
        go_wp2_with (go_at_call 55; (with_reducible refine (HC _).mono ?_); rintro e w2 ⟨rfl, hx2⟩)
        go_ret
        exact ⟨by rw [HF2.out]; rfl, hb.trans (hx2.mono hb.size)⟩
      · have HN2 := Lib.hid (HN.out rfl)
        clear HN HF
        go_wp2_with (go_at_call 55; (with_reducible refine (HC _).mono ?_); rintro e w2 ⟨rfl, hx2⟩)
        go_roundw
        case rel => exact ⟨k + 1, by omega, by go_num, HN2.out, hb.trans (hx2.mono hb.size)⟩
        case measure => simp [intOf]; omega
    · obtain rfl : k = len := by omega
      have HE := Lib.hid (HY.out H.out)
      clear hml
      go_wp2
      go_ret
      exact ⟨by rw [HE.out]; rfl, hb⟩

theorem refCountC (l : List UInt8) (n : Nat) (w : World) (hl : l.length = n) (hm : n ≤ 1000000000000) :
    Calls Tryz.prog 73 #[.string (str l)] w fun e w' => e = .returned (.int .i64 ((splitL l 46).length : Int)) ∧ Below w.heap.size w w' := by
  have HS := fun w => refSplitDotC l n w hl hm
  unfold GivesStrs at HS
  generalize (splitL l 46).length = N at *
  clear hl
  go_enter Tryz.func73, Tryz.ntmps73
  go_wp2_with (go_at_call 59; (with_reducible refine (HS _).mono ?_); rintro e w1 ⟨a1, c1, rfl, ho1, hx1⟩)
  go_ret
  exact ⟨rfl, hx1⟩

set_option maxRecDepth 100000 in
theorem refTailC (l : List UInt8) (n m : Nat) (w : World) (hl : l.length = n) (hm : n ≤ 1000000000) (hp : ∀ x ∈ splitL l 46, x ≠ []) (hm2 : m ≤ 1000000000) :
    Calls Tryz.prog 75 #[.string (str l), .int .i64 (m : Int)] w fun e w' => e = .returned (.string (str (lastN l m))) ∧ Below w.heap.size w w' := by
  have HS := fun w => refSplitDotC l n w hl (by omega)
  unfold GivesStrs at HS
  have hN1 := splitL_pos l 46
  have hN2 := splitL_le l 46
  have hle := fun k hk => part_le l 46 k hk
  have htl := tail_le l
  have hnx := fun i hi => tail_next (s := l) i hi
  have hla := fun j hj => tail_last l j hj
  have hne := fun j hj => tail_ne hp j hj
  rw [hl] at hN2 hle htl
  unfold lastN
  generalize splitL l 46 = P at *
  obtain ⟨N, hN⟩ : ∃ N, P.length = N := ⟨_, rfl⟩
  rw [hN] at HS hN1 hN2 hle hnx hla hne ⊢
  have HP := Lib.hid hN
  clear hN hl hp
  generalize tailL l = T at *
  have hk := str_toList
  have e46 : ({ data := #[46] } : ByteArray) = str [46] := rfl
  have e0 : ({ data := #[] } : ByteArray) = str [] := rfl
  obtain ⟨G, hG⟩ : ∃ G, (if m = 0 then [] else T (N - m)) = G := ⟨_, rfl⟩
  rw [hG]
  have HG := Lib.hid hG
  clear hG
  go_enter Tryz.func75, Tryz.ntmps75
  go_wp2_with (go_at_call 59; (with_reducible refine (HS _).mono ?_); rintro e w1 ⟨a1, c1, rfl, ho1, hx1⟩)
  obtain ⟨g, rfl, -, l1⟩ := ho1.head hN1
  have r1 := ho1.reads
  clear HS ho1
  go_loopw [6, 7] (fun s i wr => ∃ j : Nat, j ≤ N ∧ N - m ≤ j ∧ s = .string (str (if j = N then [] else T j)) ∧ i = .int .i64 ((j : Int) - 1) ∧ Below w1.heap.size w1 wr) (fun _ i _ => ((intOf i) + 1).toNat)
  case atStart => exact ⟨N, Nat.le_refl _, by omega, by rw [if_pos rfl]; rfl, by first | rfl | (congr 1; omega), Below.refl _ _⟩
  case round =>
    obtain ⟨j, hj, hjm, rfl, rfl, hbr⟩ := hrel
    have hb := hx1.trans (hbr.mono hx1.size)
    rcases Nat.eq_zero_or_pos j with rfl | hj0
    · have hv : ((0 : Nat) : Int) - 1 = -1 := rfl
      have hif : (if (0 : Nat) = N then [] else T 0) = G := by
        rw [← HG.out, if_neg (by omega), if_neg (by omega)]
        congr 1
        omega
      rw [hif]
      clear hif hnx hla hne hle
      rw [hv]
      go_wp2
      go_ret
      exact ⟨rfl, hb⟩
    obtain ⟨i, rfl⟩ : ∃ i, j = i + 1 := ⟨j - 1, by omega⟩
    have hv : ((i + 1 : Nat) : Int) - 1 = (i : Int) := by omega
    rw [hv]
    have hi0 : (0 : Int) ≤ (i : Int) := by omega
    by_cases hc : N - m ≤ i
    · have hc' : (N : Int) - (m : Int) ≤ (i : Int) := by omega
      have hiN : i < N := by omega
      have hiN' : (i : Int) < (N : Int) := by omega
      obtain ⟨g', off, hgg, hcl⟩ := str_at (r1.below' hbr) i (by rw [HP.out]; exact hiN)
      simp only [Option.some.injEq, Addr.mk.injEq] at hgg
      obtain ⟨rfl, rfl, -⟩ := hgg
      rw [Nat.zero_add] at hcl
      have hlx := hle i hiN
      by_cases hjN : i + 1 = N
      · rw [if_pos hjN]
        have ht := hla i hjN
        have HT : Hid (T i = P.getD i []) := ht
        generalize P.getD i [] = x at *
        clear hnx hla hne hle ht
        go_wp2
        go_roundw
        case rel => exact ⟨i, by omega, hc, by rw [if_neg (by omega), HT.out], rfl, hbr⟩
        case measure => first | (simp [intOf]; done) | (simp [intOf]; omega)
      · rw [if_neg hjN]
        have HT : Hid (T i = P.getD i [] ++ 46 :: T (i + 1)) := hnx i (by omega)
        have hlt := htl i
        have hnz := hne (i + 1) (by omega)
        rw [HT.out] at hlt
        generalize P.getD i [] = x at *
        generalize T (i + 1) = y at *
        have hyn : (y == []) = false := by
          cases y with
          | nil => exact absurd rfl hnz
          | cons _ _ => rfl
        simp only [List.length_append, List.length_cons] at hlt
        have ha1 := fun w => run_add_str (P := Tryz.prog) w x [46] (by simp; omega)
        have ha2 := fun w => run_add_str (P := Tryz.prog) w (x ++ [46]) y (by simp; omega)
        rw [← e46] at ha1
        clear hnx hla hne hle hnz htl e46
        go_wp2
        go_roundw
        case rel => exact ⟨i, by omega, hc, by rw [if_neg (by omega), HT.out]; first | done | simp, rfl, hbr⟩
        case measure => first | (simp [intOf]; done) | (simp [intOf]; omega)
    · have hc' : ¬ (N : Int) - (m : Int) ≤ (i : Int) := by omega
      have hif : (if i + 1 = N then [] else T (i + 1)) = G := by
        rw [← HG.out]
        by_cases h0 : m = 0
        · rw [if_pos (by omega), if_pos h0]
        · rw [if_neg (by omega), if_neg h0]
          congr 1
          omega
      rw [hif]
      clear hif hnx hla hne hle
      go_wp2
      go_ret
      exact ⟨rfl, hb⟩
end Go.Proofs.YthefieemngmnjaaGreatDoor

/- Contracts of the reference of layer 9: a name's public suffix. -/
namespace Go.Proofs.YthefieemngmnjaaGreatDoor
open Go.RowKit
set_option linter.unusedVariables false

theorem any_no' {P : List (List UInt8)} {p : List UInt8 → Bool} (h : ∀ j, j < P.length → p (P.getD j []) = false) : P.any p = false := by
  rw [Bool.eq_false_iff]
  intro c
  obtain ⟨x, hx, hp⟩ := List.any_eq_true.1 c
  obtain ⟨i, hi, rfl⟩ := List.getElem_of_mem hx
  have := h i hi
  simp only [List.getD, List.getElem?_eq_getElem hi, Option.getD_some] at this
  rw [hp] at this
  cases this

theorem any_yes' {P : List (List UInt8)} {p : List UInt8 → Bool} {k : Nat} (hk : k < P.length) (h : p (P.getD k []) = true) : P.any p = true := by
  rw [List.any_eq_true]
  refine ⟨P.getD k [], ?_, h⟩
  simp only [List.getD, List.getElem?_eq_getElem hk, Option.getD_some]
  exact List.getElem_mem _

theorem getD_mem' {P : List (List UInt8)} {k : Nat} (hk : k < P.length) : P.getD k [] ∈ P := by
  simp only [List.getD, List.getElem?_eq_getElem hk, Option.getD_some]
  exact List.getElem_mem _

set_option maxHeartbeats 2000000 in
set_option maxRecDepth 100000 in
theorem refOfC (a : Option Addr) (len cap : Nat) (R : List (List UInt8)) (l : List UInt8) (n : Nat) (w : World) (hR : IsStrs w a len cap R) (hl : l.length = n) (hnm : nameB l = true) :
    Calls Tryz.prog 40 #[.slice a len cap, .string (str l)] w fun e w' => e = .returned (.string (str (ofL R l))) ∧ Below w.heap.size w w' := by
  obtain ⟨hN, hlc, hcm, -, r1, hml⟩ := hR
  have hlm : len ≤ 9223372036854775807 := by unfold maxLen at hcm; omega
  have hn2 := name_len hnm
  rw [hl] at hn2
  have hp := labels_pos hnm
  have hK2 := splitL_le l 46
  have hK1 := splitL_pos l 46
  rw [hl] at hK2
  have HT := fun m w (h : m ≤ 1000000000) => refTailC l n m w hl (by omega) hp h
  have HCt := fun w => refCountC l n w hl (by omega)
  obtain ⟨G, hG⟩ : ∃ G, ofL R l = G := ⟨_, rfl⟩
  rw [hG]
  have HG := Lib.hid hG
  obtain ⟨K, hK⟩ : ∃ K, (splitL l 46).length = K := ⟨_, rfl⟩
  rw [hK] at hK1 hK2 HCt
  have HK := Lib.hid hK
  have HP := Lib.hid hN
  have hk := str_toList
  clear hN hl hp hK hG hnm
  go_enter Tryz.func40, Tryz.ntmps40
  go_wp2_with (go_at_call 73; (with_reducible refine (HCt _).mono ?_); rintro e w1 ⟨rfl, hx1⟩)
  go_loopw [6] (fun n wr => ∃ N : Nat, N ≤ K ∧ n = .int .i64 (N : Int) ∧ Hid (∀ m, N < m → m ≤ K → notAt R l m = false) ∧ Below w.heap.size w wr) (fun n _ => (intOf n).toNat)
  case atStart => exact ⟨K, Nat.le_refl _, rfl, fun m h1 h2 => by omega, hx1⟩
  case round =>
    obtain ⟨N, hNK, rfl, H, hb⟩ := hrel
    by_cases hN0 : 1 ≤ N
    · have hN0' : (1 : Int) ≤ (N : Int) := by omega
      have hN1 : (N : Int) - 1 = ((N - 1 : Nat) : Int) := by omega
      have HTN := fun w => HT N w (by omega)
      have HTM : ∀ w, Calls Tryz.prog 75 #[.string (str l), .int .i64 ((N : Int) - 1)] w fun e w' => e = .returned (.string (str (lastN l (N - 1)))) ∧ Below w.heap.size w w' := by
        rw [hN1]
        exact fun w => HT (N - 1) w (by omega)
      clear hN1
      go_wp2
      go_loopw [7] (fun i wr => ∃ k : Nat, k ≤ len ∧ i = .int .i64 (k : Int) ∧ Hid (∀ j, j < k → ((splitR (R.getD j [])).1 == 33 && (splitR (R.getD j [])).2 == lastN l N) = false) ∧ Below w.heap.size w wr) (fun i _ => len - (intOf i).toNat)
      case atStart => exact ⟨0, Nat.zero_le _, rfl, fun j hj => absurd hj (by omega), hb⟩
      case round =>
        clear hb
        obtain ⟨k, hk2, rfl, H2, hb⟩ := hrel
        by_cases hlt : k < len
        · have hlt' : (k : Int) < (len : Int) := by omega
          obtain ⟨g, off, rfl, hc⟩ := str_at (r1.below' hb) k (by rw [HP.out]; exact hlt)
          have HS := fun w => refRSplitC (R.getD k []) _ w rfl (hml _ (getD_mem' (by rw [HP.out]; exact hlt)))
          have HN := Lib.hid (fun (hp : ((splitR (R.getD k [])).1 == 33 && (splitR (R.getD k [])).2 == lastN l N) = false) => (fun j hj => by
            rcases Nat.lt_succ_iff_lt_or_eq.1 hj with h | rfl
            · exact H2.out j h
            · exact hp : ∀ j, j < k + 1 → ((splitR (R.getD j [])).1 == 33 && (splitR (R.getD j [])).2 == lastN l N) = false))
          have HF := Lib.hid (fun (hp : ((splitR (R.getD k [])).1 == 33 && (splitR (R.getD k [])).2 == lastN l N) = true) => (by
            have : topAt (notAt R l) K = N := topAt_is hNK (fun _ => any_yes' (by rw [HP.out]; exact hlt) hp) H.out
            rw [← HG.out]
            unfold ofL
            rw [HK.out, this, if_pos (by omega)] : G = lastN l (N - 1)))
          have hsg := splitR_sign (R.getD k [])
          clear hml HT HCt
          generalize splitR (R.getD k []) = q at *
          obtain ⟨c, own⟩ := q
          simp only [] at HS HN HF hsg
          generalize R.getD k [] = x at hc HS
          generalize lastN l N = y at *
          generalize lastN l (N - 1) = z at *
          rcases hsg with rfl | rfl | rfl
          · have HN2 := Lib.hid (HN.out rfl)
            clear HN HF
            go_wp2_with (first
              | (go_at_call 74; (with_reducible refine (HS _).mono ?_); rintro e w2 ⟨rfl, d1, rfl⟩; have hb := below_draws hb d1)
              | (go_at_call 75; (with_reducible refine (HTN _).mono ?_); rintro e w3 ⟨rfl, hx⟩; have hb := hb.trans (hx.mono hb.size); clear hx)
              | (go_at_call 75; (with_reducible refine (HTM _).mono ?_); rintro e w4 ⟨rfl, hx⟩; have hb := hb.trans (hx.mono hb.size); clear hx))
            go_roundw
            case rel => exact ⟨k + 1, by omega, by go_num, HN2.out, hb⟩
            case measure => simp [intOf]; omega
          · cases hq : (own == y) with
            | false =>
              have hq3 : ((33 : UInt8) == 33 && own == y) = false := by rw [hq]; rfl
              have HN2 := Lib.hid (HN.out hq3)
              clear HN HF
              clear hq3
              go_wp2_with (first
                | (go_at_call 74; (with_reducible refine (HS _).mono ?_); rintro e w2 ⟨rfl, d1, rfl⟩; have hb := below_draws hb d1)
                | (go_at_call 75; (with_reducible refine (HTN _).mono ?_); rintro e w3 ⟨rfl, hx⟩; have hb := hb.trans (hx.mono hb.size); clear hx)
                | (go_at_call 75; (with_reducible refine (HTM _).mono ?_); rintro e w4 ⟨rfl, hx⟩; have hb := hb.trans (hx.mono hb.size); clear hx))
              go_roundw
              case rel => exact ⟨k + 1, by omega, by go_num, HN2.out, hb⟩
              case measure => simp [intOf]; omega
            | true =>
              have hq3 : ((33 : UInt8) == 33 && own == y) = true := by rw [hq]; rfl
              have HF2 := Lib.hid (HF.out hq3)
              clear HN HF hq3
              go_wp2_with (first
                | (go_at_call 74; (with_reducible refine (HS _).mono ?_); rintro e w2 ⟨rfl, d1, rfl⟩; have hb := below_draws hb d1)
                | (go_at_call 75; (with_reducible refine (HTN _).mono ?_); rintro e w3 ⟨rfl, hx⟩; have hb := hb.trans (hx.mono hb.size); clear hx)
                | (go_at_call 75; (with_reducible refine (HTM _).mono ?_); rintro e w4 ⟨rfl, hx⟩; have hb := hb.trans (hx.mono hb.size); clear hx))
              go_ret
              exact ⟨by rw [HF2.out]; rfl, hb⟩
          · have HN2 := Lib.hid (HN.out rfl)
            clear HN HF
            go_wp2_with (first
              | (go_at_call 74; (with_reducible refine (HS _).mono ?_); rintro e w2 ⟨rfl, d1, rfl⟩; have hb := below_draws hb d1)
              | (go_at_call 75; (with_reducible refine (HTN _).mono ?_); rintro e w3 ⟨rfl, hx⟩; have hb := hb.trans (hx.mono hb.size); clear hx)
              | (go_at_call 75; (with_reducible refine (HTM _).mono ?_); rintro e w4 ⟨rfl, hx⟩; have hb := hb.trans (hx.mono hb.size); clear hx))
            go_roundw
            case rel => exact ⟨k + 1, by omega, by go_num, HN2.out, hb⟩
            case measure => simp [intOf]; omega
        · obtain rfl : k = len := by omega
          have HZ : Hid (∀ m, N - 1 < m → m ≤ K → notAt R l m = false) := fun m h1 h2 => by
            by_cases e : m = N
            · subst e
              exact any_no' (by rw [HP.out]; exact H2.out)
            · exact H.out m (by omega) h2
          have hb2 := Lib.hid hb
          clear hb
          go_wp2
          go_roundw
          case rel => exact ⟨N - 1, by omega, by congr 1; omega, HZ.out, hb2.out⟩
          case measure => simp [intOf]; omega
    · have hN0' : ¬ (1 : Int) ≤ (N : Int) := by omega
      have HZ : Hid (topAt (notAt R l) K = 0) := topAt_is (Nat.zero_le _) (fun h => absurd h (by omega)) (fun m h1 h2 => H.out m (by omega) h2)
      clear H hN0 hNK
      go_wp2
      go_loopw [10] (fun n wr => ∃ N : Nat, N ≤ K ∧ n = .int .i64 (N : Int) ∧ Hid (∀ m, N < m → m ≤ K → fitAt R l m = false) ∧ Below w.heap.size w wr) (fun n _ => (intOf n).toNat)
      case atStart => exact ⟨K, Nat.le_refl _, rfl, fun m h1 h2 => by omega, hb⟩
      case round =>
        clear hb
        obtain ⟨N, hNK, rfl, H, hb⟩ := hrel
        by_cases hN0 : 1 ≤ N
        · have hN0' : (1 : Int) ≤ (N : Int) := by omega
          have hN1 : (N : Int) - 1 = ((N - 1 : Nat) : Int) := by omega
          have HTN := fun w => HT N w (by omega)
          have HTM : ∀ w, Calls Tryz.prog 75 #[.string (str l), .int .i64 ((N : Int) - 1)] w fun e w' => e = .returned (.string (str (lastN l (N - 1)))) ∧ Below w.heap.size w w' := by
            rw [hN1]
            exact fun w => HT (N - 1) w (by omega)
          clear hN1
          go_wp2
          go_loopw [11] (fun i wr => ∃ k : Nat, k ≤ len ∧ i = .int .i64 (k : Int) ∧ Hid (∀ j, j < k → fitB (R.getD j []) l N = false) ∧ Below w.heap.size w wr) (fun i _ => len - (intOf i).toNat)
          case atStart => exact ⟨0, Nat.zero_le _, rfl, fun j hj => absurd hj (by omega), hb⟩
          case round =>
            clear hb
            obtain ⟨k, hk2, rfl, H2, hb⟩ := hrel
            by_cases hlt : k < len
            · have hlt' : (k : Int) < (len : Int) := by omega
              obtain ⟨g, off, rfl, hc⟩ := str_at (r1.below' hb) k (by rw [HP.out]; exact hlt)
              have HS := fun w => refRSplitC (R.getD k []) _ w rfl (hml _ (getD_mem' (by rw [HP.out]; exact hlt)))
              have HN := Lib.hid (fun (hp : fitB (R.getD k []) l N = false) => (fun j hj => by
                rcases Nat.lt_succ_iff_lt_or_eq.1 hj with h | rfl
                · exact H2.out j h
                · exact hp : ∀ j, j < k + 1 → fitB (R.getD j []) l N = false))
              have HF := Lib.hid (fun (hp : fitB (R.getD k []) l N = true) => (by
                have : topAt (fitAt R l) K = N := topAt_is hNK (fun _ => any_yes' (by rw [HP.out]; exact hlt) hp) H.out
                rw [← HG.out]
                unfold ofL
                rw [HK.out, HZ.out, this, if_neg (by omega), if_pos (by omega)] : G = lastN l N))
              have hsg := splitR_sign (R.getD k [])
              have hfe : fitB (R.getD k []) l N = (((splitR (R.getD k [])).1 == 0 && (splitR (R.getD k [])).2 == lastN l N) || ((splitR (R.getD k [])).1 == 42 && (decide (2 ≤ N) && (splitR (R.getD k [])).2 == lastN l (N - 1)))) := rfl
              generalize fitB (R.getD k []) l N = bb at HN HF hfe
              clear hml HT HCt
              generalize splitR (R.getD k []) = q at *
              obtain ⟨c, own⟩ := q
              simp only [] at HS HN HF hsg hfe
              generalize R.getD k [] = x at hc HS
              generalize lastN l N = y at *
              generalize lastN l (N - 1) = z at *
              rcases hsg with rfl | rfl | rfl
              · cases hq : (own == y) with
                | false =>
                  have hq3 : bb = false := by rw [hfe, hq]; rfl
                  have HN2 := Lib.hid (HN.out hq3)
                  clear HN HF
                  clear hq3
                  go_wp2_with (first
                    | (go_at_call 74; (with_reducible refine (HS _).mono ?_); rintro e w2 ⟨rfl, d1, rfl⟩; have hb := below_draws hb d1)
                    | (go_at_call 75; (with_reducible refine (HTN _).mono ?_); rintro e w3 ⟨rfl, hx⟩; have hb := hb.trans (hx.mono hb.size); clear hx)
                    | (go_at_call 75; (with_reducible refine (HTM _).mono ?_); rintro e w4 ⟨rfl, hx⟩; have hb := hb.trans (hx.mono hb.size); clear hx))
                  go_roundw
                  case rel => exact ⟨k + 1, by omega, by go_num, HN2.out, hb⟩
                  case measure => simp [intOf]; omega
                | true =>
                  have hq3 : bb = true := by rw [hfe, hq]; rfl
                  have HF2 := Lib.hid (HF.out hq3)
                  clear HN HF hq3
                  go_wp2_with (first
                    | (go_at_call 74; (with_reducible refine (HS _).mono ?_); rintro e w2 ⟨rfl, d1, rfl⟩; have hb := below_draws hb d1)
                    | (go_at_call 75; (with_reducible refine (HTN _).mono ?_); rintro e w3 ⟨rfl, hx⟩; have hb := hb.trans (hx.mono hb.size); clear hx)
                    | (go_at_call 75; (with_reducible refine (HTM _).mono ?_); rintro e w4 ⟨rfl, hx⟩; have hb := hb.trans (hx.mono hb.size); clear hx))
                  go_ret
                  exact ⟨by rw [HF2.out]; rfl, hb⟩
              · have HN2 := Lib.hid (HN.out (by rw [hfe]; rfl))
                clear HN HF
                go_wp2_with (first
                  | (go_at_call 74; (with_reducible refine (HS _).mono ?_); rintro e w2 ⟨rfl, d1, rfl⟩; have hb := below_draws hb d1)
                  | (go_at_call 75; (with_reducible refine (HTN _).mono ?_); rintro e w3 ⟨rfl, hx⟩; have hb := hb.trans (hx.mono hb.size); clear hx)
                  | (go_at_call 75; (with_reducible refine (HTM _).mono ?_); rintro e w4 ⟨rfl, hx⟩; have hb := hb.trans (hx.mono hb.size); clear hx))
                go_roundw
                case rel => exact ⟨k + 1, by omega, by go_num, HN2.out, hb⟩
                case measure => simp [intOf]; omega
              · by_cases h2 : 2 ≤ N
                · have h2' : (2 : Int) ≤ (N : Int) := by omega
                  cases hq : (own == z) with
                  | false =>
                    have hq3 : bb = false := by rw [hfe, hq, decide_eq_true h2]; rfl
                    have HN2 := Lib.hid (HN.out hq3)
                    clear HN HF
                    clear hq3
                    go_wp2_with (first
                      | (go_at_call 74; (with_reducible refine (HS _).mono ?_); rintro e w2 ⟨rfl, d1, rfl⟩; have hb := below_draws hb d1)
                      | (go_at_call 75; (with_reducible refine (HTN _).mono ?_); rintro e w3 ⟨rfl, hx⟩; have hb := hb.trans (hx.mono hb.size); clear hx)
                      | (go_at_call 75; (with_reducible refine (HTM _).mono ?_); rintro e w4 ⟨rfl, hx⟩; have hb := hb.trans (hx.mono hb.size); clear hx))
                    go_roundw
                    case rel => exact ⟨k + 1, by omega, by go_num, HN2.out, hb⟩
                    case measure => simp [intOf]; omega
                  | true =>
                    have hq3 : bb = true := by rw [hfe, hq, decide_eq_true h2]; rfl
                    have HF2 := Lib.hid (HF.out hq3)
                    clear HN HF hq3
                    go_wp2_with (first
                      | (go_at_call 74; (with_reducible refine (HS _).mono ?_); rintro e w2 ⟨rfl, d1, rfl⟩; have hb := below_draws hb d1)
                      | (go_at_call 75; (with_reducible refine (HTN _).mono ?_); rintro e w3 ⟨rfl, hx⟩; have hb := hb.trans (hx.mono hb.size); clear hx)
                      | (go_at_call 75; (with_reducible refine (HTM _).mono ?_); rintro e w4 ⟨rfl, hx⟩; have hb := hb.trans (hx.mono hb.size); clear hx))
                    go_ret
                    exact ⟨by rw [HF2.out]; rfl, hb⟩
                · have h2' : ¬ (2 : Int) ≤ (N : Int) := by omega
                  have hq3 : bb = false := by rw [hfe, decide_eq_false h2]; rfl
                  have HN2 := Lib.hid (HN.out hq3)
                  clear HN HF
                  clear hq3
                  go_wp2_with (first
                    | (go_at_call 74; (with_reducible refine (HS _).mono ?_); rintro e w2 ⟨rfl, d1, rfl⟩; have hb := below_draws hb d1)
                    | (go_at_call 75; (with_reducible refine (HTN _).mono ?_); rintro e w3 ⟨rfl, hx⟩; have hb := hb.trans (hx.mono hb.size); clear hx)
                    | (go_at_call 75; (with_reducible refine (HTM _).mono ?_); rintro e w4 ⟨rfl, hx⟩; have hb := hb.trans (hx.mono hb.size); clear hx))
                  go_roundw
                  case rel => exact ⟨k + 1, by omega, by go_num, HN2.out, hb⟩
                  case measure => simp [intOf]; omega
            · obtain rfl : k = len := by omega
              have HZ2 : Hid (∀ m, N - 1 < m → m ≤ K → fitAt R l m = false) := fun m h1 h2 => by
                by_cases e : m = N
                · subst e
                  exact any_no' (by rw [HP.out]; exact H2.out)
                · exact H.out m (by omega) h2
              have hb2 := Lib.hid hb
              clear hb
              go_wp2
              go_roundw
              case rel => exact ⟨N - 1, by omega, by congr 1; omega, HZ2.out, hb2.out⟩
              case measure => simp [intOf]; omega
        · obtain rfl : N = 0 := by omega
          have HZ2 : Hid (topAt (fitAt R l) K = 0) := topAt_is (Nat.zero_le _) (fun h => absurd h (by omega)) H.out
          have HF2 : Hid (G = lastN l 1) := by
            unfold Hid
            rw [← HG.out]
            unfold ofL
            rw [HK.out, HZ.out, HZ2.out, if_neg (by omega), if_neg (by omega)]
          have HT1 : ∀ w, Calls Tryz.prog 75 #[.string (str l), .int .i64 1] w fun e w' => e = .returned (.string (str (lastN l 1))) ∧ Below w.heap.size w w' := fun w => HT 1 w (by omega)
          clear H hml
          go_wp2_with (go_at_call 75; (with_reducible refine (HT1 _).mono ?_); rintro e w4 ⟨rfl, hx⟩; have hb := hb.trans (hx.mono hb.size); clear hx)
          go_ret
          exact ⟨by rw [HF2.out]; rfl, hb⟩
end Go.Proofs.YthefieemngmnjaaGreatDoor
