/- How a public suffix is found by the program: rules, parted, and the most labels of those that fit. No program in it. -/
import Derived.Test.YtgibhpljlebcdaaDoorSuffixPlain2
import Derived.Lib.Join
import Derived.Lib.LastIndexByte
namespace Go.Proofs.YtgibhpljlebcdaaDoor
open Go.RowKit
set_option linter.unusedVariables false

/-- A rule, parted: its kind (0, 1: any, 2: not), its name, and how many labels. -/
structure RuleK where
  kind : Int
  name : List UInt8
  labels : Int

def countN (l : List UInt8) : Nat := if nameB l = true then (splitL l 46).length else 0

def ruleK (s : List UInt8) : RuleK :=
  if Lib.hasPrefix s [42, 46] = true then ⟨1, s.drop 2, 1 + (countN (s.drop 2) : Int)⟩ else if Lib.hasPrefix s [33] = true then ⟨2, s.drop 1, -1 + (countN (s.drop 1) : Int)⟩ else ⟨0, s, (countN s : Int)⟩

def okK (s : List UInt8) : Bool := decide (0 < countN (ruleK s).name) && decide (0 < (ruleK s).labels)

theorem count_nil : countN [] = 0 := rfl

theorem count_pos (l : List UInt8) : decide (0 < countN l) = nameB l := by
  unfold countN
  have := splitL_pos l 46
  cases h : nameB l <;> simp
  omega

theorem pre_one (s : List UInt8) : Lib.hasPrefix s [33] = decide (1 ≤ s.length ∧ s.getD 0 0 = 33) := by
  cases s with
  | nil => rfl
  | cons x t =>
    unfold Lib.hasPrefix
    rw [Bool.eq_iff_iff, decide_eq_true_iff, List.isPrefixOf_iff_prefix]
    simp [List.getD, eq_comm]

theorem pre_two (s : List UInt8) : Lib.hasPrefix s [42, 46] = decide (s.take 2 = [42, 46]) := by
  unfold Lib.hasPrefix
  rw [Bool.eq_iff_iff, decide_eq_true_iff, List.isPrefixOf_iff_prefix]
  constructor
  · rintro ⟨r, rfl⟩; rfl
  · intro h
    exact ⟨s.drop 2, by rw [← h, List.take_append_drop]⟩

theorem star_no : nameB [42, 46] = false := by decide

/-- A text that is a rule, by its sign. -/
theorem rule_cases {s : List UInt8} (h : ruleB s = true) : ∃ nm, nameB nm = true ∧
    ((splitR s = (0, nm) ∧ ruleK s = ⟨0, nm, ((splitL nm 46).length : Int)⟩) ∨
     (splitR s = (42, nm) ∧ ruleK s = ⟨1, nm, 1 + ((splitL nm 46).length : Int)⟩) ∨
     (splitR s = (33, nm) ∧ 2 ≤ (splitL nm 46).length ∧ ruleK s = ⟨2, nm, -1 + ((splitL nm 46).length : Int)⟩)) := by
  unfold ruleB at h
  rw [Bool.and_eq_true] at h
  obtain ⟨h1, h2⟩ := h
  unfold ruleK
  rw [pre_one, pre_two]
  by_cases e : s.take 2 = [42, 46]
  · by_cases e2 : 2 < s.length
    · have es : splitR s = (42, s.drop 2) := by unfold splitR; rw [if_pos ⟨e2, e⟩]
      rw [es] at h1
      refine ⟨s.drop 2, h1, .inr (.inl ⟨es, ?_⟩)⟩
      rw [if_pos (by simpa using e)]
      unfold countN
      rw [if_pos h1]
    · have el : s = [42, 46] := by rw [← e, List.take_of_length_le (by omega)]
      subst el
      exact absurd h1 (by decide)
  · rw [if_neg (by simpa using e)]
    by_cases e2 : 1 < s.length ∧ s.getD 0 0 = 33
    · have es : splitR s = (33, s.drop 1) := by unfold splitR; rw [if_neg (by simp [e]), if_pos e2]
      rw [es] at h1 h2
      have h3 : hasDot (s.drop 1) = true := by simpa using h2
      rw [dot_two, decide_eq_true_iff] at h3
      refine ⟨s.drop 1, h1, .inr (.inr ⟨es, h3, ?_⟩)⟩
      rw [if_pos (decide_eq_true ⟨by omega, e2.2⟩)]
      unfold countN
      rw [if_pos h1]
    · have es : splitR s = (0, s) := by unfold splitR; rw [if_neg (by simp [e]), if_neg e2]
      rw [es] at h1
      refine ⟨s, h1, .inl ⟨es, ?_⟩⟩
      have : ¬ (1 ≤ s.length ∧ s.getD 0 0 = 33) := by
        rintro ⟨a, b⟩
        have hl : s.length = 1 := by
          by_cases c : 1 < s.length
          · exact absurd ⟨c, b⟩ e2
          · omega
        match s, hl with
        | [x], _ =>
          have : x = 33 := b
          subst this
          exact absurd h1 (by decide)
      rw [if_neg (by simpa using this)]
      unfold countN
      rw [if_pos h1]

theorem ok_rule (s : List UInt8) : okK s = ruleB s := by
  cases h : ruleB s with
  | true =>
    obtain ⟨nm, hn, ⟨-, e⟩ | ⟨-, e⟩ | ⟨-, h2, e⟩⟩ := rule_cases h <;>
    · unfold okK
      rw [e]
      have := splitL_pos nm 46
      simp only [count_pos, hn, Bool.true_and, decide_eq_true_iff]
      omega
  | false =>
    rw [Bool.eq_false_iff]
    intro c
    unfold okK at c
    rw [Bool.and_eq_true, count_pos] at c
    obtain ⟨c1, c2⟩ := c
    rw [decide_eq_true_iff] at c2
    rw [← Bool.not_eq_true] at h
    apply h
    unfold ruleB splitR
    unfold ruleK at c1 c2
    rw [pre_one, pre_two] at c1 c2
    by_cases e : s.take 2 = [42, 46]
    · rw [if_pos (by simpa using e)] at c1 c2
      by_cases e2 : 2 < s.length
      · rw [if_pos ⟨e2, e⟩]
        simp only [c1]
        rfl
      · exfalso
        have : s.drop 2 = [] := List.drop_eq_nil_of_le (by omega)
        rw [this] at c1
        exact absurd c1 (by decide)
    · rw [if_neg (by simpa using e)] at c1 c2
      rw [if_neg (by simp [e])]
      by_cases e2 : 1 ≤ s.length ∧ s.getD 0 0 = 33
      · rw [if_pos (decide_eq_true e2)] at c1 c2
        have hl : 1 < s.length := by
          by_cases c : 1 < s.length
          · exact c
          · exfalso
            have : s.drop 1 = [] := List.drop_eq_nil_of_le (by omega)
            rw [this] at c1
            exact absurd c1 (by decide)
        rw [if_pos ⟨hl, e2.2⟩]
        simp only [c1, Bool.true_and]
        simp only [countN, c1, if_true] at c2
        rw [dot_two, decide_eq_true (by omega)]
        decide
      · rw [if_neg (by simpa using e2)] at c1
        rw [if_neg (fun x => e2 ⟨by omega, x.2⟩)]
        simp only [c1]
        rfl

/-- Whatever stands around a dot. -/
theorem split_app (d : List UInt8) : ∀ (n : Nat) (p : List UInt8), p.length ≤ n → splitL (p ++ 46 :: d) 46 = splitL p 46 ++ splitL d 46
  | n, p, hn => by
    by_cases h : (46 : UInt8) ∈ p
    · obtain ⟨x, r, rfl, hx⟩ := List.eq_append_cons_of_mem h
      have hx' : ∀ y ∈ x, (y == 46) = false := fun y hy => beq_eq_false_iff_ne.2 fun e => hx (e ▸ hy)
      match n, hn with
      | n + 1, hn =>
        rw [List.append_assoc, List.cons_append, split_cons x _ 46 hx', split_cons x _ 46 hx', split_app d n r (by simp at hn; omega), List.cons_append]
      | 0, hn => simp at hn
    · have hx' : ∀ y ∈ p, (y == 46) = false := fun y hy => beq_eq_false_iff_ne.2 fun e => h (e ▸ hy)
      rw [split_cons p _ 46 hx', split_one p 46 hx', List.singleton_append]

theorem suffix_yes {s d : List UInt8} : Lib.hasSuffix s d = true ↔ ∃ p, s = p ++ d := by
  unfold Lib.hasSuffix
  rw [List.isSuffixOf_iff_suffix]
  exact ⟨fun ⟨p, h⟩ => ⟨p, h.symm⟩, fun ⟨p, h⟩ => ⟨p, h.symm⟩⟩

theorem trim_app (p d : List UInt8) : Lib.trimSuffix (p ++ d) d = p := by
  unfold Lib.trimSuffix
  rw [if_pos (suffix_yes.2 ⟨p, rfl⟩)]
  simp

/-- A name that ends with a point and a text has that text for its last labels. -/
theorem last_app {p d : List UInt8} : lastN (p ++ 46 :: d) (splitL d 46).length = d ∧ (splitL d 46).length + 1 ≤ (splitL (p ++ 46 :: d) 46).length := by
  have h := split_app d p.length p (Nat.le_refl _)
  have h1 := splitL_pos p 46
  have h2 := splitL_pos d 46
  constructor
  · unfold lastN tailL
    rw [if_neg (by omega), h, List.length_append, Nat.add_sub_cancel, List.drop_left, joinL_all]
  · rw [h, List.length_append]; omega

theorem ends_last {s d : List UInt8} : (Lib.hasSuffix s d = true ∧ Lib.hasSuffix (Lib.trimSuffix s d) [46] = true) ↔ ((splitL d 46).length + 1 ≤ (splitL s 46).length ∧ d = lastN s (splitL d 46).length) := by
  have h2 := splitL_pos d 46
  constructor
  · rintro ⟨a, b⟩
    obtain ⟨p, rfl⟩ := suffix_yes.1 a
    rw [trim_app] at b
    obtain ⟨q, rfl⟩ := suffix_yes.1 b
    rw [List.append_assoc, List.singleton_append]
    exact ⟨last_app.2, last_app.1.symm⟩
  · rintro ⟨a, b⟩
    have hb := tail_below (s := s) ((splitL s 46).length - (splitL d 46).length) (by omega) (by omega)
    unfold lastN at b
    rw [if_neg (by omega)] at b
    rw [← b, below_suffix] at hb
    obtain ⟨p, rfl⟩ := suffix_yes.1 hb
    have e : p ++ 46 :: d = (p ++ [46]) ++ d := by simp
    rw [e, trim_app]
    exact ⟨suffix_yes.2 ⟨_, rfl⟩, suffix_yes.2 ⟨p, rfl⟩⟩

theorem is_last {s d : List UInt8} : (Lib.hasSuffix s d = true ∧ Lib.trimSuffix s d = []) ↔ s = d := by
  constructor
  · rintro ⟨a, b⟩
    obtain ⟨p, rfl⟩ := suffix_yes.1 a
    rw [trim_app] at b
    rw [b]; rfl
  · rintro rfl
    exact ⟨suffix_yes.2 ⟨[], rfl⟩, trim_app [] s⟩

/-- Does a rule fit a name? -/
def fitsK (q : RuleK) (s : List UInt8) : Bool := Lib.hasSuffix s q.name && (Lib.hasSuffix (Lib.trimSuffix s q.name) [46] || (Lib.trimSuffix s q.name == [] && !(q.kind == 1)))

theorem fits_any (q : RuleK) (s : List UInt8) (h : q.kind = 1) : fitsK q s = true ↔ ((splitL q.name 46).length + 1 ≤ (splitL s 46).length ∧ q.name = lastN s (splitL q.name 46).length) := by
  rw [← ends_last]
  unfold fitsK
  rw [h]
  simp

theorem fits_else (q : RuleK) (s : List UInt8) (h : q.kind ≠ 1) : fitsK q s = true ↔ ((splitL q.name 46).length ≤ (splitL s 46).length ∧ q.name = lastN s (splitL q.name 46).length) := by
  have e : fitsK q s = true ↔ ((Lib.hasSuffix s q.name = true ∧ Lib.hasSuffix (Lib.trimSuffix s q.name) [46] = true) ∨ (Lib.hasSuffix s q.name = true ∧ Lib.trimSuffix s q.name = [])) := by
    unfold fitsK
    rw [beq_eq_false_iff_ne.2 h]
    simp only [Bool.not_false, Bool.and_true, Bool.and_eq_true, Bool.or_eq_true, beq_iff_eq, and_or_left]
  rw [e, ends_last, is_last]
  constructor
  · rintro (⟨a, b⟩ | rfl)
    · exact ⟨by omega, b⟩
    · exact ⟨Nat.le_refl _, (last_all q.name).symm⟩
  · rintro ⟨a, b⟩
    by_cases c : (splitL q.name 46).length = (splitL s 46).length
    · rw [c, last_all] at b
      exact .inr b.symm
    · exact .inl ⟨by omega, b⟩

/-- The most labels of those rules that are (not) not rules, and fit. -/
def condK (b : Bool) (s : List UInt8) (q : RuleK) : Bool := ((q.kind == 2) == b) && fitsK q s
def mostK (Q : List RuleK) (b : Bool) (s : List UInt8) : Int := Q.foldl (fun m q => if condK b s q = true then max m q.labels else m) 0

theorem most_take {Q : List RuleK} {b : Bool} {s : List UInt8} {k : Nat} (hk : k < Q.length) : mostK (Q.take (k + 1)) b s = if condK b s Q[k] = true then max (mostK (Q.take k) b s) Q[k].labels else mostK (Q.take k) b s := by
  unfold mostK
  rw [List.take_succ_eq_append_getElem hk, List.foldl_append]
  rfl

theorem fold_is (b : Bool) (s : List UInt8) : ∀ (Q : List RuleK) (m : Int), m ≤ Q.foldl (fun m q => if condK b s q = true then max m q.labels else m) m ∧ (∀ q ∈ Q, condK b s q = true → q.labels ≤ Q.foldl (fun m q => if condK b s q = true then max m q.labels else m) m) ∧
    (Q.foldl (fun m q => if condK b s q = true then max m q.labels else m) m = m ∨ ∃ q ∈ Q, condK b s q = true ∧ q.labels = Q.foldl (fun m q => if condK b s q = true then max m q.labels else m) m)
  | [], m => ⟨Int.le_refl _, fun q h => absurd h (by simp), .inl rfl⟩
  | q :: Q, m => by
    obtain ⟨h1, h2, h3⟩ := fold_is b s Q (if condK b s q = true then max m q.labels else m)
    rw [List.foldl_cons]
    generalize Q.foldl (fun m q => if condK b s q = true then max m q.labels else m) (if condK b s q = true then max m q.labels else m) = x at *
    refine ⟨?_, ?_, ?_⟩
    · split at h1 <;> omega
    · intro y hy hc
      rcases List.mem_cons.1 hy with rfl | hy
      · rw [if_pos hc] at h1; omega
      · exact h2 y hy hc
    · rcases h3 with h3 | ⟨y, hy, hc, e⟩
      · split at h3
        · rename_i hc
          by_cases hm : m < q.labels
          · exact .inr ⟨q, List.mem_cons_self, hc, by omega⟩
          · exact .inl (by omega)
        · exact .inl h3
      · exact .inr ⟨y, List.mem_cons_of_mem _ hy, hc, e⟩

theorem most_is (Q : List RuleK) (b : Bool) (s : List UInt8) : 0 ≤ mostK Q b s ∧ (∀ q ∈ Q, condK b s q = true → q.labels ≤ mostK Q b s) ∧ (mostK Q b s = 0 ∨ ∃ q ∈ Q, condK b s q = true ∧ q.labels = mostK Q b s) := fold_is b s Q 0

def pubK (Q : List RuleK) (s : List UInt8) : Int := if 0 < mostK Q true s then mostK Q true s else max (mostK Q false s) 1

/-- What is found is the public suffix. -/
theorem of_pub {R : List (List UInt8)} {s : List UInt8} (hR : R.all ruleB = true) (hs : nameB s = true) :
    ∃ n : Nat, pubK (R.map ruleK) s = (n : Int) ∧ 1 ≤ n ∧ n ≤ (splitL s 46).length ∧ ofL R s = lastN s n := by
  have hall := (name_labels hs).2.2
  have hK := splitL_pos s 46
  have hcnt := fun m h1 h2 => last_count hall (m := m) h1 h2
  obtain ⟨a0, a1, a2⟩ := most_is (R.map ruleK) true s
  obtain ⟨b0, b1, b2⟩ := most_is (R.map ruleK) false s
  unfold pubK ofL
  generalize mostK (R.map ruleK) true s = A at *
  generalize mostK (R.map ruleK) false s = B at *
  obtain ⟨n, rfl⟩ := Int.eq_ofNat_of_zero_le a0
  obtain ⟨m, rfl⟩ := Int.eq_ofNat_of_zero_le b0
  have hrules := fun r hr => rule_cases (List.all_eq_true.1 hR r hr)
  have hN : ∀ k, 1 ≤ k → k ≤ (splitL s 46).length → notAt R s k = true → (k : Int) - 1 ≤ n ∧ 2 ≤ k := by
    intro k hk1 hk2 hk
    unfold notAt at hk
    obtain ⟨r, hr, hp⟩ := List.any_eq_true.1 hk
    rw [Bool.and_eq_true, beq_iff_eq, beq_iff_eq] at hp
    obtain ⟨nm, hnm, ⟨e, -⟩ | ⟨e, -⟩ | ⟨e, h2, e2⟩⟩ := hrules r hr
    · rw [e] at hp; dsimp only at hp; exact absurd hp.1 (by decide)
    · rw [e] at hp; dsimp only at hp; exact absurd hp.1 (by decide)
    · rw [e] at hp; dsimp only at hp
      have hl : (splitL nm 46).length = k := by rw [hp.2]; exact hcnt k hk1 hk2
      have := a1 (ruleK r) (List.mem_map_of_mem hr) (by
        unfold condK
        rw [Bool.and_eq_true]
        refine ⟨by rw [e2]; rfl, (fits_else _ s (by rw [e2]; exact (by decide : (2 : Int) ≠ 1))).2 ?_⟩
        rw [e2]
        simp only []
        rw [hl]
        exact ⟨hk2, hp.2⟩)
      rw [e2] at this
      simp only [] at this
      omega
  have hF : ∀ k, 1 ≤ k → k ≤ (splitL s 46).length → fitAt R s k = true → (k : Int) ≤ m := by
    intro k hk1 hk2 hk
    unfold fitAt at hk
    obtain ⟨r, hr, hp⟩ := List.any_eq_true.1 hk
    unfold fitB at hp
    simp only [Bool.or_eq_true, Bool.and_eq_true, beq_iff_eq, decide_eq_true_iff] at hp
    obtain ⟨nm, hnm, ⟨e, e2⟩ | ⟨e, e2⟩ | ⟨e, h2, e2⟩⟩ := hrules r hr
    · rw [e] at hp; dsimp only at hp
      have hp2 : nm = lastN s k := by
        rcases hp with hp | hp
        · exact hp.2
        · exact absurd hp.1 (by decide)
      have hl : (splitL nm 46).length = k := by rw [hp2]; exact hcnt k hk1 hk2
      have := b1 (ruleK r) (List.mem_map_of_mem hr) (by
        unfold condK
        rw [Bool.and_eq_true]
        refine ⟨by rw [e2]; rfl, (fits_else _ s (by rw [e2]; exact (by decide : (0 : Int) ≠ 1))).2 ?_⟩
        rw [e2]
        simp only []
        rw [hl]
        exact ⟨hk2, hp2⟩)
      rw [e2] at this
      simp only [] at this
      omega
    · rw [e] at hp; dsimp only at hp
      have hp2 : 2 ≤ k ∧ nm = lastN s (k - 1) := by
        rcases hp with hp | hp
        · exact absurd hp.1 (by decide)
        · exact hp.2
      have hl : (splitL nm 46).length = k - 1 := by rw [hp2.2]; exact hcnt (k - 1) (by omega) (by omega)
      have := b1 (ruleK r) (List.mem_map_of_mem hr) (by
        unfold condK
        rw [Bool.and_eq_true]
        refine ⟨by rw [e2]; rfl, (fits_any _ s (by rw [e2])).2 ?_⟩
        rw [e2]
        simp only []
        rw [hl]
        exact ⟨by omega, hp2.2⟩)
      rw [e2] at this
      simp only [] at this
      omega
    · rw [e] at hp; dsimp only at hp
      rcases hp with hp | hp
      · exact absurd hp.1 (by decide)
      · exact absurd hp.1 (by decide)
  have hN0 : 0 < n → n + 1 ≤ (splitL s 46).length ∧ notAt R s (n + 1) = true := by
    intro hn
    rcases a2 with h | ⟨q, hq, hc, hl⟩
    · omega
    · obtain ⟨r, hr, rfl⟩ := List.mem_map.1 hq
      unfold condK at hc
      rw [Bool.and_eq_true, beq_iff_eq] at hc
      obtain ⟨hc1, hc2⟩ := hc
      obtain ⟨nm, hnm, ⟨e, e2⟩ | ⟨e, e2⟩ | ⟨e, h2, e2⟩⟩ := hrules r hr
      · rw [e2] at hc1; dsimp only at hc1; exact absurd hc1 (by decide)
      · rw [e2] at hc1; dsimp only at hc1; exact absurd hc1 (by decide)
      · have := (fits_else _ s (by rw [e2]; exact (by decide : (2 : Int) ≠ 1))).1 hc2
        rw [e2] at this hl
        simp only [] at this hl
        have el : (splitL nm 46).length = n + 1 := by omega
        rw [el] at this
        refine ⟨this.1, ?_⟩
        unfold notAt
        rw [List.any_eq_true]
        refine ⟨r, hr, ?_⟩
        rw [e, ← this.2]
        simp
  have hF0 : 0 < m → m ≤ (splitL s 46).length ∧ fitAt R s m = true := by
    intro hm
    rcases b2 with h | ⟨q, hq, hc, hl⟩
    · omega
    · obtain ⟨r, hr, rfl⟩ := List.mem_map.1 hq
      unfold condK at hc
      rw [Bool.and_eq_true, beq_iff_eq] at hc
      obtain ⟨hc1, hc2⟩ := hc
      obtain ⟨nm, hnm, ⟨e, e2⟩ | ⟨e, e2⟩ | ⟨e, h2, e2⟩⟩ := hrules r hr
      · have := (fits_else _ s (by rw [e2]; exact (by decide : (0 : Int) ≠ 1))).1 hc2
        rw [e2] at this hl
        simp only [] at this hl
        have el : (splitL nm 46).length = m := by omega
        rw [el] at this
        refine ⟨this.1, ?_⟩
        unfold fitAt fitB
        rw [List.any_eq_true]
        refine ⟨r, hr, ?_⟩
        rw [e, ← this.2]
        simp
      · have := (fits_any _ s (by rw [e2])).1 hc2
        rw [e2] at this hl
        simp only [] at this hl
        have h1 := splitL_pos nm 46
        have el : (splitL nm 46).length = m - 1 := by omega
        rw [el] at this
        refine ⟨by omega, ?_⟩
        unfold fitAt fitB
        rw [List.any_eq_true]
        refine ⟨r, hr, ?_⟩
        rw [e, ← this.2]
        simp
        omega
      · rw [e2] at hc1; dsimp only at hc1; exact absurd hc1 (by decide)
  by_cases hn : 0 < n
  · obtain ⟨h1, h2⟩ := hN0 hn
    have ht : topAt (notAt R s) (splitL s 46).length = n + 1 := topAt_is h1 (fun _ => h2) fun k k1 k2 => by
      rw [Bool.eq_false_iff]
      intro c
      have := hN k (by omega) k2 c
      omega
    rw [ht, if_pos (by omega), if_pos (by omega)]
    exact ⟨n, rfl, by omega, by omega, rfl⟩
  · have ht : topAt (notAt R s) (splitL s 46).length = 0 := topAt_is (Nat.zero_le _) (fun h => absurd h (by omega)) fun k k1 k2 => by
      rw [Bool.eq_false_iff]
      intro c
      have := hN k (by omega) k2 c
      omega
    rw [ht, if_neg (by omega), if_neg (by omega)]
    by_cases hm : 0 < m
    · obtain ⟨h1, h2⟩ := hF0 hm
      have hu : topAt (fitAt R s) (splitL s 46).length = m := topAt_is h1 (fun _ => h2) fun k k1 k2 => by
        rw [Bool.eq_false_iff]
        intro c
        have := hF k (by omega) k2 c
        omega
      rw [hu, if_pos hm]
      exact ⟨m, by omega, by omega, h1, rfl⟩
    · have hu : topAt (fitAt R s) (splitL s 46).length = 0 := topAt_is (Nat.zero_le _) (fun h => absurd h (by omega)) fun k k1 k2 => by
        rw [Bool.eq_false_iff]
        intro c
        have := hF k (by omega) k2 c
        omega
      rw [hu, if_neg (by omega)]
      exact ⟨1, by omega, by omega, by omega, rfl⟩

theorem lib_join : ∀ P : List (List UInt8), Lib.join P [46] = joinL 46 P
  | [] => rfl
  | [x] => Lib.join_one x _
  | x :: y :: r => by
    have := lib_join (y :: r)
    unfold joinL
    rw [← this]
    unfold Lib.join
    simp [List.intercalate]

/-- The place behind a name's last point. -/
theorem last_dot {l : List UInt8} : ∀ k, k ≤ l.length → ((Lib.lastIdx (str l) 46 k = -1 ∧ ∀ y ∈ l.take k, (y == 46) = false) ∨ ∃ p x, l.take k = p ++ 46 :: x ∧ (∀ y ∈ x, (y == 46) = false) ∧ Lib.lastIdx (str l) 46 k = (p.length : Int))
  | 0, _ => .inl ⟨rfl, fun y h => absurd h (by simp)⟩
  | k + 1, hk => by
    have hg : ((str l).data[k]!).toNat = (l[k]'(by omega)).toNat := by
      have : (str l).data = l.toArray := rfl
      rw [this]
      simp [show k < l.length by omega]
    have ht : l.take (k + 1) = l.take k ++ [l[k]'(by omega)] := List.take_succ_eq_append_getElem (by omega)
    unfold Lib.lastIdx
    by_cases h : ((str l).data[k]!).toNat = (46 : Int)
    · rw [if_pos h]
      have e : l[k]'(by omega) = 46 := by
        rw [hg] at h
        exact UInt8.toNat.inj (by have : (46 : UInt8).toNat = 46 := rfl; omega)
      refine .inr ⟨l.take k, [], by rw [ht, e], fun y h => absurd h (by simp), ?_⟩
      rw [List.length_take, Nat.min_eq_left (by omega)]
    · rw [if_neg h]
      have e : (l[k]'(by omega) == 46) = false := by
        rw [beq_eq_false_iff_ne]
        intro c
        rw [hg, c] at h
        exact h (by decide)
      rcases last_dot (l := l) k (by omega) with ⟨h1, h2⟩ | ⟨p, x, h1, h2, h3⟩
      · refine .inl ⟨h1, fun y hy => ?_⟩
        rw [ht] at hy
        rcases List.mem_append.1 hy with hy | hy
        · exact h2 y hy
        · rw [List.mem_singleton.1 hy]; exact e
      · refine .inr ⟨p, x ++ [l[k]'(by omega)], by rw [ht, h1]; simp, fun y hy => ?_, h3⟩
        rcases List.mem_append.1 hy with hy | hy
        · exact h2 y hy
        · rw [List.mem_singleton.1 hy]; exact e

/-- What is a name's own: from behind the last point ahead of its public suffix. -/
theorem own_cut {s : List UInt8} {j : Nat} (h1 : 1 ≤ j) (h2 : j + 1 ≤ (splitL s 46).length) (h3 : (splitL s 46).all labelB = true) :
    ∃ k : Nat, Lib.lastIndexByte (str (Lib.trimSuffix s (46 :: lastN s j))) 46 + 1 = (k : Int) ∧ k ≤ s.length ∧ s.drop k = lastN s (j + 1) := by
  have hb := tail_below (s := s) ((splitL s 46).length - j) (by omega) (by omega)
  have e0 : tailL s ((splitL s 46).length - j) = lastN s j := by unfold lastN; rw [if_neg (by omega)]
  rw [e0, below_suffix] at hb
  have hnx := last_next h1 h2
  generalize hd : lastN s j = d at *
  obtain ⟨f, rfl⟩ := suffix_yes.1 hb
  rw [trim_app]
  have hsp := split_app d f.length f (Nat.le_refl _)
  have hdl : (splitL d 46).length = j := by
    rw [← hd]
    exact last_count h3 h1 (by omega)
  have hsz : (str f).size = f.length := str_size f
  unfold Lib.lastIndexByte
  rw [hsz, hnx]
  rw [hsp] at h2 ⊢
  have el : (splitL f 46 ++ splitL d 46).length = (splitL f 46).length + j := by rw [List.length_append, hdl]
  rw [el] at h2 ⊢
  rcases last_dot (l := f) f.length (Nat.le_refl _) with ⟨a, b⟩ | ⟨p, x, a, b, c⟩
  · rw [List.take_length] at b
    have ef := split_one f 46 b
    rw [ef]
    refine ⟨0, by rw [a]; rfl, Nat.zero_le _, ?_⟩
    have e1 : [f].length + j - (j + 1) = 0 := by rw [List.length_singleton]; omega
    have e2 : [f].length + j = 1 + j := by rw [List.length_singleton]
    first
      | rw [e1]
      | (have e3 : (splitL f 46).length + j - (j + 1) = 0 := by rw [ef]; exact e1
         rw [e3])
    simp [List.getD]
  · rw [List.take_length] at a
    subst a
    have ef := split_app x p.length p (Nat.le_refl _)
    rw [split_one x 46 b] at ef
    rw [ef]
    refine ⟨p.length + 1, by rw [c]; rfl, by simp, ?_⟩
    have e1 : (splitL p 46 ++ [x]).length + j - (j + 1) = (splitL p 46).length := by rw [List.length_append, List.length_singleton]; omega
    rw [e1]
    have e2 : (p ++ 46 :: x ++ 46 :: d) = (p ++ [46]) ++ (x ++ 46 :: d) := by simp
    have e3 : p.length + 1 = (p ++ [46]).length := by simp
    rw [e2, e3, List.drop_left]
    simp [List.getD]
end Go.Proofs.YtgibhpljlebcdaaDoor
