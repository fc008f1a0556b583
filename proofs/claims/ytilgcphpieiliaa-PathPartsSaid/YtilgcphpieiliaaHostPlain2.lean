/- Names of hosts in plain words: what the program asks of a text is what the document asks. No program in it. -/
import Derived.Test.YtilgcphpieiliaaHostPlain
import Derived.Test.YtilgcphpieiliaaAscii2
namespace Go.Proofs.Ytilgcphpieiliaa
open Go.RowKit
set_option linter.unusedVariables false

/-- A number of an address, as the program asks for it. -/
def numB (l : List UInt8) : Bool := (numL l).2 && (decide (0 ≤ (numL l).1) && (decide ((numL l).1 ≤ 255) && (Lib.itoa (numL l).1 == l)))
theorem decDigits_three (v : Nat) (h : v ≤ 255) : (Lib.decDigits v).length ≤ 3 := by
  rw [Lib.decDigits_length]
  have h1 : ∀ u, u < 10 → Lib.nDigits u ≤ 1 := fun u hu => by rw [Lib.nDigits_small hu]; omega
  have h2 : ∀ u, u < 100 → Lib.nDigits u ≤ 2 := fun u hu => by
    by_cases c : u < 10
    · have := h1 u c; omega
    · rw [Lib.nDigits_big c]; have := h1 (u / 10) (by omega); omega
  by_cases c : v < 10
  · have := h1 v c; omega
  · rw [Lib.nDigits_big c]; have := h2 (v / 10) (by omega); omega
theorem num_octet (l : List UInt8) : numB l = octetB l := by
  have hne : ∀ x : List UInt8, signed x = true → lead x = x.length → False := fun x h c => by
    obtain ⟨h1, h2, -⟩ := signed_yes h
    have := lead_all c 0 (by omega)
    omega
  unfold numB octetB numL
  cases hs : signed l with
  | true =>
    obtain ⟨h1, h2, h3⟩ := signed_yes hs
    have e2 : decide (lead l = l.length) = false := decide_eq_false fun c => hne l hs c
    rw [e2]
    simp only [Bool.and_false, Bool.false_and]
    split
    · rfl
    · simp only [if_true, Bool.true_and]
      rw [Bool.eq_false_iff]
      intro c
      simp only [Bool.and_eq_true, decide_eq_true_iff, beq_iff_eq] at c
      obtain ⟨c1, -, c3⟩ := c
      have : (0 : Int) - (numV (body l) : Int) = 0 := by omega
      rw [this] at c3
      have e : Lib.itoa 0 = [48] := by
        unfold Lib.itoa
        rw [if_neg (by omega), Lib.decDigits_one (by decide)]
        rfl
      rw [e] at c3
      rw [← c3] at h2
      exact absurd h2 (by decide)
  | false =>
    obtain ⟨-, hb⟩ := signed_no hs
    rw [hb]
    by_cases hbad : l.length = 0 ∨ lead l < l.length
    · rw [if_pos hbad]
      rcases hbad with h | h
      · have : decide (1 ≤ l.length) = false := decide_eq_false (by omega)
        rw [this]; simp
      · have : decide (lead l = l.length) = false := decide_eq_false (by omega)
        rw [this]; simp
    · rw [if_neg hbad]
      have h1 : decide (1 ≤ l.length) = true := decide_eq_true (by omega)
      have h2 : decide (lead l = l.length) = true := decide_eq_true (by have := lead_le l; omega)
      rw [h1, h2]
      simp only [Bool.false_eq_true, if_false, Bool.true_and, Bool.and_true]
      have e : Lib.itoa (numV l : Int) = Lib.decDigits (numV l) := by
        unfold Lib.itoa
        rw [if_neg (by omega)]
        rfl
      have h0 : decide ((0 : Int) ≤ (numV l : Int)) = true := decide_eq_true (by omega)
      have h3 : decide ((numV l : Int) ≤ 255) = decide (numV l ≤ 255) := by rw [decide_eq_decide]; omega
      rw [e, h0, h3, Bool.true_and]
      by_cases hv : numV l ≤ 255
      · rw [decide_eq_true hv]
        cases hc : (Lib.decDigits (numV l) == l) with
        | false => simp
        | true =>
          have : l.length ≤ 3 := by
            rw [← beq_iff_eq.1 hc]
            exact decDigits_three _ hv
          rw [decide_eq_true this]
          rfl
      · rw [decide_eq_false hv]; simp

theorem octet_len {l : List UInt8} (h : octetB l = true) : l.length ≤ 3 := by
  unfold octetB at h
  simp only [Bool.and_eq_true, decide_eq_true_iff] at h
  exact h.1.1.1.2
theorem quad_len {l : List UInt8} (h : quadB l = true) : l.length ≤ 15 := by
  unfold quadB at h
  simp only [Bool.and_eq_true, decide_eq_true_iff] at h
  obtain ⟨h1, h2⟩ := h
  rw [← joinL_all l 46]
  generalize splitL l 46 = P at *
  obtain ⟨a, b, c, d, rfl⟩ : ∃ a b c d, P = [a, b, c, d] := by
    match P, h1 with
    | [a, b, c, d], _ => exact ⟨a, b, c, d, rfl⟩
  simp only [List.all_cons, List.all_nil, Bool.and_true, Bool.and_eq_true] at h2
  have := octet_len h2.1
  have := octet_len h2.2.1
  have := octet_len h2.2.2.1
  have := octet_len h2.2.2.2
  simp [joinL]
  omega
theorem bracket_parts {l : List UInt8} (h : bracketB l = true) : 4 ≤ l.length ∧ l.length ≤ 47 ∧ l.getD 0 0 = 91 := by
  unfold bracketB at h
  simp only [Bool.and_eq_true, decide_eq_true_iff, beq_iff_eq] at h
  exact ⟨h.1.1.1.1, h.1.1.1.2, h.1.1.2⟩
theorem addr_len {l : List UInt8} (h : addrB l = true) : l.length ≤ 256 := by
  unfold addrB at h
  rw [Bool.or_eq_true] at h
  rcases h with h | h
  · have := quad_len h; omega
  · have := bracket_parts h; omega
theorem name_len {l : List UInt8} (h : nameB l = true) : l.length ≤ 256 := (name_labels h).1

theorem mem_join (c : UInt8) : ∀ (P : List (List UInt8)) (x : UInt8), x ∈ joinL c P → x = c ∨ ∃ p ∈ P, x ∈ p
  | [], x, h => by cases h
  | [p], x, h => .inr ⟨p, by simp, h⟩
  | p :: q :: r, x, h => by
    have h : x ∈ p ++ c :: joinL c (q :: r) := h
    rcases List.mem_append.1 h with h | h
    · exact .inr ⟨p, by simp, h⟩
    · rcases List.mem_cons.1 h with h | h
      · exact .inl h
      · rcases mem_join c (q :: r) x h with h | ⟨p', hp, hx⟩
        · exact .inl h
        · exact .inr ⟨p', List.mem_cons_of_mem _ hp, hx⟩
theorem label_sign {l : List UInt8} (h : labelB l = true) : ∀ x ∈ l, signB x = true := by
  unfold labelB at h
  simp only [Bool.and_eq_true] at h
  exact List.all_eq_true.1 h.2
theorem labels_sign {l : List UInt8} (h : (splitL l 46).all labelB = true) : ∀ x ∈ l, x = 46 ∨ signB x = true := by
  intro x hx
  rw [← joinL_all l 46] at hx
  rcases mem_join 46 _ x hx with h1 | ⟨p, hp, hx⟩
  · exact .inl h1
  · exact .inr (label_sign (List.all_eq_true.1 h p hp) x hx)
theorem labels_bracket {l : List UInt8} (h : (splitL l 46).all labelB = true) : bracketB l = false := by
  rw [Bool.eq_false_iff]
  intro c
  obtain ⟨c1, -, c2⟩ := bracket_parts c
  have hm : l.getD 0 0 ∈ l := by
    have : 0 < l.length := by omega
    simp only [List.getD, List.getElem?_eq_getElem this, Option.getD_some]
    exact List.getElem_mem _
  rcases labels_sign h _ hm with h1 | h1
  · rw [c2] at h1; exact absurd h1 (by decide)
  · rw [c2] at h1; exact absurd h1 (by decide)

/-- What a text is: 0 neither, 1 a name, 2 an address. -/
def kindN (l : List UInt8) : Nat := if 256 < l.length then 0 else if addrB l = true then 2 else if (splitL l 46).all labelB = true then 1 else 0
theorem kind_two (l : List UInt8) : decide (kindN l = 2) = addrB l := by
  unfold kindN
  by_cases h : 256 < l.length
  · rw [if_pos h]
    cases c : addrB l with
    | false => rfl
    | true => have := addr_len c; omega
  · rw [if_neg h]
    cases c : addrB l with
    | true => simp
    | false => simp only [Bool.false_eq_true, if_false]; split <;> rfl
theorem kind_one (l : List UInt8) : decide (kindN l = 1) = nameB l := by
  unfold kindN nameB
  by_cases h : 256 < l.length
  · rw [if_pos h, decide_eq_false (show ¬ l.length ≤ 256 by omega)]; rfl
  · rw [if_neg h, decide_eq_true (show l.length ≤ 256 by omega)]
    unfold addrB
    cases hq : quadB l with
    | true => simp
    | false =>
      cases ha : (splitL l 46).all labelB with
      | false => simp; split <;> decide
      | true => rw [labels_bracket ha]; simp
theorem kind_zero (l : List UInt8) : decide (kindN l = 0) = !canonB l := by
  have h1 := kind_one l
  have h2 := kind_two l
  have h3 : kindN l = 0 ∨ kindN l = 1 ∨ kindN l = 2 := by
    unfold kindN
    split
    · exact .inl rfl
    · split
      · exact .inr (.inr rfl)
      · split
        · exact .inr (.inl rfl)
        · exact .inl rfl
  have hn := @name_len l
  have ha := @addr_len l
  unfold canonB
  rw [← h1, ← h2] at *
  rcases h3 with h3 | h3 | h3
  · rw [h3]; simp
  · have := hn (by rw [h3]; rfl)
    rw [h3, decide_eq_true this]; rfl
  · have := ha (by rw [h3]; rfl)
    rw [h3, decide_eq_true this]; rfl
theorem kind_le (l : List UInt8) : kindN l ≤ 2 := by
  unfold kindN
  split
  · omega
  · split
    · omega
    · split <;> omega

theorem below_suffix (h d : List UInt8) : belowB h d = Lib.hasSuffix h (46 :: d) := by
  rw [Bool.eq_iff_iff]
  constructor
  · intro m
    obtain ⟨h1, h2, h3⟩ := below_len m
    unfold Lib.hasSuffix
    rw [List.isSuffixOf_iff_suffix]
    refine ⟨h.take (h.length - d.length - 1), ?_⟩
    have e : h.drop (h.length - d.length - 1) = 46 :: d := by
      rw [List.drop_eq_getElem_cons (by omega)]
      have : h.length - d.length - 1 + 1 = h.length - d.length := by omega
      rw [this, h3]
      have : h[h.length - d.length - 1]'(by omega) = 46 := by
        rw [← h2]
        simp [List.getD, show h.length - d.length - 1 < h.length by omega]
      rw [this]
    rw [← e, List.take_append_drop]
  · intro m
    unfold Lib.hasSuffix at m
    rw [List.isSuffixOf_iff_suffix] at m
    obtain ⟨p, rfl⟩ := m
    unfold belowB
    have h1 : (p ++ 46 :: d).length = p.length + 1 + d.length := by simp; omega
    rw [h1]
    have h2 : p.length + 1 + d.length - d.length - 1 = p.length := by omega
    have h3 : p.length + 1 + d.length - d.length = p.length + 1 := by omega
    rw [h2, h3]
    have h4 : (p ++ 46 :: d).getD p.length 0 = 46 := by simp [List.getD]
    have h5 : (p ++ 46 :: d).drop (p.length + 1) = d := by
      have : p ++ 46 :: d = (p ++ [46]) ++ d := by simp
      rw [this, show p.length + 1 = (p ++ [46]).length by simp, List.drop_left]
    rw [h4, h5]
    simp

/-- A text without its first part. -/
theorem cut_split (l : List UInt8) (c : UInt8) : ((cutL l c).2.2 = false ∧ (cutL l c).2.1 = [] ∧ splitL l c = [l]) ∨ ((cutL l c).2.2 = true ∧ splitL l c = l.take (l.findIdx (· == c)) :: splitL (cutL l c).2.1 c) := by
  unfold cutL
  have hle : l.findIdx (· == c) ≤ l.length := List.findIdx_le_length
  have hno : ∀ y ∈ l.take (l.findIdx (· == c)), (y == c) = false := by
    intro y hy
    obtain ⟨i, hi, rfl⟩ := List.getElem_of_mem hy
    rw [List.length_take] at hi
    rw [List.getElem_take]
    have := List.not_of_lt_findIdx (xs := l) (p := (· == c)) (i := i) (by omega)
    simpa using this
  by_cases h : l.findIdx (· == c) = l.length
  · rw [if_pos h]
    refine .inl ⟨rfl, rfl, split_one l c fun y hy => hno y ?_⟩
    rw [h, List.take_length]
    exact hy
  · rw [if_neg h]
    refine .inr ⟨rfl, ?_⟩
    have hlt : l.findIdx (· == c) < l.length := by omega
    have e : l = l.take (l.findIdx (· == c)) ++ c :: l.drop (l.findIdx (· == c) + 1) := by
      conv => lhs; rw [← List.take_append_drop (l.findIdx (· == c)) l]
      congr 1
      rw [List.drop_eq_getElem_cons hlt]
      congr 1
      have := List.findIdx_getElem (xs := l) (p := (· == c)) (w := hlt)
      simpa using this
    conv => lhs; rw [e]
    exact split_cons _ _ c hno
end Go.Proofs.Ytilgcphpieiliaa
