/- Addresses of requests in plain words: what the library's functions answer of them. No program in it. -/
import Derived.Test.YtgaodaimkojmhaaDoorUriPlain2
import Derived.Test.YtgaodaimkojmhaaDoorUriRef2
import Derived.Lib.IndexMore
import Derived.Lib.IndexAny
import Derived.Lib.Strings
namespace Go.Proofs.YtgaodaimkojmhaaDoor
open Go.RowKit
set_option linter.unusedVariables false

theorem lib_word (l : List UInt8) : Lib.index l [58, 47, 47] = (if hasWord l = true then (wordN l : Int) else -1) ∧ (hasWord l = true → wordN l + 3 ≤ l.length) := by
  have hw : ∀ j, j < l.length - 2 → Lib.occAt l [58, 47, 47] j = wordAt l j := fun j hj => by
    rw [Lib.occAt_iff_take l [58, 47, 47] j (by simp only [List.length_cons, List.length_nil]; omega)]
    rfl
  rcases Lib.index_spec l [58, 47, 47] with ⟨h1, h2⟩ | ⟨i, h1, h2, h3, h4⟩
  · have hN : wordN l = l.length - 2 := firstN_end fun j hj => by rw [← hw j hj]; exact h2 j (by omega)
    have hH : hasWord l = false := by unfold hasWord; rw [hN]; exact decide_eq_false (Nat.lt_irrefl _)
    rw [hH, h1]
    exact ⟨rfl, fun h => by cases h⟩
  · have hr : i + 3 ≤ l.length := by
      rcases Lib.occAt_room h3 with h | h
      · simpa using h
      · cases h
    have hN : wordN l = i := firstN_at (fun j hj => by rw [← hw j (by omega)]; exact h4 j hj) (by omega) (by rw [← hw i (by omega)]; exact h3)
    have hH : hasWord l = true := by unfold hasWord; rw [hN]; exact decide_eq_true (by omega)
    rw [hH, h1, hN]
    exact ⟨rfl, fun _ => hr⟩

/-- What Cut at "://" answers. -/
def wordCut (l : List UInt8) : List UInt8 × List UInt8 × Bool := if hasWord l = true then (l.take (wordN l), restU l, true) else (l, [], false)
theorem lib_cut (l : List UInt8) : Lib.cut l [58, 47, 47] = wordCut l := by
  unfold Lib.cut wordCut restU
  rw [(lib_word l).1]
  cases hasWord l with
  | true => rw [if_pos rfl, if_pos (by omega), if_pos rfl]; rfl
  | false => rw [if_neg Bool.false_ne_true, if_neg (by decide), if_neg Bool.false_ne_true]

theorem findS_spec (l s : List UInt8) : (∀ (j : Nat) b, j < findS l s → l[j]? = some b → s.contains b = false) ∧ (findS l s < l.length → ∃ b, l[findS l s]? = some b ∧ s.contains b = true) := by
  unfold findS
  refine ⟨fun j b hj hb => ?_, fun h => ?_⟩
  · have hl := List.findIdx_le_length (p := fun x => s.contains x) (xs := l)
    have h2 := List.not_of_lt_findIdx hj
    have h3 : l[j]? = some l[j] := List.getElem?_eq_getElem _
    rw [h3] at hb
    cases hb
    simpa using h2
  · exact ⟨l[l.findIdx fun x => s.contains x], List.getElem?_eq_getElem h, List.findIdx_getElem (w := h)⟩

theorem lib_any (l s : List UInt8) : Lib.indexAny l s = if findS l s = l.length then -1 else (findS l s : Int) := by
  obtain ⟨h1, h2⟩ := findS_spec l s
  by_cases h : findS l s = l.length
  · rw [if_pos h]
    exact Lib.indexAny_none (by rw [← h]; exact h1)
  · rw [if_neg h]
    obtain ⟨b, hb, hc⟩ := h2 (Nat.lt_of_le_of_ne (findS_le l s) h)
    exact Lib.indexAny_hit h1 hb hc

theorem seen_ascii {l : List UInt8} (h : l.all seenB = true) : ∀ (j : Nat) b, l[j]? = some b → b.toNat < 128 := fun j b hb => by
  have := List.all_eq_true.1 h b (List.mem_of_getElem? hb)
  unfold seenB at this
  rw [Bool.and_eq_true, decide_eq_true_iff, decide_eq_true_iff] at this
  omega
theorem all_drop {p : UInt8 → Bool} {l : List UInt8} (h : l.all p = true) (n : Nat) : (l.drop n).all p = true := by
  rw [List.all_eq_true] at h ⊢
  exact fun x hx => h x (List.mem_of_mem_drop hx)
theorem all_take {p : UInt8 → Bool} {l : List UInt8} (h : l.all p = true) (n : Nat) : (l.take n).all p = true := by
  rw [List.all_eq_true] at h ⊢
  exact fun x hx => h x (List.mem_of_mem_take hx)

/-- May a byte be in an address's part? -/
def butB (s : List UInt8) (x : UInt8) : Bool := seenB x && !(s.contains x)
theorem but_none (l : List UInt8) : l.all (butB []) = l.all seenB := by
  have : butB [] = seenB := by funext x; unfold butB; simp
  rw [this]
theorem but_all (l s : List UInt8) : l.all (butB s) = (l.all seenB && decide (findS l s = l.length)) := by
  rw [Bool.eq_iff_iff, Bool.and_eq_true, decide_eq_true_iff, List.all_eq_true, List.all_eq_true]
  unfold butB findS
  rw [List.findIdx_eq_length]
  constructor
  · intro h
    refine ⟨fun x hx => ?_, fun x hx => ?_⟩
    · have := h x hx; rw [Bool.and_eq_true] at this; exact this.1
    · have := h x hx; rw [Bool.and_eq_true] at this; simpa using this.2
  · rintro ⟨h1, h2⟩ x hx
    rw [h1 x hx, Bool.true_and]
    simpa using h2 x hx
theorem lib_byte (s : List UInt8) (x : UInt8) : (Lib.indexByte s x < 0) ↔ s.contains x = false := by
  rw [Lib.contains_iff_indexByte, decide_eq_false_iff_not]
  omega

theorem head_is (l : List UInt8) (x : UInt8) : Lib.hasPrefix l [x] = (decide (0 < l.length) && (l.getD 0 0 == x)) := by
  unfold Lib.hasPrefix
  cases l with
  | nil => rfl
  | cons a t => simp [List.isPrefixOf, Bool.beq_comm]

theorem byte_find (l : List UInt8) (c : UInt8) : Lib.indexByte l c = if l.findIdx (· == c) = l.length then -1 else (l.findIdx (· == c) : Int) := by
  have h := lib_any l [c]
  rw [Lib.indexAny_one] at h
  rw [h]
  have e : findS l [c] = l.findIdx (· == c) := by
    unfold findS
    congr 1
    funext x
    rw [Bool.eq_iff_iff, beq_iff_eq, List.contains_iff_mem, List.mem_singleton]
  rw [e]

/-- A host's text, and what is behind it. -/
def nameCut (l : List UInt8) : List UInt8 × List UInt8 :=
  if Lib.hasPrefix l [91] = true then (if l.findIdx (· == 93) = l.length then ([], l) else (l.take (l.findIdx (· == 93) + 1), l.drop (l.findIdx (· == 93) + 1))) else (l.take (findS l [58]), l.drop (findS l [58]))

theorem name_cut (l : List UInt8) : nameCut l = (l.take (nameN l), l.drop (nameN l)) ∨ (nameCut l = ([], l) ∧ canonB ((l.take (nameN l)).map low) = false) := by
  unfold nameCut nameN
  rw [head_is]
  by_cases h : 0 < l.length ∧ l.getD 0 0 = 91
  · have e : (decide (0 < l.length) && (l.getD 0 0 == 91)) = true := by rw [decide_eq_true h.1, h.2]; rfl
    rw [if_pos e, if_pos h]
    by_cases h2 : l.findIdx (· == 93) = l.length
    · rw [if_pos h2, if_pos h2]
      refine .inr ⟨rfl, ?_⟩
      rw [List.take_length]
      cases hc : canonB (l.map low) with
      | false => rfl
      | true =>
        exfalso
        have hn : ∀ x ∈ l, x ≠ 93 := fun x hx => by
          have := List.findIdx_eq_length.1 h2 x hx
          simpa using this
        have h91 : (l.map low).getD 0 0 = 91 := by
          cases l with
          | nil => simp at h
          | cons a t =>
            have : a = 91 := by simpa using h.2
            subst this
            rfl
        rcases canon_bytes hc with hb | hb
        · have h0 : 0 < (l.map low).length := by rw [List.length_map]; exact h.1
          have hm : (l.map low).getD 0 0 ∈ l.map low := by rw [List.getD_eq_getElem?_getD, List.getElem?_eq_getElem h0]; exact List.getElem_mem _
          rw [h91] at hm
          rcases hb 91 hm with h3 | h3
          · cases h3
          · exact absurd h3 (by decide)
        · obtain ⟨m, hm, -⟩ := bracket_split hb
          have h93 : (93 : UInt8) ∈ l.map low := by rw [hm]; simp
          obtain ⟨x, hx, hx2⟩ := List.mem_map.1 h93
          exact hn x hx (byte_all (fun x => !(low x == 93) || (x == 93)) (by decide +kernel) x |> fun q => by
            rw [hx2] at q
            simpa using q)
    · rw [if_neg h2, if_neg h2]
      exact .inl rfl
  · have e : ¬ (decide (0 < l.length) && (l.getD 0 0 == 91)) = true := by
      rw [Bool.and_eq_true, decide_eq_true_iff, beq_iff_eq]
      exact h
    rw [if_neg e, if_neg h]
    exact .inl rfl

theorem canon_nil : canonB [] = false := by decide +kernel

theorem path_is (l : List UInt8) : pathU l = if Lib.hasPrefix (l.take (findS l [63, 35])) [47] = true then l.take (findS l [63, 35]) else 47 :: l.take (findS l [63, 35]) := by
  unfold pathU
  rw [head_is]
  generalize l.take (findS l [63, 35]) = p
  cases p with
  | nil => rfl
  | cons a t =>
    by_cases h : a = 47
    · subst h; simp
    · simp [h]

/-- Is a text a port, as it is asked? -/
theorem port_is (l : List UInt8) (hl : Lib.hasPrefix l [58] = false) : portB l = (l == []) := by
  rw [head_is] at hl
  unfold portB
  cases l with
  | nil => rfl
  | cons a t =>
    have : (a == 58) = false := by simpa using hl
    simp [this]

theorem port_digits (d : List UInt8) : portB (58 :: d) = (decide (d.length ≤ 5) && ((lead d == d.length) && decide ((numL d).1 ≤ 65535))) := by
  unfold portB
  cases d with
  | nil => decide +kernel
  | cons a t =>
    have e1 : ((58 :: a :: t : List UInt8) == []) = false := rfl
    have e2 : ((58 :: a :: t : List UInt8) == [58]) = false := by rw [beq_eq_false_iff_ne]; simp
    have e3 : ((58 :: a :: t : List UInt8).getD 0 0 == 58) = true := rfl
    have e4 : (58 :: a :: t : List UInt8).drop 1 = a :: t := rfl
    have e5 : decide ((58 :: a :: t : List UInt8).length ≤ 6) = decide ((a :: t).length ≤ 5) := decide_eq_decide.2 (by simp)
    have e6 : (58 :: a :: t : List UInt8).length - 1 = (a :: t).length := rfl
    have e7 : (lead (a :: t) == (a :: t).length) = decide (lead (a :: t) = (a :: t).length) := rfl
    rw [e1, e2, e3, e4, e5, e6, e7, Bool.false_or, Bool.false_or, Bool.true_and]
    by_cases h : lead (a :: t) = (a :: t).length
    · have hd := num_digits (l := a :: t) (by simp) h
      rw [hd]
      congr 2
      exact decide_eq_decide.2 (by dsimp only; omega)
    · rw [decide_eq_false h, Bool.false_and, Bool.false_and]
end Go.Proofs.YtgaodaimkojmhaaDoor
