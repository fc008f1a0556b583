/- Headers in plain words: the pair, the attributes, the text that is parted so. No program in it. -/
import Derived.Test.YtlmcfflpgkapgaaTrimPlain
import Derived.Test.YtlmcfflpgkapgaaHostPlain
namespace Go.Proofs.Ytlmcfflpgkapgaa
set_option linter.unusedVariables false

/-- A text's name and value. -/
def pairL (s : List UInt8) : List UInt8 × List UInt8 :=
  if s.findIdx (· == 61) = s.length then (trimL s, []) else (trimL (s.take (s.findIdx (· == 61))), trimL (s.drop (s.findIdx (· == 61) + 1)))

/-- A header, parted. -/
def parseH (s : List UInt8) : (List UInt8 × List UInt8) × List (List UInt8 × List UInt8) × Int :=
  if 4096 < s.length then (([], []), [], 3)
  else if s.any ctl = true then (([], []), [], 1)
  else if ((splitL s 59).getD 0 []).findIdx (· == 61) = ((splitL s 59).getD 0 []).length ∨ (pairL ((splitL s 59).getD 0 [])).1 = [] then (([], []), [], 1)
  else if 256 < (pairL ((splitL s 59).getD 0 [])).1.length ∨ 1024 < (pairL ((splitL s 59).getD 0 [])).2.length then (([], []), [], 3)
  else (pairL ((splitL s 59).getD 0 []), ((splitL s 59).drop 1).map pairL, 0)

/-- The last attribute of a name. -/
def findH (L : List (List UInt8 × List UInt8)) (name : List UInt8) : List UInt8 × Bool :=
  L.foldl (fun a x => if (x.1.map low == name.map low) = true then (x.2, true) else a) ([], false)

def attrT (x : List UInt8 × List UInt8) : List UInt8 := 32 :: (x.1 ++ (if x.2 = [] then [] else 61 :: x.2))
def pairT (p : List UInt8 × List UInt8) : List UInt8 := p.1 ++ 61 :: p.2
def textH (p : List UInt8 × List UInt8) (L : List (List UInt8 × List UInt8)) : List UInt8 := joinL 59 (pairT p :: L.map attrT)

def printH (p : List UInt8 × List UInt8) (L : List (List UInt8 × List UInt8)) : List UInt8 × Int :=
  if parseH (textH p L) = (p, L, 0) then (textH p L, 0) else ([], 1)

theorem findH_take {L : List (List UInt8 × List UInt8)} {name : List UInt8} {k : Nat} (hk : k < L.length) : findH (L.take (k + 1)) name = if (L[k].1.map low == name.map low) = true then (L[k].2, true) else findH (L.take k) name := by
  unfold findH
  rw [List.take_succ_eq_append_getElem hk, List.foldl_append]
  rfl

theorem textH_zero (p : List UInt8 × List UInt8) : textH p [] = pairT p := rfl

theorem textH_take {p : List UInt8 × List UInt8} {L : List (List UInt8 × List UInt8)} {k : Nat} (hk : k < L.length) : textH p (L.take (k + 1)) = textH p (L.take k) ++ 59 :: attrT L[k] := by
  unfold textH
  rw [List.take_succ_eq_append_getElem hk, List.map_append]
  have := joinL_snoc 59 (pairT p :: (L.take k).map attrT) (attrT L[k]) (by simp)
  simpa using this

theorem text_le (p : List UInt8 × List UInt8) (L : List (List UInt8 × List UInt8)) (k : Nat) : (textH p (L.take k)).length ≤ (textH p L).length := by
  have := joinL_le 59 (pairT p :: (L.take k).map attrT) ((L.drop k).map attrT)
  unfold textH
  have e : pairT p :: L.map attrT = (pairT p :: (L.take k).map attrT) ++ (L.drop k).map attrT := by
    rw [List.cons_append, ← List.map_append, List.take_append_drop]
  rw [e]
  exact this

/-- How long a text of few and short parts is. -/
theorem text_len (p : List UInt8 × List UInt8) (hp : p.1.length ≤ 300 ∧ p.2.length ≤ 1100) : ∀ (L : List (List UInt8 × List UInt8)), (∀ x ∈ L, x.1.length ≤ 300 ∧ x.2.length ≤ 1100) → (textH p L).length ≤ 1401 + L.length * 1403 := by
  have key : ∀ (L : List (List UInt8 × List UInt8)), (∀ x ∈ L, x.1.length ≤ 300 ∧ x.2.length ≤ 1100) → ∀ q : List UInt8, (joinL 59 (q :: L.map attrT)).length ≤ q.length + L.length * 1403 := by
    intro L
    induction L with
    | nil => intro _ q; simp [joinL]
    | cons x r ih =>
      intro h q
      have h1 := ih (fun y hy => h y (List.mem_cons_of_mem _ hy)) (attrT x)
      have h2 := h x List.mem_cons_self
      have h3 : (attrT x).length ≤ 1402 := by
        unfold attrT
        split <;> simp <;> omega
      have e : joinL 59 (q :: (x :: r).map attrT) = q ++ 59 :: joinL 59 (attrT x :: r.map attrT) := rfl
      rw [e, List.length_append, List.length_cons, List.length_cons]
      omega
  intro L h
  have := key L h (pairT p)
  have h2 : (pairT p).length ≤ 1401 := by unfold pairT; simp; omega
  unfold textH
  omega

/-- The parts of a text hold no sign that they are parted by. -/
theorem split_no (c : UInt8) : ∀ (n : Nat) (l : List UInt8), l.length ≤ n → ∀ x ∈ splitL l c, ∀ y ∈ x, (y == c) = false
  | n, l, hn => by
    by_cases h : c ∈ l
    · obtain ⟨x, r, rfl, hx⟩ := List.eq_append_cons_of_mem h
      have hx' : ∀ y ∈ x, (y == c) = false := fun y hy => beq_eq_false_iff_ne.2 fun e => hx (e ▸ hy)
      match n, hn with
      | n + 1, hn =>
        rw [split_cons x _ c hx']
        intro z hz
        rcases List.mem_cons.1 hz with rfl | hz
        · exact hx'
        · exact split_no c n r (by simp at hn; omega) z hz
      | 0, hn => simp at hn
    · have hx' : ∀ y ∈ l, (y == c) = false := fun y hy => beq_eq_false_iff_ne.2 fun e => h (e ▸ hy)
      rw [split_one l c hx']
      intro z hz
      rw [List.mem_singleton.1 hz]
      exact hx'

theorem part_len (l : List UInt8) (c : UInt8) (k : Nat) (hk : k < (splitL l c).length) : ((splitL l c).getD k []).length ≤ l.length := by
  have h : (splitL l c).getD k [] ∈ splitL l c := by
    simp only [List.getD, List.getElem?_eq_getElem hk, Option.getD_some]
    exact List.getElem_mem _
  have := mem_join_le c _ _ h
  rw [joinL_all] at this
  exact this

theorem split_mem {c : UInt8} {l x : List UInt8} (h : x ∈ splitL l c) {y : UInt8} (hy : y ∈ x) : y ∈ l := by
  have := joinL_all l c
  rw [← this]
  have key : ∀ (P : List (List UInt8)), x ∈ P → y ∈ joinL c P := by
    intro P
    induction P with
    | nil => intro h; cases h
    | cons q r ih =>
      intro h
      cases r with
      | nil =>
        rw [List.mem_singleton.1 h] at hy
        exact hy
      | cons z r =>
        show y ∈ q ++ c :: joinL c (z :: r)
        rcases List.mem_cons.1 h with rfl | h
        · exact List.mem_append_left _ hy
        · exact List.mem_append_right _ (List.mem_cons_of_mem _ (ih h))
  exact key _ h

theorem find_none {l : List UInt8} {c : UInt8} (h : ∀ y ∈ l, (y == c) = false) : l.findIdx (· == c) = l.length := by
  rw [List.findIdx_eq_length]
  exact h

theorem find_first {a b : List UInt8} {c : UInt8} (h : ∀ y ∈ a, (y == c) = false) : (a ++ c :: b).findIdx (· == c) = a.length := by
  refine findIdx_at (fun j hj => ?_) (by simp) ?_
  · rw [getD_left hj]
    simp only [List.getD, List.getElem?_eq_getElem hj, Option.getD_some]
    exact h _ (List.getElem_mem hj)
  · have := getD_right (a := a) (b := c :: b) 0
    rw [Nat.add_zero] at this
    rw [this]
    simp [List.getD]

/-- A pair that may be printed. -/
structure Fine (x : List UInt8 × List UInt8) : Prop where
  name : trimmed x.1
  value : trimmed x.2
  eq1 : ∀ y ∈ x.1, (y == 61) = false
  semi1 : ∀ y ∈ x.1, (y == 59) = false
  semi2 : ∀ y ∈ x.2, (y == 59) = false
  ctl1 : ∀ y ∈ x.1, ctl y = false
  ctl2 : ∀ y ∈ x.2, ctl y = false

theorem pair_fine {s : List UInt8} (h1 : ∀ y ∈ s, (y == 59) = false) (h2 : ∀ y ∈ s, ctl y = false) : Fine (pairL s) := by
  unfold pairL
  split
  · rename_i h
    have hn : ∀ y ∈ s, (y == 61) = false := by
      have := List.findIdx_eq_length.1 h
      exact this
    exact ⟨trim_trimmed _, .inl rfl, fun y hy => hn y (trim_mem hy), fun y hy => h1 y (trim_mem hy), fun y hy => absurd hy (by simp), fun y hy => h2 y (trim_mem hy), fun y hy => absurd hy (by simp)⟩
  · have hn : ∀ y ∈ s.take (s.findIdx (· == 61)), (y == 61) = false := fun y hy => by
      obtain ⟨i, hi, rfl⟩ := List.getElem_of_mem hy
      rw [List.length_take] at hi
      rw [List.getElem_take]
      have := List.not_of_lt_findIdx (p := (· == 61)) (xs := s) (i := i) (by omega)
      simpa using this
    exact ⟨trim_trimmed _, trim_trimmed _, fun y hy => hn y (trim_mem hy), fun y hy => h1 y (List.mem_of_mem_take (trim_mem hy)), fun y hy => h1 y (List.mem_of_mem_drop (trim_mem hy)), fun y hy => h2 y (List.mem_of_mem_take (trim_mem hy)), fun y hy => h2 y (List.mem_of_mem_drop (trim_mem hy))⟩

theorem pair_pairT {p : List UInt8 × List UInt8} (h : Fine p) : pairL (pairT p) = p ∧ (pairT p).findIdx (· == 61) ≠ (pairT p).length := by
  have hf : (pairT p).findIdx (· == 61) = p.1.length := find_first h.eq1
  have hl : (pairT p).length = p.1.length + p.2.length + 1 := by unfold pairT; simp; omega
  refine ⟨?_, by rw [hf, hl]; omega⟩
  unfold pairL
  rw [hf, if_neg (by rw [hl]; omega)]
  unfold pairT
  have e : p.1 ++ 61 :: p.2 = (p.1 ++ [61]) ++ p.2 := by simp
  have e2 : p.1.length + 1 = (p.1 ++ [61]).length := by simp
  rw [List.take_left, e2, e, List.drop_left, trim_self h.name, trim_self h.value]

theorem pair_attrT {x : List UInt8 × List UInt8} (h : Fine x) : pairL (attrT x) = x := by
  unfold attrT
  by_cases hv : x.2 = []
  · rw [if_pos hv, List.append_nil]
    have hf : (32 :: x.1).findIdx (· == 61) = (32 :: x.1).length := find_none fun y hy => by
      rcases List.mem_cons.1 hy with rfl | hy
      · rfl
      · exact h.eq1 y hy
    unfold pairL
    rw [if_pos hf, trim_space h.name, ← hv]
  · rw [if_neg hv]
    have h0 : ∀ y ∈ 32 :: x.1, (y == 61) = false := fun y hy => by
      rcases List.mem_cons.1 hy with rfl | hy
      · rfl
      · exact h.eq1 y hy
    have hf : ((32 :: x.1) ++ 61 :: x.2).findIdx (· == 61) = (32 :: x.1).length := find_first h0
    rw [← List.cons_append]
    unfold pairL
    rw [hf, if_neg (by simp)]
    have e : (32 :: x.1) ++ 61 :: x.2 = ((32 :: x.1) ++ [61]) ++ x.2 := by simp
    have e2 : (32 :: x.1).length + 1 = ((32 :: x.1) ++ [61]).length := by simp
    rw [List.take_left, e2, e, List.drop_left, trim_space h.name, trim_self h.value]

theorem pairT_mem {p : List UInt8 × List UInt8} {y : UInt8} (h : y ∈ pairT p) : y ∈ p.1 ∨ y = 61 ∨ y ∈ p.2 := by
  unfold pairT at h
  rcases List.mem_append.1 h with h | h
  · exact .inl h
  · rcases List.mem_cons.1 h with h | h
    · exact .inr (.inl h)
    · exact .inr (.inr h)

theorem attrT_mem {p : List UInt8 × List UInt8} {y : UInt8} (h : y ∈ attrT p) : y = 32 ∨ y ∈ p.1 ∨ y = 61 ∨ y ∈ p.2 := by
  unfold attrT at h
  rcases List.mem_cons.1 h with h | h
  · exact .inl h
  · rcases List.mem_append.1 h with h | h
    · exact .inr (.inl h)
    · split at h
      · cases h
      · rcases List.mem_cons.1 h with h | h
        · exact .inr (.inr (.inl h))
        · exact .inr (.inr (.inr h))

theorem mem_joined (c : UInt8) : ∀ (P : List (List UInt8)) (x : UInt8), x ∈ joinL c P → x = c ∨ ∃ p ∈ P, x ∈ p
  | [], x, h => by cases h
  | [q], x, h => .inr ⟨q, by simp, h⟩
  | q :: r :: s, x, h => by
    have h : x ∈ q ++ c :: joinL c (r :: s) := h
    rcases List.mem_append.1 h with h | h
    · exact .inr ⟨q, by simp, h⟩
    · rcases List.mem_cons.1 h with h | h
      · exact .inl h
      · rcases mem_joined c (r :: s) x h with h | ⟨p, hp, h⟩
        · exact .inl h
        · exact .inr ⟨p, List.mem_cons_of_mem _ hp, h⟩

/-- Fine parts are parted as they were. -/
theorem parse_text {p : List UInt8 × List UInt8} {L : List (List UInt8 × List UInt8)} (hp : Fine p) (hL : ∀ x ∈ L, Fine x) (h0 : p.1 ≠ []) (h1 : p.1.length ≤ 256) (h2 : p.2.length ≤ 1024) (hlen : (textH p L).length ≤ 4096) : parseH (textH p L) = (p, L, 0) := by
  have hs : splitL (textH p L) 59 = pairT p :: L.map attrT := by
    unfold textH
    refine split_join 59 _ (by simp) ?_
    intro x hx y hy
    rcases List.mem_cons.1 hx with rfl | hx
    · rcases pairT_mem hy with h | rfl | h
      · exact hp.semi1 y h
      · rfl
      · exact hp.semi2 y h
    · obtain ⟨a, ha, rfl⟩ := List.mem_map.1 hx
      rcases attrT_mem hy with rfl | h | rfl | h
      · rfl
      · exact (hL a ha).semi1 y h
      · rfl
      · exact (hL a ha).semi2 y h
  have hc : (textH p L).any ctl = false := by
    rw [List.any_eq_false]
    intro y hy
    unfold textH at hy
    have := mem_joined 59 _ y hy
    rcases this with rfl | ⟨x, hx, hy⟩
    · decide
    · rcases List.mem_cons.1 hx with rfl | hx
      · rcases pairT_mem hy with h | rfl | h
        · rw [hp.ctl1 y h]; decide
        · decide
        · rw [hp.ctl2 y h]; decide
      · obtain ⟨a, ha, rfl⟩ := List.mem_map.1 hx
        rcases attrT_mem hy with rfl | h | rfl | h
        · decide
        · rw [(hL a ha).ctl1 y h]; decide
        · decide
        · rw [(hL a ha).ctl2 y h]; decide
  obtain ⟨e1, e2⟩ := pair_pairT hp
  unfold parseH
  rw [if_neg (by omega), if_neg (by rw [hc]; decide), hs]
  have e3 : (pairT p :: L.map attrT).getD 0 [] = pairT p := rfl
  rw [e3, e1, if_neg (fun h => h.elim e2 h0), if_neg (by omega)]
  have e4 : ((pairT p :: L.map attrT).drop 1).map pairL = L := by
    rw [List.drop_one, List.tail_cons, List.map_map]
    have : ∀ x ∈ L, (pairL ∘ attrT) x = id x := fun x hx => pair_attrT (hL x hx)
    rw [List.map_congr_left this, List.map_id]
  rw [e4]

/-- What was parted may be printed. -/
theorem parse_fine {s : List UInt8} (h : (parseH s).2.2 = 0) : Fine (parseH s).1 ∧ (∀ x ∈ (parseH s).2.1, Fine x) ∧ (parseH s).1.1 ≠ [] ∧ (parseH s).1.1.length ≤ 256 ∧ (parseH s).1.2.length ≤ 1024 := by
  unfold parseH at h ⊢
  split at h
  · cases h
  · rename_i h1
    rw [if_neg h1]
    split at h
    · cases h
    · rename_i h2
      rw [if_neg h2]
      split at h
      · cases h
      · rename_i h3
        rw [if_neg h3]
        split at h
        · cases h
        · rename_i h4
          rw [if_neg h4]
          have hc : ∀ y ∈ s, ctl y = false := by simpa using h2
          have hf : ∀ x ∈ splitL s 59, Fine (pairL x) := fun x hx => pair_fine (split_no 59 s.length s (Nat.le_refl _) x hx) fun y hy => hc y (split_mem hx hy)
          refine ⟨hf _ ?_, fun x hx => ?_, fun e => h3 (.inr e), by dsimp only; omega, by dsimp only; omega⟩
          · have := splitL_pos s 59
            simp only [List.getD, List.getElem?_eq_getElem (show 0 < (splitL s 59).length by omega), Option.getD_some]
            exact List.getElem_mem _
          · obtain ⟨y, hy, rfl⟩ := List.mem_map.1 hx
            exact hf y (List.mem_of_mem_drop hy)

theorem print_back {s : List UInt8} (h : (parseH s).2.2 = 0) (hlen : (textH (parseH s).1 (parseH s).2.1).length ≤ 4096) :
    printH (parseH s).1 (parseH s).2.1 = (textH (parseH s).1 (parseH s).2.1, 0) ∧ parseH (textH (parseH s).1 (parseH s).2.1) = ((parseH s).1, (parseH s).2.1, 0) := by
  obtain ⟨a, b, c, d, e⟩ := parse_fine h
  have := parse_text a b c d e hlen
  exact ⟨by unfold printH; rw [if_pos this], this⟩

theorem parse_err (s : List UInt8) : ((parseH s).2.2 = 0 ∨ (parseH s).2.2 = 1 ∨ (parseH s).2.2 = 3) ∧ ((parseH s).2.2 ≠ 0 → (parseH s).1 = ([], []) ∧ (parseH s).2.1 = []) := by
  unfold parseH
  split
  · exact ⟨.inr (.inr rfl), fun _ => ⟨rfl, rfl⟩⟩
  · split
    · exact ⟨.inr (.inl rfl), fun _ => ⟨rfl, rfl⟩⟩
    · split
      · exact ⟨.inr (.inl rfl), fun _ => ⟨rfl, rfl⟩⟩
      · split
        · exact ⟨.inr (.inr rfl), fun _ => ⟨rfl, rfl⟩⟩
        · exact ⟨.inl rfl, fun h => absurd rfl h⟩
end Go.Proofs.Ytlmcfflpgkapgaa
