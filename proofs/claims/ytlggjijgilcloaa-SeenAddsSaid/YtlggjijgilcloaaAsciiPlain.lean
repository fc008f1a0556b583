/- Layer 6 in plain words: letters, blanks, parts of a list of bytes. -/
import Derived.Test.YtlggjijgilcloaaLibAA
import Derived.Shelf.Small.Wraps
namespace Go.Proofs.Ytlggjijgilcloaa
set_option linter.unusedVariables false

/-- A byte made small. -/
def low (x : UInt8) : UInt8 := if 65 ≤ x.toNat ∧ x.toNat ≤ 90 then UInt8.ofNat (x.toNat + 32) else x
def blank (x : UInt8) : Bool := decide (x.toNat = 32) || decide (x.toNat = 9)
def ctl (x : UInt8) : Bool := decide (x.toNat < 32) && !decide (x.toNat = 9) || decide (x.toNat = 127)
def digit (x : UInt8) : Bool := decide (48 ≤ x.toNat) && decide (x.toNat ≤ 57)

theorem u8_lt (x : UInt8) : x.toNat < 256 := x.toNat_lt
theorem low_up {x : UInt8} (h : 65 ≤ x.toNat ∧ x.toNat ≤ 90) : (low x).toNat = x.toNat + 32 := by
  unfold low
  rw [if_pos h, UInt8.toNat_ofNat']
  omega
theorem low_not {x : UInt8} (h : ¬ (65 ≤ x.toNat ∧ x.toNat ≤ 90)) : low x = x := by
  unfold low
  rw [if_neg h]
theorem low_low (x : UInt8) : low (low x) = low x := by
  by_cases h : 65 ≤ x.toNat ∧ x.toNat ≤ 90
  · refine low_not (fun h2 => ?_)
    rw [low_up h] at h2
    omega
  · rw [low_not h, low_not h]
/-- Behind the last of the first k bytes that is no blank. -/
def endB (l : List UInt8) : Nat → Nat
  | 0 => 0
  | k + 1 => if blank (l.getD k 0) = true then endB l k else k + 1
theorem endB_le (l : List UInt8) : ∀ k, endB l k ≤ k
  | 0 => Nat.le_refl _
  | k + 1 => by
    unfold endB
    have := endB_le l k
    split <;> omega
def frontB (l : List UInt8) : Nat := (l.take (endB l l.length)).findIdx (fun x => !blank x)
def trimL (l : List UInt8) : List UInt8 := (l.drop (frontB l)).take (endB l l.length - frontB l)
theorem frontB_le (l : List UInt8) : frontB l ≤ endB l l.length := by
  unfold frontB
  refine Nat.le_trans List.findIdx_le_length ?_
  rw [List.length_take]
  exact Nat.min_le_left _ _
/-- The number of these digits, 2^40 at most. -/
def numV (l : List UInt8) : Nat := l.foldl (fun n x => min (10 * n + (x.toNat - 48)) 1099511627776) 0
theorem numV_nil : numV [] = 0 := rfl
theorem numV_le (l : List UInt8) : numV l ≤ 1099511627776 := by
  unfold numV
  suffices h : ∀ (l : List UInt8) (n : Nat), n ≤ 1099511627776 → l.foldl (fun n x => min (10 * n + (x.toNat - 48)) 1099511627776) n ≤ 1099511627776 from h l 0 (by omega)
  intro l
  induction l with
  | nil => intro n h; exact h
  | cons x xs ih => intro n h; exact ih _ (Nat.min_le_right _ _)
theorem numV_take {l : List UInt8} {k : Nat} (h : k < l.length) : numV (l.take (k + 1)) = min (10 * numV (l.take k) + ((l.getD k 0).toNat - 48)) 1099511627776 := by
  unfold numV
  rw [List.take_succ_eq_append_getElem h, List.foldl_append]
  simp [List.getD, h]
def signed (l : List UInt8) : Bool := Lib.hasPrefix l [45]
def body (l : List UInt8) : List UInt8 := Lib.trimPrefix l [45]
theorem body_le (l : List UInt8) : (body l).length ≤ l.length := by
  unfold body Lib.trimPrefix
  split
  · simp
  · exact Nat.le_refl _
/-- How many digits it begins with. -/
def lead (l : List UInt8) : Nat := l.findIdx (fun x => !digit x)
theorem lead_le (l : List UInt8) : lead l ≤ l.length := List.findIdx_le_length
theorem lead_all {l : List UInt8} (h : lead l = l.length) (k : Nat) (hk : k < l.length) : 48 ≤ (l.getD k 0).toNat ∧ (l.getD k 0).toNat ≤ 57 := by
  have := List.findIdx_eq_length.1 h (l[k]) (List.getElem_mem hk)
  have e : l.getD k 0 = l[k] := by simp [List.getD, hk]
  rw [e]
  unfold digit at this
  simpa using this
def numL (l : List UInt8) : Int × Bool :=
  if (body l).length = 0 ∨ lead (body l) < (body l).length then (0, false) else (if signed l = true then 0 - (numV (body l) : Int) else (numV (body l) : Int), true)
/-- The parts that end ahead of place k, and where the next one begins. -/
def splitK (l : List UInt8) (c : UInt8) : Nat → List (List UInt8) × Nat
  | 0 => ([], 0)
  | k + 1 => if (l.getD k 0 == c) = true then ((splitK l c k).1 ++ [(l.drop (splitK l c k).2).take (k - (splitK l c k).2)], k + 1) else splitK l c k
theorem splitK_le (l : List UInt8) (c : UInt8) : ∀ k, (splitK l c k).1.length ≤ k ∧ (splitK l c k).2 ≤ k
  | 0 => ⟨Nat.le_refl _, Nat.le_refl _⟩
  | k + 1 => by
    unfold splitK
    have := splitK_le l c k
    split
    · simp
      omega
    · omega
/-- The parts between bytes c. -/
def splitL (l : List UInt8) (c : UInt8) : List (List UInt8) := (splitK l c l.length).1 ++ [l.drop (splitK l c l.length).2]
/-- Parts with the byte between them. -/
def joinL (c : UInt8) : List (List UInt8) → List UInt8
  | [] => []
  | [x] => x
  | x :: y :: r => x ++ c :: joinL c (y :: r)
theorem joinL_snoc (c : UInt8) : ∀ (p : List (List UInt8)) (x : List UInt8), p ≠ [] → joinL c (p ++ [x]) = joinL c p ++ c :: x
  | [], _, h => absurd rfl h
  | [a], x, _ => rfl
  | a :: b :: r, x, _ => by
    show a ++ c :: joinL c ((b :: r) ++ [x]) = _
    rw [joinL_snoc c (b :: r) x (by simp)]
    simp [joinL]
theorem joinL_split (l : List UInt8) (c : UInt8) : ∀ k, k ≤ l.length → joinL c ((splitK l c k).1 ++ [(l.drop (splitK l c k).2).take (k - (splitK l c k).2)]) = l.take k
  | 0, _ => by simp [splitK, joinL]
  | k + 1, hk => by
    have ih := joinL_split l c k (by omega)
    have hle := splitK_le l c k
    have ht : l.take (k + 1) = l.take k ++ [l.getD k 0] := by
      rw [List.take_succ_eq_append_getElem (by omega)]
      simp [List.getD, show k < l.length by omega]
    by_cases h : (l.getD k 0 == c) = true
    · have e : splitK l c (k + 1) = ((splitK l c k).1 ++ [(l.drop (splitK l c k).2).take (k - (splitK l c k).2)], k + 1) := by
        show (if _ then _ else _) = _
        rw [if_pos h]
      rw [e]
      simp only []
      rw [joinL_snoc c _ _ (by simp), ih, ht]
      have : l.getD k 0 = c := by simpa using h
      simp only [Nat.sub_self, List.take_zero]
      rw [this]
    · have e : splitK l c (k + 1) = splitK l c k := by
        show (if _ then _ else _) = _
        rw [if_neg h]
      rw [e, ht, ← ih]
      generalize splitK l c k = q at *
      obtain ⟨p, s⟩ := q
      simp only at *
      have e2 : (l.drop s).take (k + 1 - s) = (l.drop s).take (k - s) ++ [l.getD k 0] := by
        have : k + 1 - s = (k - s) + 1 := by omega
        rw [this, List.take_succ_eq_append_getElem (by simp; omega)]
        congr 2
        simp [List.getD, show k < l.length by omega, show s + (k - s) = k by omega]
      rw [e2]
      cases p with
      | nil => rfl
      | cons a r => rw [joinL_snoc c _ _ (by simp), joinL_snoc c _ _ (by simp)]; simp
theorem joinL_all (l : List UInt8) (c : UInt8) : joinL c (splitL l c) = l := by
  have h := joinL_split l c l.length (Nat.le_refl _)
  have hle := splitK_le l c l.length
  rw [List.take_of_length_le (by simp)] at h
  unfold splitL
  rw [h, List.take_of_length_le (Nat.le_refl _)]
theorem endB_blank {l : List UInt8} : ∀ {k : Nat}, endB l k = 0 → ∀ j, j < k → blank (l.getD j 0) = true
  | 0, _, j, hj => absurd hj (by omega)
  | k + 1, h, j, hj => by
    unfold endB at h
    split at h
    · rename_i hb
      rcases Nat.lt_succ_iff_lt_or_eq.1 hj with h2 | rfl
      · exact endB_blank h j h2
      · exact hb
    · omega
theorem endB_at {l : List UInt8} : ∀ {k e : Nat}, endB l k = e + 1 → blank (l.getD e 0) = false
  | 0, e, h => by unfold endB at h; omega
  | k + 1, e, h => by
    unfold endB at h
    split at h
    · exact endB_at h
    · rename_i hb
      obtain rfl : k = e := by omega
      simpa using hb
/-- Where the first byte that is no blank stands. -/
def nb (l : List UInt8) : Nat := l.findIdx (fun x => !blank x)
theorem nb_le (l : List UInt8) : nb l ≤ l.length := List.findIdx_le_length
theorem nb_lt {l : List UInt8} {k : Nat} (h : k < nb l) : blank (l.getD k 0) = true := by
  have h2 : k < l.length := Nat.lt_of_lt_of_le h (nb_le l)
  have := List.not_of_lt_findIdx h
  simp only [List.getD, List.getElem?_eq_getElem h2, Option.getD_some]
  simpa using this
theorem nb_at {l : List UInt8} (h : nb l < l.length) : blank (l.getD (nb l) 0) = false := by
  have : (!blank (l[nb l]'h)) = true := List.findIdx_getElem (xs := l) (p := fun x => !blank x) (w := h)
  have e : l.getD (nb l) 0 = l[nb l] := by simp [List.getD, h]
  rw [e]
  simpa using this
/-- What the reference cuts out. -/
theorem trimL_max (l : List UInt8) : (l.drop (nb l)).take (max (nb l) (endB l l.length) - nb l) = trimL l := by
  have hle := endB_le l l.length
  have hn := nb_le l
  rcases Nat.eq_zero_or_pos (endB l l.length) with h0 | h0
  · have e1 : nb l = l.length := by
      rcases Nat.lt_or_ge (nb l) l.length with h1 | h1
      · have h2 := nb_at h1
        rw [endB_blank h0 _ h1] at h2
        cases h2
      · omega
    unfold trimL
    rw [h0, e1]
    simp
  · obtain ⟨e, he⟩ : ∃ e, endB l l.length = e + 1 := ⟨endB l l.length - 1, by omega⟩
    have hb := endB_at he
    have hlt : nb l < e + 1 := by
      rcases Nat.lt_or_ge (nb l) (e + 1) with h1 | h1
      · exact h1
      · rw [nb_lt (show e < nb l by omega)] at hb
        cases hb
    have hf : frontB l = nb l := by
      unfold frontB
      rw [he]
      refine findIdx_at (fun j hj => ?_) (by rw [List.length_take]; omega) ?_
      · have e2 : (l.take (e + 1)).getD j 0 = l.getD j 0 := by simp [List.getD, show j < e + 1 by omega]
        rw [e2, nb_lt hj]
        rfl
      · have e2 : (l.take (e + 1)).getD (nb l) 0 = l.getD (nb l) 0 := by simp [List.getD, hlt]
        rw [e2, nb_at (by omega)]
        rfl
    unfold trimL
    rw [hf, he, Nat.max_eq_right (by omega)]
theorem endB_step {l : List UInt8} {t : Nat} (h : blank (l.getD t 0) = true) : endB l (t + 1) = endB l t := by
  show (if _ then _ else _) = _
  rw [if_pos h]
theorem endB_stop {l : List UInt8} {t : Nat} (h : blank (l.getD t 0) = false) : endB l (t + 1) = t + 1 := by
  show (if _ then _ else _) = _
  rw [if_neg (by rw [h]; decide)]
theorem lead_lt {l : List UInt8} {k : Nat} (h : k < lead l) : 48 ≤ (l.getD k 0).toNat ∧ (l.getD k 0).toNat ≤ 57 := by
  have h2 : k < l.length := Nat.lt_of_lt_of_le h (lead_le l)
  have := List.not_of_lt_findIdx h
  simp only [List.getD, List.getElem?_eq_getElem h2, Option.getD_some]
  unfold digit at this
  simpa using this
theorem lead_at {l : List UInt8} (h : lead l < l.length) : ¬ (48 ≤ (l.getD (lead l) 0).toNat ∧ (l.getD (lead l) 0).toNat ≤ 57) := by
  have : (!digit (l[lead l]'h)) = true := List.findIdx_getElem (xs := l) (p := fun x => !digit x) (w := h)
  have e : l.getD (lead l) 0 = l[lead l] := by simp [List.getD, h]
  rw [e]
  unfold digit at this
  simp at this
  omega
theorem signed_yes {l : List UInt8} (h : signed l = true) : 1 ≤ l.length ∧ (l.getD 0 0).toNat = 45 ∧ body l = l.drop 1 := by
  unfold signed Lib.hasPrefix at h
  cases l with
  | nil => simp at h
  | cons x xs =>
    simp at h
    subst h
    exact ⟨by simp, rfl, rfl⟩
theorem signed_no {l : List UInt8} (h : signed l = false) : (l.length = 0 ∨ (l.getD 0 0).toNat ≠ 45) ∧ body l = l := by
  unfold body Lib.trimPrefix
  unfold signed at h
  rw [h]
  refine ⟨?_, rfl⟩
  unfold Lib.hasPrefix at h
  cases l with
  | nil => exact .inl rfl
  | cons x xs =>
    right
    intro hx
    have : x = 45 := UInt8.toNat_inj.1 hx
    subst this
    simp at h
theorem joinL_le (c : UInt8) : ∀ (p q : List (List UInt8)), (joinL c p).length ≤ (joinL c (p ++ q)).length
  | [], q => by simp [joinL]
  | [x], [] => Nat.le_refl _
  | [x], y :: r => by
    show x.length ≤ (x ++ c :: joinL c (y :: r)).length
    simp
  | x :: y :: r, q => by
    have h := joinL_le c (y :: r) q
    show (x ++ c :: joinL c (y :: r)).length ≤ (x ++ c :: joinL c ((y :: r) ++ q)).length
    simp only [List.length_append, List.length_cons]
    omega
theorem joinL_take (c : UInt8) (p : List (List UInt8)) (i : Nat) (hi : i < p.length) : joinL c (p.take (i + 1)) = if i = 0 then p.getD 0 [] else joinL c (p.take i) ++ c :: p.getD i [] := by
  have ht : p.take (i + 1) = p.take i ++ [p.getD i []] := by
    rw [List.take_succ_eq_append_getElem hi]
    simp [List.getD, hi]
  rw [ht]
  by_cases h : i = 0
  · subst h
    rw [if_pos rfl]
    rfl
  · rw [if_neg h, joinL_snoc]
    intro h2
    have := congrArg List.length h2
    rw [List.length_take, List.length_nil] at this
    omega
theorem joinL_take_le (c : UInt8) (p : List (List UInt8)) (i : Nat) : (joinL c (p.take i)).length ≤ (joinL c p).length := by
  have := joinL_le c (p.take i) (p.drop i)
  rwa [List.take_append_drop] at this
theorem splitL_pos (l : List UInt8) (c : UInt8) : 1 ≤ (splitL l c).length := by unfold splitL; simp
theorem splitL_le (l : List UInt8) (c : UInt8) : (splitL l c).length ≤ l.length + 1 := by
  unfold splitL
  have := (splitK_le l c l.length).1
  simp
  omega
theorem mem_join_le (c : UInt8) : ∀ (p : List (List UInt8)) (x : List UInt8), x ∈ p → x.length ≤ (joinL c p).length
  | [], x, h => by cases h
  | [y], x, h => by simp at h; subst h; exact Nat.le_refl _
  | y :: z :: r, x, h => by
    show x.length ≤ (y ++ c :: joinL c (z :: r)).length
    simp only [List.length_append, List.length_cons]
    rcases List.mem_cons.1 h with rfl | h2
    · omega
    · have := mem_join_le c (z :: r) x h2
      omega
end Go.Proofs.Ytlggjijgilcloaa
