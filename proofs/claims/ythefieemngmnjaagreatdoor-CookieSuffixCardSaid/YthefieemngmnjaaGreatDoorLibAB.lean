/- Contracts and plain words that the laws' proofs stand on, put together. -/
import Derived.Test.YthefieemngmnjaaGreatDoorAsciiPlain
import Derived.Lib.ItoaLen
import Derived.Lib.AppendIntMem
/- Blanks at the ends of a text: what is left without them. No program in it. -/
namespace Go.Proofs.YthefieemngmnjaaGreatDoor
set_option linter.unusedVariables false

/-- A text without blanks at its ends. -/
def trimmed (t : List UInt8) : Prop := t = [] ∨ (blank (t.getD 0 0) = false ∧ blank (t.getD (t.length - 1) 0) = false)

theorem endB_run (l : List UInt8) (e : Nat) : ∀ j, (∀ i, e ≤ i → i < e + j → blank (l.getD i 0) = true) → endB l (e + j) = endB l e
  | 0, _ => rfl
  | j + 1, h => by
    rw [← Nat.add_assoc, endB_step (h (e + j) (by omega) (by omega))]
    exact endB_run l e j fun i h1 h2 => h i h1 (by omega)

theorem getD_left {a b : List UInt8} {i : Nat} (h : i < a.length) : (a ++ b).getD i 0 = a.getD i 0 := by
  simp only [List.getD]
  rw [List.getElem?_append_left h]

theorem getD_right {a b : List UInt8} (i : Nat) : (a ++ b).getD (a.length + i) 0 = b.getD i 0 := by
  simp only [List.getD]
  rw [List.getElem?_append_right (by omega), Nat.add_sub_cancel_left]

theorem all_getD {u : List UInt8} (h : u.all blank = true) {i : Nat} (hi : i < u.length) : blank (u.getD i 0) = true := by
  have := List.all_eq_true.1 h u[i] (List.getElem_mem hi)
  simpa [List.getD, List.getElem?_eq_getElem hi] using this

/-- What is left, told by what stands around it. -/
theorem trim_is {u t v : List UInt8} (hu : u.all blank = true) (hv : v.all blank = true) (ht : trimmed t) : trimL (u ++ (t ++ v)) = t := by
  have hlen : (u ++ (t ++ v)).length = u.length + t.length + v.length := by simp; omega
  have hrun : endB (u ++ (t ++ v)) (u ++ (t ++ v)).length = endB (u ++ (t ++ v)) (u.length + t.length) := by
    rw [hlen]
    refine endB_run _ _ _ fun i h1 h2 => ?_
    obtain ⟨j, rfl⟩ : ∃ j, i = u.length + (t.length + j) := ⟨i - u.length - t.length, by omega⟩
    rw [getD_right, getD_right]
    exact all_getD hv (by omega)
  unfold trimL frontB
  have ht' : t = [] ∨ (t ≠ [] ∧ blank (t.getD 0 0) = false ∧ blank (t.getD (t.length - 1) 0) = false) := by
    by_cases e : t = []
    · exact .inl e
    · rcases ht with h | h
      · exact .inl h
      · exact .inr ⟨e, h⟩
  rcases ht' with rfl | ⟨h0, h1, h2⟩
  · have h0 : endB (u ++ ([] ++ v)) (u.length + 0) = 0 := by
      have := endB_run (u ++ ([] ++ v)) 0 u.length (fun i _ h => by
        rw [getD_left (by omega)]
        exact all_getD hu (by omega))
      rw [Nat.zero_add] at this
      exact this
    simp only [List.length_nil] at hrun
    rw [hrun, h0]
    simp
  · have hpos : 0 < t.length := List.length_pos_iff.2 h0
    have h0 : endB (u ++ (t ++ v)) (u.length + t.length) = u.length + t.length := by
      obtain ⟨m, hm⟩ : ∃ m, t.length = m + 1 := ⟨t.length - 1, by omega⟩
      rw [hm, ← Nat.add_assoc]
      refine endB_stop ?_
      rw [getD_right, getD_left (by omega)]
      rw [hm, Nat.add_sub_cancel] at h2
      exact h2
    rw [hrun, h0]
    have htake : (u ++ (t ++ v)).take (u.length + t.length) = u ++ t := by
      rw [← List.append_assoc, ← List.length_append, List.take_left]
    have hfront : (u ++ t).findIdx (fun x => !blank x) = u.length := by
      refine findIdx_at (fun j hj => ?_) (by rw [List.length_append]; omega) ?_
      · rw [getD_left hj, all_getD hu hj]; rfl
      · have := getD_right (a := u) (b := t) 0
        rw [Nat.add_zero] at this
        rw [this, h1]; rfl
    rw [htake, hfront, List.drop_left, Nat.add_sub_cancel_left, List.take_left]

theorem trim_self {t : List UInt8} (ht : trimmed t) : trimL t = t := by
  have := trim_is (u := []) (v := []) rfl rfl ht
  simpa using this

theorem endB_blanks {l : List UInt8} : ∀ {k : Nat}, ∀ i, endB l k ≤ i → i < k → blank (l.getD i 0) = true
  | 0, i, _, h => by omega
  | k + 1, i, h1, h2 => by
    by_cases hb : blank (l.getD k 0) = true
    · by_cases e : i = k
      · rw [e]; exact hb
      · rw [endB_step hb] at h1
        exact endB_blanks i h1 (by omega)
    · rw [endB_stop (by simpa using hb)] at h1
      omega

/-- A text is what is left of it, with blanks around. -/
theorem trim_parts (l : List UInt8) : ∃ u v : List UInt8, u.all blank = true ∧ v.all blank = true ∧ l = u ++ (trimL l ++ v) ∧ trimmed (trimL l) := by
  have hle := endB_le l l.length
  have hfl := frontB_le l
  refine ⟨l.take (frontB l), l.drop (endB l l.length), ?_, ?_, ?_, ?_⟩
  · rw [List.all_eq_true]
    intro x hx
    obtain ⟨i, hi, rfl⟩ := List.getElem_of_mem hx
    rw [List.length_take] at hi
    have h1 : i < (l.take (endB l l.length)).findIdx (fun x => !blank x) := by unfold frontB at hi; omega
    have h2 := List.not_of_lt_findIdx h1
    simp only [Bool.not_eq_false'] at h2
    rw [List.getElem_take] at h2 ⊢
    simpa using h2
  · rw [List.all_eq_true]
    intro x hx
    obtain ⟨i, hi, rfl⟩ := List.getElem_of_mem hx
    rw [List.length_drop] at hi
    have := endB_blanks (l := l) (k := l.length) (endB l l.length + i) (by omega) (by omega)
    rw [List.getElem_drop]
    simpa [List.getD, show endB l l.length + i < l.length by omega] using this
  · unfold trimL
    have e1 : l.drop (endB l l.length) = (l.drop (frontB l)).drop (endB l l.length - frontB l) := by
      rw [List.drop_drop]
      congr 1
      omega
    rw [e1, List.take_append_drop, List.take_append_drop]
  · by_cases h0 : frontB l < endB l l.length
    · right
      have ht : (trimL l).length = endB l l.length - frontB l := by
        unfold trimL
        rw [List.length_take, List.length_drop]
        omega
      have hat : ∀ i, i < endB l l.length - frontB l → (trimL l).getD i 0 = l.getD (frontB l + i) 0 := fun i hi => by
        unfold trimL
        simp only [List.getD]
        rw [List.getElem?_take_of_lt hi, List.getElem?_drop]
      constructor
      · rw [hat 0 (by omega), Nat.add_zero]
        have hlt : frontB l < (l.take (endB l l.length)).length := by rw [List.length_take]; omega
        have h3 : (!blank ((l.take (endB l l.length))[frontB l]'hlt)) = true := List.findIdx_getElem (p := fun x => !blank x) (xs := l.take (endB l l.length)) (w := hlt)
        rw [List.getElem_take] at h3
        have h4 : frontB l < l.length := by omega
        simp only [List.getD, List.getElem?_eq_getElem h4, Option.getD_some]
        simpa using h3
      · rw [ht, hat _ (by omega)]
        have e : frontB l + (endB l l.length - frontB l - 1) = endB l l.length - 1 := by omega
        rw [e]
        obtain ⟨m, hm⟩ : ∃ m, endB l l.length = m + 1 := ⟨endB l l.length - 1, by omega⟩
        have := endB_at hm
        rw [hm, Nat.add_sub_cancel]
        exact this
    · left
      unfold trimL
      have : endB l l.length - frontB l = 0 := by omega
      rw [this]; rfl

theorem trim_trimmed (l : List UInt8) : trimmed (trimL l) := by
  obtain ⟨_, _, _, _, _, h⟩ := trim_parts l
  exact h

theorem trim_mem {l : List UInt8} {x : UInt8} (h : x ∈ trimL l) : x ∈ l := by
  obtain ⟨u, v, -, -, e, -⟩ := trim_parts l
  rw [e]
  simp [h]

theorem trim_length (l : List UInt8) : (trimL l).length ≤ l.length := by
  obtain ⟨u, v, -, -, e, -⟩ := trim_parts l
  have := congrArg List.length e
  simp at this
  omega
end Go.Proofs.YthefieemngmnjaaGreatDoor

/- Decimal digits of a number: plain, with no program in it. -/
namespace Go.Proofs.YthefieemngmnjaaGreatDoor
open Go.RowKit
set_option linter.unusedVariables false

/-- What the library's functions read of its variables: the table that numerals are written by; the number that a search asks for. -/
structure PTab (P : Program) (w : World) : Prop where
  tab : Lib.TabIs P w "internal/strconv.uint64pow10" .u64 Lib.pow10Tab
  most : ∀ g, P.globalNamed "internal/bytealg.MaxLen" = some g → ∃ m, w.cell? ⟨g, 0, none⟩ = some (.int .i64 m)
theorem PTab.below {P : Program} {w w' : World} (h : PTab P w) (hb : Below w.heap.size w w') : PTab P w' := by
  refine ⟨?_, fun g hg => ?_⟩
  · have h := h.tab
    unfold Lib.TabIs at h ⊢
    unfold World.var? at h ⊢
    cases hg : P.globalNamed "internal/strconv.uint64pow10" with
    | none => rw [hg] at h; cases h
    | some g =>
      rw [hg] at h
      simp only [Option.bind_some] at h ⊢
      have hlt : g < w.heap.size := by
        rcases Nat.lt_or_ge g w.heap.size with h1 | h1
        · exact h1
        · rw [Array.getElem?_eq_none h1] at h; cases h
      rw [hb.block g hlt]
      exact h
  · obtain ⟨m, hm⟩ := h.most g hg
    have hlt : g < w.heap.size := by
      rcases Nat.lt_or_ge g w.heap.size with h1 | h1
      · exact h1
      · unfold World.cell? at hm
        rw [Array.getElem?_eq_none h1] at hm; cases hm
    exact ⟨m, (hb.cell hlt).trans hm⟩

theorem decDigits_snoc (u : Nat) (h : ¬ u < 10) : Lib.decDigits u = Lib.decDigits (u / 10) ++ [UInt8.ofNat (48 + u % 10)] := by
  rw [Lib.decDigits, dif_neg h]
theorem digit_toNat (d : Nat) (h : d < 10) : (UInt8.ofNat (48 + d)).toNat = 48 + d := by
  rw [UInt8.toNat_ofNat']
  omega
theorem decDigits_digits (u : Nat) : ∀ x ∈ Lib.decDigits u, 48 ≤ x.toNat ∧ x.toNat ≤ 57 := by
  induction u using Nat.strongRecOn with
  | ind u ih =>
    by_cases h : u < 10
    · rw [Lib.decDigits_one h]
      intro x hx
      simp only [List.mem_singleton] at hx
      subst hx
      rw [digit_toNat u h]
      omega
    · rw [decDigits_snoc u h]
      intro x hx
      rcases List.mem_append.1 hx with h1 | h1
      · exact ih (u / 10) (by omega) x h1
      · simp only [List.mem_singleton] at h1
        subst h1
        rw [digit_toNat _ (by omega)]
        omega
theorem decDigits_pos (u : Nat) : 1 ≤ (Lib.decDigits u).length := by
  rw [Lib.decDigits_length]
  exact Lib.nDigits_pos u
theorem numV_snoc (l : List UInt8) (x : UInt8) : numV (l ++ [x]) = min (10 * numV l + (x.toNat - 48)) 1099511627776 := by
  unfold numV
  rw [List.foldl_append]
  rfl
theorem numV_decDigits (u : Nat) : numV (Lib.decDigits u) = min u 1099511627776 := by
  induction u using Nat.strongRecOn with
  | ind u ih =>
    by_cases h : u < 10
    · rw [Lib.decDigits_one h, ← List.nil_append [UInt8.ofNat (48 + u)], numV_snoc, numV_nil, digit_toNat u h]
      omega
    · rw [decDigits_snoc u h, numV_snoc, ih (u / 10) (by omega), digit_toNat _ (by omega)]
      omega
theorem lead_decDigits (u : Nat) : lead (Lib.decDigits u) = (Lib.decDigits u).length := by
  unfold lead
  rw [List.findIdx_eq_length]
  intro x hx
  have := decDigits_digits u x hx
  unfold digit
  simp
  omega
/-- A number, 2^40 at most, -2^40 at least. -/
def sat (n : Int) : Int := if n < -1099511627776 then -1099511627776 else if 1099511627776 < n then 1099511627776 else n
theorem signed_digits (u : Nat) : signed (Lib.decDigits u) = false ∧ body (Lib.decDigits u) = Lib.decDigits u := by
  have hs : signed (Lib.decDigits u) = false := by
    have h1 := decDigits_pos u
    have h2 := decDigits_digits u
    cases hb : signed (Lib.decDigits u) with
    | false => rfl
    | true =>
      have h3 := (signed_yes hb).2.1
      have h4 : (Lib.decDigits u).getD 0 0 ∈ Lib.decDigits u := by
        simp only [List.getD, List.getElem?_eq_getElem (show 0 < (Lib.decDigits u).length by omega), Option.getD_some]
        exact List.getElem_mem _
      have := h2 _ h4
      omega
  exact ⟨hs, (signed_no hs).2⟩
theorem numL_itoa (n : Int) : numL (Lib.itoa n) = (sat n, true) := by
  unfold numL Lib.itoa
  by_cases h : n < 0
  · rw [if_pos h]
    have hs : signed (45 :: Lib.decDigits n.natAbs) = true := by unfold signed Lib.hasPrefix; simp
    have hb := (signed_yes hs).2.2
    rw [hb, hs]
    have e : List.drop 1 (45 :: Lib.decDigits n.natAbs) = Lib.decDigits n.natAbs := rfl
    have hp := decDigits_pos n.natAbs
    rw [e, lead_decDigits, if_neg (by omega), numV_decDigits, if_pos rfl]
    unfold sat
    congr 1
    split
    · omega
    · split <;> omega
  · rw [if_neg h]
    obtain ⟨hs, hb⟩ := signed_digits n.toNat
    have hp := decDigits_pos n.toNat
    rw [hb, hs, lead_decDigits, if_neg (by omega), numV_decDigits, if_neg (by decide)]
    unfold sat
    congr 1
    split
    · omega
    · split <;> omega
end Go.Proofs.YthefieemngmnjaaGreatDoor
