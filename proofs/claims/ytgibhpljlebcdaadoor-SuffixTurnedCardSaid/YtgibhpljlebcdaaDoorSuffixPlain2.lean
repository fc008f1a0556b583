/- Public suffixes in plain words: what a name's own one and what is its own have in common. No program in it. -/
import Derived.Test.YtgibhpljlebcdaaDoorSuffixPlain
namespace Go.Proofs.YtgibhpljlebcdaaDoor
open Go.RowKit
set_option linter.unusedVariables false

/-- What Check, Of, Public and Own answer. -/
def checkN (R : List (List UInt8)) : Int := if 256 < R.length then 3 else if R.all ruleB = true then 0 else 1
def ofR (R : List (List UInt8)) (s : List UInt8) : List UInt8 × Int :=
  if checkN R ≠ 0 then ([], checkN R) else if nameB s = true then (ofL R s, 0) else ([], 1)
def publicR (R : List (List UInt8)) (s : List UInt8) : Bool := decide ((ofR R s).2 = 0) && (ofR R s).1 == s
def ownR (R : List (List UInt8)) (s : List UInt8) : List UInt8 × Bool :=
  if (ofR R s).2 = 0 ∧ (ofR R s).1 ≠ s then (lastN s ((splitL (ofR R s).1 46).length + 1), true) else ([], false)

theorem last_all (s : List UInt8) : lastN s (splitL s 46).length = s := by
  unfold lastN
  have := splitL_pos s 46
  rw [if_neg (by omega), Nat.sub_self, tail_zero]

theorem last_split {s : List UInt8} (h : (splitL s 46).all labelB = true) {m : Nat} (h1 : 1 ≤ m) (h2 : m ≤ (splitL s 46).length) : splitL (lastN s m) 46 = (splitL s 46).drop ((splitL s 46).length - m) := by
  unfold lastN
  rw [if_neg (by omega)]
  exact tail_split h _ (by omega)

theorem last_count {s : List UInt8} (h : (splitL s 46).all labelB = true) {m : Nat} (h1 : 1 ≤ m) (h2 : m ≤ (splitL s 46).length) : (splitL (lastN s m) 46).length = m := by
  rw [last_split h h1 h2, List.length_drop]
  omega

theorem last_last {s : List UInt8} (h : (splitL s 46).all labelB = true) {n m : Nat} (h1 : 1 ≤ m) (h2 : m ≤ (splitL s 46).length) (h3 : n ≤ m) : lastN (lastN s m) n = lastN s n := by
  have hc := last_count h h1 h2
  have hs := last_split h h1 h2
  rcases Nat.eq_zero_or_pos n with rfl | hn
  · rfl
  · have e1 : lastN (lastN s m) n = joinL 46 ((splitL (lastN s m) 46).drop ((splitL (lastN s m) 46).length - n)) := by
      show (if n = 0 then [] else tailL (lastN s m) ((splitL (lastN s m) 46).length - n)) = _
      rw [if_neg (by omega)]
      rfl
    have e2 : lastN s n = joinL 46 ((splitL s 46).drop ((splitL s 46).length - n)) := by
      unfold lastN
      rw [if_neg (by omega)]
      rfl
    rw [e1, e2, hc, hs, List.drop_drop]
    congr 2
    omega

/-- So many labels, and one more ahead. -/
theorem last_next {s : List UInt8} {j : Nat} (h1 : 1 ≤ j) (h2 : j + 1 ≤ (splitL s 46).length) : lastN s (j + 1) = (splitL s 46).getD ((splitL s 46).length - (j + 1)) [] ++ 46 :: lastN s j := by
  unfold lastN
  rw [if_neg (by omega), if_neg (by omega)]
  have h := tail_next (s := s) ((splitL s 46).length - (j + 1)) (by omega)
  have e : (splitL s 46).length - (j + 1) + 1 = (splitL s 46).length - j := by omega
  rw [e] at h
  exact h

theorem last_match {s : List UInt8} (h : nameB s = true) {j : Nat} (h1 : 1 ≤ j) (h2 : j ≤ (splitL s 46).length) : matchB s (lastN s j) = true := by
  unfold lastN
  rw [if_neg (by omega)]
  exact tail_match h _ (by omega)

/-- How a name's public suffix is found. -/
theorem of_cases {R : List (List UInt8)} {s : List UInt8} (hR : R.all ruleB = true) (hs : nameB s = true) :
    ∃ j, 1 ≤ j ∧ j ≤ (splitL s 46).length ∧ ofL R s = lastN s j ∧
      ((j + 1 ≤ (splitL s 46).length ∧ notAt R s (j + 1) = true) ∨
       ((∀ m, 1 ≤ m → m ≤ (splitL s 46).length → notAt R s m = false) ∧ (∀ m, j < m → m ≤ (splitL s 46).length → fitAt R s m = false) ∧ (fitAt R s j = true ∨ (j = 1 ∧ fitAt R s 1 = false)))) := by
  have hK := splitL_pos s 46
  have hall := (name_labels hs).2.2
  obtain ⟨K, hKe⟩ : ∃ K, (splitL s 46).length = K := ⟨_, rfl⟩
  have hcnt := fun m h1 h2 => last_count hall (m := m) h1 h2
  unfold ofL
  rw [hKe] at hK hcnt ⊢
  have a1 := topAt_le (notAt R s) K
  have a2 := topAt_yes (notAt R s) K
  have a3 := topAt_no (notAt R s) K
  have b1 := topAt_le (fitAt R s) K
  have b2 := topAt_yes (fitAt R s) K
  have b3 := topAt_no (fitAt R s) K
  generalize topAt (notAt R s) K = a at *
  generalize topAt (fitAt R s) K = b at *
  by_cases ha : 0 < a
  · rw [if_pos ha]
    have hn := a2 ha
    have h2 : 2 ≤ a := by
      unfold notAt at hn
      obtain ⟨r, hr, hp⟩ := List.any_eq_true.1 hn
      rw [Bool.and_eq_true, beq_iff_eq, beq_iff_eq] at hp
      have hru := List.all_eq_true.1 hR r hr
      unfold ruleB at hru
      rw [Bool.and_eq_true, hp.1, hp.2] at hru
      have hd : hasDot (lastN s a) = true := by simpa using hru.2
      rw [dot_two, decide_eq_true_iff, hcnt a (by omega) a1] at hd
      exact hd
    refine ⟨a - 1, by omega, by omega, rfl, .inl ⟨by omega, ?_⟩⟩
    have e : a - 1 + 1 = a := by omega
    rw [e]
    exact hn
  · rw [if_neg ha]
    have ha0 : ∀ m, 1 ≤ m → m ≤ K → notAt R s m = false := fun m h1 h2 => a3 m (by omega) h2
    by_cases hb : 0 < b
    · rw [if_pos hb]
      exact ⟨b, by omega, b1, rfl, .inr ⟨ha0, b3, .inl (b2 hb)⟩⟩
    · rw [if_neg hb]
      exact ⟨1, by omega, by omega, rfl, .inr ⟨ha0, fun m h1 h2 => b3 m (by omega) h2, .inr ⟨rfl, b3 1 (by omega) (by omega)⟩⟩⟩

theorem notAt_last {R : List (List UInt8)} {s : List UInt8} (h : (splitL s 46).all labelB = true) {n m : Nat} (h1 : 1 ≤ m) (h2 : m ≤ (splitL s 46).length) (h3 : n ≤ m) : notAt R (lastN s m) n = notAt R s n := by
  unfold notAt
  rw [last_last h h1 h2 h3]

theorem fitAt_last {R : List (List UInt8)} {s : List UInt8} (h : (splitL s 46).all labelB = true) {n m : Nat} (h1 : 1 ≤ m) (h2 : m ≤ (splitL s 46).length) (h3 : n ≤ m) : fitAt R (lastN s m) n = fitAt R s n := by
  unfold fitAt fitB
  rw [last_last h h1 h2 h3, last_last h h1 h2 (by omega)]

/-- Names that have one own have one public suffix. -/
theorem own_same {R : List (List UInt8)} {s : List UInt8} (hR : R.all ruleB = true) (hs : nameB s = true) {j : Nat} (h1 : 1 ≤ j) (h2 : j + 1 ≤ (splitL s 46).length)
    (hj : (notAt R s (j + 1) = true) ∨ ((∀ m, 1 ≤ m → m ≤ (splitL s 46).length → notAt R s m = false) ∧ (∀ m, j < m → m ≤ (splitL s 46).length → fitAt R s m = false) ∧ (fitAt R s j = true ∨ (j = 1 ∧ fitAt R s 1 = false)))) :
    ofL R (lastN s (j + 1)) = lastN s j := by
  have hall := (name_labels hs).2.2
  have hc := last_count hall (m := j + 1) (by omega) h2
  have hN := fun n (h : n ≤ j + 1) => notAt_last (R := R) hall (by omega) h2 h
  have hF := fun n (h : n ≤ j + 1) => fitAt_last (R := R) hall (by omega) h2 h
  have hL := fun n (h : n ≤ j + 1) => last_last hall (by omega) h2 h
  unfold ofL
  rw [hc]
  rcases hj with hj | ⟨h3, h4, h5⟩
  · have e : topAt (notAt R (lastN s (j + 1))) (j + 1) = j + 1 := topAt_is (Nat.le_refl _) (fun _ => by rw [hN _ (Nat.le_refl _)]; exact hj) (fun m a b => by omega)
    rw [e, if_pos (by omega)]
    exact hL j (by omega)
  · have e : topAt (notAt R (lastN s (j + 1))) (j + 1) = 0 := topAt_is (Nat.zero_le _) (fun h => absurd h (by omega)) (fun m a b => by rw [hN m b]; exact h3 m (by omega) (by omega))
    rw [e, if_neg (by omega)]
    rcases h5 with h5 | ⟨rfl, h5⟩
    · have e2 : topAt (fitAt R (lastN s (j + 1))) (j + 1) = j := topAt_is (by omega) (fun _ => by rw [hF j (by omega)]; exact h5) (fun m a b => by rw [hF m b]; exact h4 m a (by omega))
      rw [e2, if_pos (by omega)]
      exact hL j (by omega)
    · have e2 : topAt (fitAt R (lastN s (1 + 1))) (1 + 1) = 0 := topAt_is (Nat.zero_le _) (fun h => absurd h (by omega)) (fun m a b => by
        rw [hF m b]
        by_cases e : m = 1
        · subst e; exact h5
        · exact h4 m (by omega) (by omega))
      rw [e2, if_neg (by omega)]
      exact hL 1 (by omega)

/-- What a name's public suffix, and its own, are. -/
theorem own_is {R : List (List UInt8)} {s : List UInt8} (hR : checkN R = 0) (hs : nameB s = true) :
    ofR R s = (ofL R s, 0) ∧ matchB s (ofL R s) = true ∧ ((ofL R s = s ∧ ownR R s = ([], false)) ∨
      (ofL R s ≠ s ∧ ∃ x, (∀ y ∈ x, (y == 46) = false) ∧ 1 ≤ x.length ∧ ownR R s = (x ++ 46 :: ofL R s, true) ∧ matchB s (x ++ 46 :: ofL R s) = true ∧
        (nameB (x ++ 46 :: ofL R s) = true → ofL R (x ++ 46 :: ofL R s) = ofL R s))) := by
  have hall := (name_labels hs).2.2
  have hru : R.all ruleB = true := by
    unfold checkN at hR
    split at hR
    · cases hR
    · split at hR
      · assumption
      · cases hR
  have e1 : ofR R s = (ofL R s, 0) := by
    unfold ofR
    rw [if_neg (by simp [hR]), if_pos hs]
  obtain ⟨j, h1, h2, e, hj⟩ := of_cases hru hs
  refine ⟨e1, by rw [e]; exact last_match hs h1 h2, ?_⟩
  by_cases hw : ofL R s = s
  · refine .inl ⟨hw, ?_⟩
    unfold ownR
    rw [e1, if_neg (by simp [hw])]
  · refine .inr ⟨hw, ?_⟩
    have hlt : j + 1 ≤ (splitL s 46).length := by
      by_cases hx : j = (splitL s 46).length
      · rw [e, hx, last_all] at hw
        exact absurd rfl hw
      · omega
    have hnx := last_next h1 hlt
    have hm : (splitL s 46).getD ((splitL s 46).length - (j + 1)) [] ∈ splitL s 46 := by
      have : (splitL s 46).length - (j + 1) < (splitL s 46).length := by omega
      simp only [List.getD, List.getElem?_eq_getElem this, Option.getD_some]
      exact List.getElem_mem _
    have hlab := List.all_eq_true.1 hall _ hm
    have hmat := last_match hs (j := j + 1) (by omega) hlt
    have hown := own_same hru hs h1 hlt (hj.imp (fun h => h.2) id)
    have hcj := last_count hall h1 h2
    rw [hnx] at hmat hown
    refine ⟨(splitL s 46).getD ((splitL s 46).length - (j + 1)) [], label_dot hlab, ?_, ?_, ?_, ?_⟩
    · have := labels_pos hs _ hm
      cases c : (splitL s 46).getD ((splitL s 46).length - (j + 1)) [] with
      | nil => exact absurd c this
      | cons _ _ => simp
    · unfold ownR
      rw [e1, if_pos ⟨rfl, hw⟩]
      simp only []
      rw [e, hcj, hnx]
    · rw [e]; exact hmat
    · intro _
      rw [e]; exact hown

theorem check_cases (R : List (List UInt8)) : (256 < R.length ∧ checkN R = 3) ∨ (R.length ≤ 256 ∧ R.all ruleB = false ∧ checkN R = 1) ∨ (R.length ≤ 256 ∧ R.all ruleB = true ∧ checkN R = 0) := by
  unfold checkN
  by_cases h : 256 < R.length
  · exact .inl ⟨h, if_pos h⟩
  · rw [if_neg h]
    cases R.all ruleB with
    | true => exact .inr (.inr ⟨by omega, rfl, rfl⟩)
    | false => exact .inr (.inl ⟨by omega, rfl, rfl⟩)

theorem not_is {R : List (List UInt8)} {s : List UInt8} (h : checkN R ≠ 0 ∨ nameB s = false) : ∃ e : Int, e ≠ 0 ∧ ofR R s = ([], e) ∧ ownR R s = ([], false) ∧ publicR R s = false ∧ e = (if checkN R ≠ 0 then checkN R else 1) := by
  have e1 : ofR R s = ([], if checkN R ≠ 0 then checkN R else 1) := by
    unfold ofR
    by_cases hc : checkN R ≠ 0
    · rw [if_pos hc, if_pos hc]
    · rw [if_neg hc, if_neg hc]
      rcases h with h | h
      · exact absurd h hc
      · rw [h]; rfl
  have hne : (if checkN R ≠ 0 then checkN R else (1 : Int)) ≠ 0 := by
    split
    · assumption
    · decide
  refine ⟨_, hne, e1, ?_, ?_, rfl⟩
  · unfold ownR
    rw [e1, if_neg (fun c => hne c.1)]
  · unfold publicR
    rw [e1]
    rw [decide_eq_false hne, Bool.false_and]

/-- Of rules turned round, and with any one twice. -/
theorem turned_same {R Q : List (List UInt8)} (h : ∀ x, x ∈ R ↔ x ∈ Q) (h1 : R.length ≤ 256) (h2 : Q.length ≤ 256) (s : List UInt8) : ofR R s = ofR Q s := by
  have hall : R.all ruleB = Q.all ruleB := by
    rw [Bool.eq_iff_iff, List.all_eq_true, List.all_eq_true]
    exact ⟨fun f x hx => f x ((h x).2 hx), fun f x hx => f x ((h x).1 hx)⟩
  have hc : checkN R = checkN Q := by
    unfold checkN
    rw [if_neg (show ¬ 256 < R.length by omega), if_neg (show ¬ 256 < Q.length by omega), hall]
  unfold ofR
  rw [hc, of_same h s]
end Go.Proofs.YtgibhpljlebcdaaDoor
