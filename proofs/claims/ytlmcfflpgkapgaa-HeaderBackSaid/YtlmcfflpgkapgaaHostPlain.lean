/- Names of hosts in plain words: labels, addresses, which domains a host matches. No program in it. -/
import Derived.Test.YtlmcfflpgkapgaaItoaPlain
namespace Go.Proofs.Ytlmcfflpgkapgaa
open Go.RowKit
set_option linter.unusedVariables false

def signB (x : UInt8) : Bool := (decide (97 ≤ x.toNat) && decide (x.toNat ≤ 122)) || (decide (48 ≤ x.toNat) && decide (x.toNat ≤ 57)) || decide (x.toNat = 45) || decide (x.toNat = 95)
def labelB (l : List UInt8) : Bool := decide (1 ≤ l.length) && decide (l.length ≤ 63) && !(l.getD 0 0 == 45) && !(l.getD (l.length - 1) 0 == 45) && l.all signB
def octetB (l : List UInt8) : Bool := decide (1 ≤ l.length) && decide (l.length ≤ 3) && decide (lead l = l.length) && decide (numV l ≤ 255) && (Lib.decDigits (numV l) == l)
/-- Four numbers, points between. -/
def quadB (l : List UInt8) : Bool := decide ((splitL l 46).length = 4) && (splitL l 46).all octetB
def hexB (x : UInt8) : Bool := (decide (48 ≤ x.toNat) && decide (x.toNat ≤ 57)) || (decide (97 ≤ x.toNat) && decide (x.toNat ≤ 102)) || decide (x.toNat = 58) || decide (x.toNat = 46)
def bracketB (l : List UInt8) : Bool := decide (4 ≤ l.length) && decide (l.length ≤ 47) && (l.getD 0 0 == 91) && (l.getD (l.length - 1) 0 == 93) && ((l.drop 1).take (l.length - 2)).all hexB
def addrB (l : List UInt8) : Bool := quadB l || bracketB l
def nameB (l : List UInt8) : Bool := decide (l.length ≤ 256) && !quadB l && (splitL l 46).all labelB
def canonB (l : List UInt8) : Bool := decide (l.length ≤ 256) && (nameB l || addrB l)
def belowB (h d : List UInt8) : Bool := decide (d.length < h.length) && (h.getD (h.length - d.length - 1) 0 == 46) && (h.drop (h.length - d.length) == d)
def matchB (h d : List UInt8) : Bool := canonB h && canonB d && (h == d || (nameB h && belowB h d))

theorem match_refl (a : List UInt8) : matchB a a = canonB a := by
  unfold matchB
  cases canonB a <;> simp

theorem match_cases {h d : List UInt8} (m : matchB h d = true) : canonB h = true ∧ canonB d = true ∧ (h = d ∨ (nameB h = true ∧ belowB h d = true)) := by
  unfold matchB at m
  simp only [Bool.and_eq_true, Bool.or_eq_true, beq_iff_eq] at m
  exact ⟨m.1.1, m.1.2, m.2⟩
theorem below_len {h d : List UInt8} (m : belowB h d = true) : d.length < h.length ∧ h.getD (h.length - d.length - 1) 0 = 46 ∧ h.drop (h.length - d.length) = d := by
  unfold belowB at m
  simp only [Bool.and_eq_true, beq_iff_eq, decide_eq_true_iff] at m
  exact ⟨m.1.1, m.1.2, m.2⟩

theorem match_anti {a b : List UInt8} (h1 : matchB a b = true) (h2 : matchB b a = true) : a = b := by
  obtain ⟨-, -, h1⟩ := match_cases h1
  obtain ⟨-, -, h2⟩ := match_cases h2
  rcases h1 with h1 | ⟨-, h1⟩
  · exact h1
  · rcases h2 with h2 | ⟨-, h2⟩
    · exact h2.symm
    · have := (below_len h1).1
      have := (below_len h2).1
      omega

theorem below_trans {a b c : List UInt8} (h1 : belowB a b = true) (h2 : belowB b c = true) : belowB a c = true := by
  obtain ⟨l1, p1, d1⟩ := below_len h1
  obtain ⟨l2, p2, d2⟩ := below_len h2
  unfold belowB
  simp only [Bool.and_eq_true, beq_iff_eq, decide_eq_true_iff]
  refine ⟨⟨by omega, ?_⟩, ?_⟩
  · rw [← d1] at p2
    simp only [List.getD, List.getElem?_drop] at p2
    have e : a.length - b.length + ((List.drop (a.length - b.length) a).length - c.length - 1) = a.length - c.length - 1 := by
      rw [List.length_drop]; omega
    rw [e] at p2
    simpa [List.getD] using p2
  · have key : a.length - c.length = (a.length - b.length) + (b.length - c.length) := by omega
    rw [key, ← List.drop_drop, d1, d2]

theorem match_trans {a b c : List UInt8} (h1 : matchB a b = true) (h2 : matchB b c = true) : matchB a c = true := by
  obtain ⟨c1, c2, h1⟩ := match_cases h1
  obtain ⟨c3, c4, h2⟩ := match_cases h2
  unfold matchB
  rw [c1, c4]
  rcases h1 with rfl | ⟨n1, h1⟩
  · rcases h2 with rfl | ⟨n2, h2⟩
    · simp
    · rw [n2, h2]; simp
  · rcases h2 with rfl | ⟨n2, h2⟩
    · rw [n1, h1]; simp
    · rw [n1, below_trans h1 h2]; simp

/-- Parts behind the first one. -/
theorem splitK_shift (x r : List UInt8) (c : UInt8) (hx : ∀ y ∈ x, (y == c) = false) : ∀ k, k ≤ r.length → splitK (x ++ c :: r) c (x.length + 1 + k) = (x :: (splitK r c k).1, x.length + 1 + (splitK r c k).2) := by
  have h0 : ∀ j, j ≤ x.length → splitK (x ++ c :: r) c j = ([], 0) := by
    intro j
    induction j with
    | zero => intro _; rfl
    | succ j ih =>
      intro hj
      have hlt : j < x.length := by omega
      have e : (x ++ c :: r).getD j 0 = x[j] := by simp [List.getD, List.getElem?_append_left hlt, hlt]
      show (if ((x ++ c :: r).getD j 0 == c) = true then _ else splitK (x ++ c :: r) c j) = _
      rw [e, hx _ (List.getElem_mem hlt)]
      simpa using ih (by omega)
  intro k
  induction k with
  | zero =>
    intro _
    have e : (x ++ c :: r).getD x.length 0 = c := by simp [List.getD]
    show (if ((x ++ c :: r).getD x.length 0 == c) = true then ((splitK (x ++ c :: r) c x.length).1 ++ [((x ++ c :: r).drop (splitK (x ++ c :: r) c x.length).2).take (x.length - (splitK (x ++ c :: r) c x.length).2)], x.length + 1) else _) = _
    rw [e, h0 _ (Nat.le_refl _)]
    simp [splitK]
  | succ k ih =>
    intro hk
    have e : (x ++ c :: r).getD (x.length + 1 + k) 0 = r.getD k 0 := by
      have : x.length + 1 + k = x.length + (k + 1) := by omega
      rw [this]
      simp [List.getD, List.getElem?_append_right]
    have ih' := ih (by omega)
    have hle := (splitK_le r c k).2
    show (if ((x ++ c :: r).getD (x.length + 1 + k) 0 == c) = true then ((splitK (x ++ c :: r) c (x.length + 1 + k)).1 ++ [((x ++ c :: r).drop (splitK (x ++ c :: r) c (x.length + 1 + k)).2).take (x.length + 1 + k - (splitK (x ++ c :: r) c (x.length + 1 + k)).2)], x.length + 1 + k + 1) else splitK (x ++ c :: r) c (x.length + 1 + k)) = (x :: (if (r.getD k 0 == c) = true then ((splitK r c k).1 ++ [(r.drop (splitK r c k).2).take (k - (splitK r c k).2)], k + 1) else splitK r c k).1, x.length + 1 + (if (r.getD k 0 == c) = true then ((splitK r c k).1 ++ [(r.drop (splitK r c k).2).take (k - (splitK r c k).2)], k + 1) else splitK r c k).2)
    rw [e, ih']
    have hd : (x ++ c :: r).drop (x.length + 1 + (splitK r c k).2) = r.drop (splitK r c k).2 := by
      have : x ++ c :: r = (x ++ [c]) ++ r := by simp
      rw [this, show x.length + 1 + (splitK r c k).2 = (x ++ [c]).length + (splitK r c k).2 by simp, List.drop_append]
      simp
    by_cases hc : (r.getD k 0 == c) = true
    · rw [if_pos hc, if_pos hc]
      simp only [hd]
      have : x.length + 1 + k - (x.length + 1 + (splitK r c k).2) = k - (splitK r c k).2 := by omega
      rw [this]
      simp; omega
    · rw [if_neg hc, if_neg hc]
theorem split_cons (x r : List UInt8) (c : UInt8) (hx : ∀ y ∈ x, (y == c) = false) : splitL (x ++ c :: r) c = x :: splitL r c := by
  have h := splitK_shift x r c hx r.length (Nat.le_refl _)
  have e : (x ++ c :: r).length = x.length + 1 + r.length := by simp; omega
  unfold splitL
  rw [e, h]
  have hd : (x ++ c :: r).drop (x.length + 1 + (splitK r c r.length).2) = r.drop (splitK r c r.length).2 := by
    have : x ++ c :: r = (x ++ [c]) ++ r := by simp
    rw [this, show x.length + 1 + (splitK r c r.length).2 = (x ++ [c]).length + (splitK r c r.length).2 by simp, List.drop_append]
    simp
  simp [hd]
theorem split_one (x : List UInt8) (c : UInt8) (hx : ∀ y ∈ x, (y == c) = false) : splitL x c = [x] := by
  have h0 : ∀ j, j ≤ x.length → splitK x c j = ([], 0) := by
    intro j
    induction j with
    | zero => intro _; rfl
    | succ j ih =>
      intro hj
      have hlt : j < x.length := by omega
      have e : x.getD j 0 = x[j] := by simp [List.getD, hlt]
      show (if (x.getD j 0 == c) = true then _ else splitK x c j) = _
      rw [e, hx _ (List.getElem_mem hlt)]
      simpa using ih (by omega)
  unfold splitL
  rw [h0 _ (Nat.le_refl _)]
  rfl

theorem split_join (c : UInt8) : ∀ (P : List (List UInt8)), P ≠ [] → (∀ x ∈ P, ∀ y ∈ x, (y == c) = false) → splitL (joinL c P) c = P
  | [], h, _ => absurd rfl h
  | [x], _, h => split_one x c (h x (by simp))
  | x :: y :: r, _, h => by
    show splitL (x ++ c :: joinL c (y :: r)) c = _
    rw [split_cons x _ c (h x (by simp)), split_join c (y :: r) (by simp) (fun z hz => h z (List.mem_cons_of_mem _ hz))]
theorem join_parts (c : UInt8) : ∀ (P Q : List (List UInt8)), P ≠ [] → Q ≠ [] → joinL c (P ++ Q) = joinL c P ++ c :: joinL c Q
  | [], _, h, _ => absurd rfl h
  | [x], q :: Q, _, _ => rfl
  | [x], [], _, h => absurd rfl h
  | x :: y :: r, Q, _, hq => by
    show x ++ c :: joinL c ((y :: r) ++ Q) = (x ++ c :: joinL c (y :: r)) ++ c :: joinL c Q
    rw [join_parts c (y :: r) Q (by simp) hq]
    simp

theorem label_dot {x : List UInt8} (h : labelB x = true) : ∀ y ∈ x, (y == 46) = false := by
  unfold labelB at h
  simp only [Bool.and_eq_true] at h
  intro y hy
  have hs := List.all_eq_true.1 h.2 y hy
  rw [beq_eq_false_iff_ne]
  rintro rfl
  exact absurd hs (by decide)

/-- What is behind a name's first i labels. -/
def tailL (s : List UInt8) (i : Nat) : List UInt8 := joinL 46 ((splitL s 46).drop i)
theorem tail_zero (s : List UInt8) : tailL s 0 = s := by
  unfold tailL
  rw [List.drop_zero, joinL_all]
theorem name_labels {s : List UInt8} (h : nameB s = true) : s.length ≤ 256 ∧ quadB s = false ∧ (splitL s 46).all labelB = true := by
  unfold nameB at h
  simp only [Bool.and_eq_true, decide_eq_true_iff, Bool.not_eq_true'] at h
  exact ⟨h.1.1, h.1.2, h.2⟩
theorem tail_split {s : List UInt8} (h : (splitL s 46).all labelB = true) (i : Nat) (hi : i < (splitL s 46).length) : splitL (tailL s i) 46 = (splitL s 46).drop i := by
  refine split_join 46 _ (fun c => ?_) (fun x hx => label_dot (List.all_eq_true.1 h x (List.mem_of_mem_drop hx)))
  have := congrArg List.length c
  rw [List.length_drop, List.length_nil] at this
  omega
theorem tail_at {s : List UInt8} (i : Nat) (h0 : 0 < i) (hi : i < (splitL s 46).length) : s = joinL 46 ((splitL s 46).take i) ++ 46 :: tailL s i := by
  unfold tailL
  rw [← join_parts 46 _ _ (fun c => ?_) (fun c => ?_), List.take_append_drop, joinL_all]
  · have := congrArg List.length c
    rw [List.length_take, List.length_nil] at this
    omega
  · have := congrArg List.length c
    rw [List.length_drop, List.length_nil] at this
    omega
theorem tail_below {s : List UInt8} (i : Nat) (h0 : 0 < i) (hi : i < (splitL s 46).length) : belowB s (tailL s i) = true := by
  have e := tail_at i h0 hi
  generalize tailL s i = t at *
  generalize joinL 46 ((splitL s 46).take i) = p at *
  clear hi h0
  subst e
  unfold belowB
  have h1 : (p ++ 46 :: t).length = p.length + 1 + t.length := by simp; omega
  rw [h1]
  have h2 : p.length + 1 + t.length - t.length - 1 = p.length := by omega
  have h3 : p.length + 1 + t.length - t.length = p.length + 1 := by omega
  rw [h2, h3]
  have h4 : (p ++ 46 :: t).getD p.length 0 = 46 := by simp [List.getD]
  have h5 : (p ++ 46 :: t).drop (p.length + 1) = t := by
    have : p ++ 46 :: t = (p ++ [46]) ++ t := by simp
    rw [this, show p.length + 1 = (p ++ [46]).length by simp, List.drop_left]
  rw [h4, h5]
  simp
theorem tail_canon {s : List UInt8} (h : nameB s = true) (i : Nat) (hi : i < (splitL s 46).length) : canonB (tailL s i) = true := by
  obtain ⟨h1, h2, h3⟩ := name_labels h
  have hlen : (tailL s i).length ≤ 256 := by
    rcases Nat.eq_zero_or_pos i with rfl | h0
    · rw [tail_zero]; exact h1
    · have := (below_len (tail_below i h0 hi)).1; omega
  have hs := tail_split h3 i hi
  unfold canonB addrB nameB
  rw [hs, decide_eq_true hlen]
  have : ((splitL s 46).drop i).all labelB = true := List.all_eq_true.2 fun x hx => List.all_eq_true.1 h3 x (List.mem_of_mem_drop hx)
  rw [this]
  cases quadB (tailL s i) <;> simp
theorem tail_match {s : List UInt8} (h : nameB s = true) (i : Nat) (hi : i < (splitL s 46).length) : matchB s (tailL s i) = true := by
  have hc : canonB s = true := by
    have := tail_canon h 0 (by omega)
    rwa [tail_zero] at this
  unfold matchB
  rw [hc, tail_canon h i hi]
  rcases Nat.eq_zero_or_pos i with rfl | h0
  · rw [tail_zero]; simp
  · rw [h, tail_below i h0 hi]; simp
/-- The next domain is the one ahead without its first label. -/
theorem tail_next {s : List UInt8} (i : Nat) (hi : i + 1 < (splitL s 46).length) : tailL s i = (splitL s 46).getD i [] ++ 46 :: tailL s (i + 1) := by
  unfold tailL
  have e : (splitL s 46).drop i = (splitL s 46).getD i [] :: (splitL s 46).drop (i + 1) := by
    rw [List.drop_eq_getElem_cons (by omega)]
    simp [List.getD, show i < (splitL s 46).length by omega]
  rw [e]
  cases c : (splitL s 46).drop (i + 1) with
  | nil =>
    have := congrArg List.length c
    rw [List.length_drop, List.length_nil] at this
    omega
  | cons y r => rfl
end Go.Proofs.Ytlmcfflpgkapgaa
