/- Contracts and plain words that the laws' proofs stand on, put together. -/
import Derived.Test.YtelgaglnmcggkaaGreatDoorLibAF
import Derived.Test.YtelgaglnmcggkaaGreatDoorLibAC
import Derived.Test.YtelgaglnmcggkaaGreatDoorAsciiText
import Derived.Test.YtelgaglnmcggkaaGreatDoorShelf
import Derived.Deep.RegionHeld3
/- Names of hosts in plain words: labels, addresses, which domains a host matches. No program in it. -/
namespace Go.Proofs.YtelgaglnmcggkaaGreatDoor
open Go.RowKit
set_option linter.unusedVariables false

def signB (x : UInt8) : Bool := (decide (97 ≤ x.toNat) && decide (x.toNat ≤ 122)) || (decide (48 ≤ x.toNat) && decide (x.toNat ≤ 57)) || decide (x.toNat = 45) || decide (x.toNat = 95)
def labelB (l : List UInt8) : Bool := decide (1 ≤ l.length) && decide (l.length ≤ 63) && !(l.getD 0 0 == 45) && !(l.getD (l.length - 1) 0 == 45) && l.all signB
def octetB (l : List UInt8) : Bool := decide (1 ≤ l.length) && decide (l.length ≤ 3) && decide (lead l = l.length) && decide (numV l ≤ 255) && (Lib.decDigits (numV l) == l)
/-- Four numbers, points between. -/
def quadB (l : List UInt8) : Bool := decide ((splitL l 46).length = 4) && (splitL l 46).all octetB
def hexB (x : UInt8) : Bool := (decide (48 ≤ x.toNat) && decide (x.toNat ≤ 57)) || (decide (97 ≤ x.toNat) && decide (x.toNat ≤ 102)) || decide (x.toNat = 58) || decide (x.toNat = 46)
def bracketB (l : List UInt8) : Bool := decide (4 ≤ l.length) && decide (l.length ≤ 47) && (l.getD 0 0 == 91) && (l.getD (l.length - 1) 0 == 93) && ((l.drop 1).take (l.length - 2)).all hexB
def addrB (l : List UInt8) : Bool := quadB l || bracketB l
def nameB (l : List UInt8) : Bool := decide (l.length ≤ 256) && !quadB l && (splitL l 46).all labelB
def canonB (l : List UInt8) : Bool := decide (l.length ≤ 256) && (nameB l || addrB l)
def belowB (h d : List UInt8) : Bool := decide (d.length < h.length) && (h.getD (h.length - d.length - 1) 0 == 46) && (h.drop (h.length - d.length) == d)
def matchB (h d : List UInt8) : Bool := canonB h && canonB d && (h == d || (nameB h && belowB h d))

theorem match_cases {h d : List UInt8} (m : matchB h d = true) : canonB h = true ∧ canonB d = true ∧ (h = d ∨ (nameB h = true ∧ belowB h d = true)) := by
  unfold matchB at m
  simp only [Bool.and_eq_true, Bool.or_eq_true, beq_iff_eq] at m
  exact ⟨m.1.1, m.1.2, m.2⟩
theorem below_len {h d : List UInt8} (m : belowB h d = true) : d.length < h.length ∧ h.getD (h.length - d.length - 1) 0 = 46 ∧ h.drop (h.length - d.length) = d := by
  unfold belowB at m
  simp only [Bool.and_eq_true, beq_iff_eq, decide_eq_true_iff] at m
  exact ⟨m.1.1, m.1.2, m.2⟩

/-- Parts behind the first one. -/
theorem splitK_shift (x r : List UInt8) (c : UInt8) (hx : ∀ y ∈ x, (y == c) = false) : ∀ k, k ≤ r.length → splitK (x ++ c :: r) c (x.length + 1 + k) = (x :: (splitK r c k).1, x.length + 1 + (splitK r c k).2) := by
  have h0 : ∀ j, j ≤ x.length → splitK (x ++ c :: r) c j = ([], 0) := by
    intro j
    induction j with
    | zero => intro _; rfl
    | succ j ih =>
      intro hj
      have hlt : j < x.length := by omega
      have e : (x ++ c :: r).getD j 0 = x[j] := by simp [List.getD, List.getElem?_append_left hlt, hlt]
      show (if ((x ++ c :: r).getD j 0 == c) = true then _ else splitK (x ++ c :: r) c j) = _
      rw [e, hx _ (List.getElem_mem hlt)]
      simpa using ih (by omega)
  intro k
  induction k with
  | zero =>
    intro _
    have e : (x ++ c :: r).getD x.length 0 = c := by simp [List.getD]
    show (if ((x ++ c :: r).getD x.length 0 == c) = true then ((splitK (x ++ c :: r) c x.length).1 ++ [((x ++ c :: r).drop (splitK (x ++ c :: r) c x.length).2).take (x.length - (splitK (x ++ c :: r) c x.length).2)], x.length + 1) else _) = _
    rw [e, h0 _ (Nat.le_refl _)]
    simp [splitK]
  | succ k ih =>
    intro hk
    have e : (x ++ c :: r).getD (x.length + 1 + k) 0 = r.getD k 0 := by
      have : x.length + 1 + k = x.length + (k + 1) := by omega
      rw [this]
      simp [List.getD, List.getElem?_append_right]
    have ih' := ih (by omega)
    have hle := (splitK_le r c k).2
    show (if ((x ++ c :: r).getD (x.length + 1 + k) 0 == c) = true then ((splitK (x ++ c :: r) c (x.length + 1 + k)).1 ++ [((x ++ c :: r).drop (splitK (x ++ c :: r) c (x.length + 1 + k)).2).take (x.length + 1 + k - (splitK (x ++ c :: r) c (x.length + 1 + k)).2)], x.length + 1 + k + 1) else splitK (x ++ c :: r) c (x.length + 1 + k)) = (x :: (if (r.getD k 0 == c) = true then ((splitK r c k).1 ++ [(r.drop (splitK r c k).2).take (k - (splitK r c k).2)], k + 1) else splitK r c k).1, x.length + 1 + (if (r.getD k 0 == c) = true then ((splitK r c k).1 ++ [(r.drop (splitK r c k).2).take (k - (splitK r c k).2)], k + 1) else splitK r c k).2)
    rw [e, ih']
    have hd : (x ++ c :: r).drop (x.length + 1 + (splitK r c k).2) = r.drop (splitK r c k).2 := by
      have : x ++ c :: r = (x ++ [c]) ++ r := by simp
      rw [this, show x.length + 1 + (splitK r c k).2 = (x ++ [c]).length + (splitK r c k).2 by simp, List.drop_append]
      simp
    by_cases hc : (r.getD k 0 == c) = true
    · rw [if_pos hc, if_pos hc]
      simp only [hd]
      have : x.length + 1 + k - (x.length + 1 + (splitK r c k).2) = k - (splitK r c k).2 := by omega
      rw [this]
      simp; omega
    · rw [if_neg hc, if_neg hc]
theorem split_cons (x r : List UInt8) (c : UInt8) (hx : ∀ y ∈ x, (y == c) = false) : splitL (x ++ c :: r) c = x :: splitL r c := by
  have h := splitK_shift x r c hx r.length (Nat.le_refl _)
  have e : (x ++ c :: r).length = x.length + 1 + r.length := by simp; omega
  unfold splitL
  rw [e, h]
  have hd : (x ++ c :: r).drop (x.length + 1 + (splitK r c r.length).2) = r.drop (splitK r c r.length).2 := by
    have : x ++ c :: r = (x ++ [c]) ++ r := by simp
    rw [this, show x.length + 1 + (splitK r c r.length).2 = (x ++ [c]).length + (splitK r c r.length).2 by simp, List.drop_append]
    simp
  simp [hd]
theorem split_one (x : List UInt8) (c : UInt8) (hx : ∀ y ∈ x, (y == c) = false) : splitL x c = [x] := by
  have h0 : ∀ j, j ≤ x.length → splitK x c j = ([], 0) := by
    intro j
    induction j with
    | zero => intro _; rfl
    | succ j ih =>
      intro hj
      have hlt : j < x.length := by omega
      have e : x.getD j 0 = x[j] := by simp [List.getD, hlt]
      show (if (x.getD j 0 == c) = true then _ else splitK x c j) = _
      rw [e, hx _ (List.getElem_mem hlt)]
      simpa using ih (by omega)
  unfold splitL
  rw [h0 _ (Nat.le_refl _)]
  rfl

theorem split_join (c : UInt8) : ∀ (P : List (List UInt8)), P ≠ [] → (∀ x ∈ P, ∀ y ∈ x, (y == c) = false) → splitL (joinL c P) c = P
  | [], h, _ => absurd rfl h
  | [x], _, h => split_one x c (h x (by simp))
  | x :: y :: r, _, h => by
    show splitL (x ++ c :: joinL c (y :: r)) c = _
    rw [split_cons x _ c (h x (by simp)), split_join c (y :: r) (by simp) (fun z hz => h z (List.mem_cons_of_mem _ hz))]
theorem join_parts (c : UInt8) : ∀ (P Q : List (List UInt8)), P ≠ [] → Q ≠ [] → joinL c (P ++ Q) = joinL c P ++ c :: joinL c Q
  | [], _, h, _ => absurd rfl h
  | [x], q :: Q, _, _ => rfl
  | [x], [], _, h => absurd rfl h
  | x :: y :: r, Q, _, hq => by
    show x ++ c :: joinL c ((y :: r) ++ Q) = (x ++ c :: joinL c (y :: r)) ++ c :: joinL c Q
    rw [join_parts c (y :: r) Q (by simp) hq]
    simp

theorem label_dot {x : List UInt8} (h : labelB x = true) : ∀ y ∈ x, (y == 46) = false := by
  unfold labelB at h
  simp only [Bool.and_eq_true] at h
  intro y hy
  have hs := List.all_eq_true.1 h.2 y hy
  rw [beq_eq_false_iff_ne]
  rintro rfl
  exact absurd hs (by decide)

/-- What is behind a name's first i labels. -/
def tailL (s : List UInt8) (i : Nat) : List UInt8 := joinL 46 ((splitL s 46).drop i)
theorem tail_zero (s : List UInt8) : tailL s 0 = s := by
  unfold tailL
  rw [List.drop_zero, joinL_all]
theorem name_labels {s : List UInt8} (h : nameB s = true) : s.length ≤ 256 ∧ quadB s = false ∧ (splitL s 46).all labelB = true := by
  unfold nameB at h
  simp only [Bool.and_eq_true, decide_eq_true_iff, Bool.not_eq_true'] at h
  exact ⟨h.1.1, h.1.2, h.2⟩
theorem tail_split {s : List UInt8} (h : (splitL s 46).all labelB = true) (i : Nat) (hi : i < (splitL s 46).length) : splitL (tailL s i) 46 = (splitL s 46).drop i := by
  refine split_join 46 _ (fun c => ?_) (fun x hx => label_dot (List.all_eq_true.1 h x (List.mem_of_mem_drop hx)))
  have := congrArg List.length c
  rw [List.length_drop, List.length_nil] at this
  omega
theorem tail_at {s : List UInt8} (i : Nat) (h0 : 0 < i) (hi : i < (splitL s 46).length) : s = joinL 46 ((splitL s 46).take i) ++ 46 :: tailL s i := by
  unfold tailL
  rw [← join_parts 46 _ _ (fun c => ?_) (fun c => ?_), List.take_append_drop, joinL_all]
  · have := congrArg List.length c
    rw [List.length_take, List.length_nil] at this
    omega
  · have := congrArg List.length c
    rw [List.length_drop, List.length_nil] at this
    omega
theorem tail_below {s : List UInt8} (i : Nat) (h0 : 0 < i) (hi : i < (splitL s 46).length) : belowB s (tailL s i) = true := by
  have e := tail_at i h0 hi
  generalize tailL s i = t at *
  generalize joinL 46 ((splitL s 46).take i) = p at *
  clear hi h0
  subst e
  unfold belowB
  have h1 : (p ++ 46 :: t).length = p.length + 1 + t.length := by simp; omega
  rw [h1]
  have h2 : p.length + 1 + t.length - t.length - 1 = p.length := by omega
  have h3 : p.length + 1 + t.length - t.length = p.length + 1 := by omega
  rw [h2, h3]
  have h4 : (p ++ 46 :: t).getD p.length 0 = 46 := by simp [List.getD]
  have h5 : (p ++ 46 :: t).drop (p.length + 1) = t := by
    have : p ++ 46 :: t = (p ++ [46]) ++ t := by simp
    rw [this, show p.length + 1 = (p ++ [46]).length by simp, List.drop_left]
  rw [h4, h5]
  simp
theorem tail_canon {s : List UInt8} (h : nameB s = true) (i : Nat) (hi : i < (splitL s 46).length) : canonB (tailL s i) = true := by
  obtain ⟨h1, h2, h3⟩ := name_labels h
  have hlen : (tailL s i).length ≤ 256 := by
    rcases Nat.eq_zero_or_pos i with rfl | h0
    · rw [tail_zero]; exact h1
    · have := (below_len (tail_below i h0 hi)).1; omega
  have hs := tail_split h3 i hi
  unfold canonB addrB nameB
  rw [hs, decide_eq_true hlen]
  have : ((splitL s 46).drop i).all labelB = true := List.all_eq_true.2 fun x hx => List.all_eq_true.1 h3 x (List.mem_of_mem_drop hx)
  rw [this]
  cases quadB (tailL s i) <;> simp
theorem tail_match {s : List UInt8} (h : nameB s = true) (i : Nat) (hi : i < (splitL s 46).length) : matchB s (tailL s i) = true := by
  have hc : canonB s = true := by
    have := tail_canon h 0 (by omega)
    rwa [tail_zero] at this
  unfold matchB
  rw [hc, tail_canon h i hi]
  rcases Nat.eq_zero_or_pos i with rfl | h0
  · rw [tail_zero]; simp
  · rw [h, tail_below i h0 hi]; simp
/-- The next domain is the one ahead without its first label. -/
theorem tail_next {s : List UInt8} (i : Nat) (hi : i + 1 < (splitL s 46).length) : tailL s i = (splitL s 46).getD i [] ++ 46 :: tailL s (i + 1) := by
  unfold tailL
  have e : (splitL s 46).drop i = (splitL s 46).getD i [] :: (splitL s 46).drop (i + 1) := by
    rw [List.drop_eq_getElem_cons (by omega)]
    simp [List.getD, show i < (splitL s 46).length by omega]
  rw [e]
  cases c : (splitL s 46).drop (i + 1) with
  | nil =>
    have := congrArg List.length c
    rw [List.length_drop, List.length_nil] at this
    omega
  | cons y r => rfl
end Go.Proofs.YtelgaglnmcggkaaGreatDoor

/- Names of hosts in plain words: what the program asks of a text is what the document asks. No program in it. -/
namespace Go.Proofs.YtelgaglnmcggkaaGreatDoor
open Go.RowKit
set_option linter.unusedVariables false

/-- A number of an address, as the program asks for it. -/
def numB (l : List UInt8) : Bool := (numL l).2 && (decide (0 ≤ (numL l).1) && (decide ((numL l).1 ≤ 255) && (Lib.itoa (numL l).1 == l)))
theorem decDigits_three (v : Nat) (h : v ≤ 255) : (Lib.decDigits v).length ≤ 3 := by
  rw [Lib.decDigits_length]
  have h1 : ∀ u, u < 10 → Lib.nDigits u ≤ 1 := fun u hu => by rw [Lib.nDigits_small hu]; omega
  have h2 : ∀ u, u < 100 → Lib.nDigits u ≤ 2 := fun u hu => by
    by_cases c : u < 10
    · have := h1 u c; omega
    · rw [Lib.nDigits_big c]; have := h1 (u / 10) (by omega); omega
  by_cases c : v < 10
  · have := h1 v c; omega
  · rw [Lib.nDigits_big c]; have := h2 (v / 10) (by omega); omega
theorem num_octet (l : List UInt8) : numB l = octetB l := by
  have hne : ∀ x : List UInt8, signed x = true → lead x = x.length → False := fun x h c => by
    obtain ⟨h1, h2, -⟩ := signed_yes h
    have := lead_all c 0 (by omega)
    omega
  unfold numB octetB numL
  cases hs : signed l with
  | true =>
    obtain ⟨h1, h2, h3⟩ := signed_yes hs
    have e2 : decide (lead l = l.length) = false := decide_eq_false fun c => hne l hs c
    rw [e2]
    simp only [Bool.and_false, Bool.false_and]
    split
    · rfl
    · simp only [if_true, Bool.true_and]
      rw [Bool.eq_false_iff]
      intro c
      simp only [Bool.and_eq_true, decide_eq_true_iff, beq_iff_eq] at c
      obtain ⟨c1, -, c3⟩ := c
      have : (0 : Int) - (numV (body l) : Int) = 0 := by omega
      rw [this] at c3
      have e : Lib.itoa 0 = [48] := by
        unfold Lib.itoa
        rw [if_neg (by omega), Lib.decDigits_one (by decide)]
        rfl
      rw [e] at c3
      rw [← c3] at h2
      exact absurd h2 (by decide)
  | false =>
    obtain ⟨-, hb⟩ := signed_no hs
    rw [hb]
    by_cases hbad : l.length = 0 ∨ lead l < l.length
    · rw [if_pos hbad]
      rcases hbad with h | h
      · have : decide (1 ≤ l.length) = false := decide_eq_false (by omega)
        rw [this]; simp
      · have : decide (lead l = l.length) = false := decide_eq_false (by omega)
        rw [this]; simp
    · rw [if_neg hbad]
      have h1 : decide (1 ≤ l.length) = true := decide_eq_true (by omega)
      have h2 : decide (lead l = l.length) = true := decide_eq_true (by have := lead_le l; omega)
      rw [h1, h2]
      simp only [Bool.false_eq_true, if_false, Bool.true_and, Bool.and_true]
      have e : Lib.itoa (numV l : Int) = Lib.decDigits (numV l) := by
        unfold Lib.itoa
        rw [if_neg (by omega)]
        rfl
      have h0 : decide ((0 : Int) ≤ (numV l : Int)) = true := decide_eq_true (by omega)
      have h3 : decide ((numV l : Int) ≤ 255) = decide (numV l ≤ 255) := by rw [decide_eq_decide]; omega
      rw [e, h0, h3, Bool.true_and]
      by_cases hv : numV l ≤ 255
      · rw [decide_eq_true hv]
        cases hc : (Lib.decDigits (numV l) == l) with
        | false => simp
        | true =>
          have : l.length ≤ 3 := by
            rw [← beq_iff_eq.1 hc]
            exact decDigits_three _ hv
          rw [decide_eq_true this]
          rfl
      · rw [decide_eq_false hv]; simp

theorem octet_len {l : List UInt8} (h : octetB l = true) : l.length ≤ 3 := by
  unfold octetB at h
  simp only [Bool.and_eq_true, decide_eq_true_iff] at h
  exact h.1.1.1.2
theorem quad_len {l : List UInt8} (h : quadB l = true) : l.length ≤ 15 := by
  unfold quadB at h
  simp only [Bool.and_eq_true, decide_eq_true_iff] at h
  obtain ⟨h1, h2⟩ := h
  rw [← joinL_all l 46]
  generalize splitL l 46 = P at *
  obtain ⟨a, b, c, d, rfl⟩ : ∃ a b c d, P = [a, b, c, d] := by
    match P, h1 with
    | [a, b, c, d], _ => exact ⟨a, b, c, d, rfl⟩
  simp only [List.all_cons, List.all_nil, Bool.and_true, Bool.and_eq_true] at h2
  have := octet_len h2.1
  have := octet_len h2.2.1
  have := octet_len h2.2.2.1
  have := octet_len h2.2.2.2
  simp [joinL]
  omega
theorem bracket_parts {l : List UInt8} (h : bracketB l = true) : 4 ≤ l.length ∧ l.length ≤ 47 ∧ l.getD 0 0 = 91 := by
  unfold bracketB at h
  simp only [Bool.and_eq_true, decide_eq_true_iff, beq_iff_eq] at h
  exact ⟨h.1.1.1.1, h.1.1.1.2, h.1.1.2⟩
theorem addr_len {l : List UInt8} (h : addrB l = true) : l.length ≤ 256 := by
  unfold addrB at h
  rw [Bool.or_eq_true] at h
  rcases h with h | h
  · have := quad_len h; omega
  · have := bracket_parts h; omega
theorem name_len {l : List UInt8} (h : nameB l = true) : l.length ≤ 256 := (name_labels h).1

theorem mem_join (c : UInt8) : ∀ (P : List (List UInt8)) (x : UInt8), x ∈ joinL c P → x = c ∨ ∃ p ∈ P, x ∈ p
  | [], x, h => by cases h
  | [p], x, h => .inr ⟨p, by simp, h⟩
  | p :: q :: r, x, h => by
    have h : x ∈ p ++ c :: joinL c (q :: r) := h
    rcases List.mem_append.1 h with h | h
    · exact .inr ⟨p, by simp, h⟩
    · rcases List.mem_cons.1 h with h | h
      · exact .inl h
      · rcases mem_join c (q :: r) x h with h | ⟨p', hp, hx⟩
        · exact .inl h
        · exact .inr ⟨p', List.mem_cons_of_mem _ hp, hx⟩
theorem label_sign {l : List UInt8} (h : labelB l = true) : ∀ x ∈ l, signB x = true := by
  unfold labelB at h
  simp only [Bool.and_eq_true] at h
  exact List.all_eq_true.1 h.2
theorem labels_sign {l : List UInt8} (h : (splitL l 46).all labelB = true) : ∀ x ∈ l, x = 46 ∨ signB x = true := by
  intro x hx
  rw [← joinL_all l 46] at hx
  rcases mem_join 46 _ x hx with h1 | ⟨p, hp, hx⟩
  · exact .inl h1
  · exact .inr (label_sign (List.all_eq_true.1 h p hp) x hx)
theorem labels_bracket {l : List UInt8} (h : (splitL l 46).all labelB = true) : bracketB l = false := by
  rw [Bool.eq_false_iff]
  intro c
  obtain ⟨c1, -, c2⟩ := bracket_parts c
  have hm : l.getD 0 0 ∈ l := by
    have : 0 < l.length := by omega
    simp only [List.getD, List.getElem?_eq_getElem this, Option.getD_some]
    exact List.getElem_mem _
  rcases labels_sign h _ hm with h1 | h1
  · rw [c2] at h1; exact absurd h1 (by decide)
  · rw [c2] at h1; exact absurd h1 (by decide)

/-- What a text is: 0 neither, 1 a name, 2 an address. -/
def kindN (l : List UInt8) : Nat := if 256 < l.length then 0 else if addrB l = true then 2 else if (splitL l 46).all labelB = true then 1 else 0
theorem kind_two (l : List UInt8) : decide (kindN l = 2) = addrB l := by
  unfold kindN
  by_cases h : 256 < l.length
  · rw [if_pos h]
    cases c : addrB l with
    | false => rfl
    | true => have := addr_len c; omega
  · rw [if_neg h]
    cases c : addrB l with
    | true => simp
    | false => simp only [Bool.false_eq_true, if_false]; split <;> rfl
theorem kind_one (l : List UInt8) : decide (kindN l = 1) = nameB l := by
  unfold kindN nameB
  by_cases h : 256 < l.length
  · rw [if_pos h, decide_eq_false (show ¬ l.length ≤ 256 by omega)]; rfl
  · rw [if_neg h, decide_eq_true (show l.length ≤ 256 by omega)]
    unfold addrB
    cases hq : quadB l with
    | true => simp
    | false =>
      cases ha : (splitL l 46).all labelB with
      | false => simp; split <;> decide
      | true => rw [labels_bracket ha]; simp
theorem kind_zero (l : List UInt8) : decide (kindN l = 0) = !canonB l := by
  have h1 := kind_one l
  have h2 := kind_two l
  have h3 : kindN l = 0 ∨ kindN l = 1 ∨ kindN l = 2 := by
    unfold kindN
    split
    · exact .inl rfl
    · split
      · exact .inr (.inr rfl)
      · split
        · exact .inr (.inl rfl)
        · exact .inl rfl
  have hn := @name_len l
  have ha := @addr_len l
  unfold canonB
  rw [← h1, ← h2] at *
  rcases h3 with h3 | h3 | h3
  · rw [h3]; simp
  · have := hn (by rw [h3]; rfl)
    rw [h3, decide_eq_true this]; rfl
  · have := ha (by rw [h3]; rfl)
    rw [h3, decide_eq_true this]; rfl
theorem kind_le (l : List UInt8) : kindN l ≤ 2 := by
  unfold kindN
  split
  · omega
  · split
    · omega
    · split <;> omega

end Go.Proofs.YtelgaglnmcggkaaGreatDoor

/- Contracts of layer 8: where a byte may be; labels. -/
namespace Go.Proofs.YtelgaglnmcggkaaGreatDoor
open Go.RowKit
set_option linter.unusedVariables false

/-- May a byte be at an end of a label? -/
def tipB (x : UInt8) : Bool := (decide (97 ≤ x.toNat) && decide (x.toNat ≤ 122)) || (decide (48 ≤ x.toNat) && decide (x.toNat ≤ 57)) || decide (x.toNat = 95)

/-- Where a byte may be. -/
def placeN (x : UInt8) : Int := (if hexB x = true then 1 else 0) + (if tipB x = true then 2 else 0) + (if signB x = true then 4 else 0)

set_option maxRecDepth 100000 in
theorem placesC (x : UInt8) (w : World) : Calls Tryz.prog 236 #[.int .u8 (x.toNat : Int)] w fun e w' => e = .returned (.int .i64 (placeN x)) ∧ w = w' := by
  have h0 := u8_lt x
  unfold placeN hexB tipB signB
  generalize x.toNat = n at *
  -- BEGIN places
  have hcase : n = 58 ∨ n = 46 ∨ n = 95 ∨ n = 45 ∨ (48 ≤ n ∧ n ≤ 57) ∨ (97 ≤ n ∧ n ≤ 102) ∨ (103 ≤ n ∧ n ≤ 122) ∨ (n < 48 ∧ n ≠ 45 ∧ n ≠ 46) ∨ (59 ≤ n ∧ n ≤ 96 ∧ n ≠ 95) ∨ (123 ≤ n) := by omega
  rcases hcase with rfl | rfl | rfl | rfl | h | h | h | h | h | h
  · go_enter Tryz.func236, Tryz.ntmps236
    go_wp2
    go_ret
    exact ⟨by kernel_rfl, rfl⟩
  · go_enter Tryz.func236, Tryz.ntmps236
    go_wp2
    go_ret
    exact ⟨by kernel_rfl, rfl⟩
  · go_enter Tryz.func236, Tryz.ntmps236
    go_wp2
    go_ret
    exact ⟨by kernel_rfl, rfl⟩
  · go_enter Tryz.func236, Tryz.ntmps236
    go_wp2
    go_ret
    exact ⟨by kernel_rfl, rfl⟩
  · have e58 : ((n : Int) == 58) = false := by rw [beq_eq_false_iff_ne]; omega
    have e46 : ((n : Int) == 46) = false := by rw [beq_eq_false_iff_ne]; omega
    have e95 : ((n : Int) == 95) = false := by rw [beq_eq_false_iff_ne]; omega
    have e45 : ((n : Int) == 45) = false := by rw [beq_eq_false_iff_ne]; omega
    have g48 : (48 : Int) ≤ n := by omega
    have g97 : ¬ (97 : Int) ≤ n := by omega
    have g103 : ¬ (103 : Int) ≤ n := by omega
    have l57 : (n : Int) ≤ 57 := by omega
    have l102 : (n : Int) ≤ 102 := by omega
    have l122 : (n : Int) ≤ 122 := by omega
    have q48 : decide ((48 : Int) ≤ n) = true := by exact decide_eq_true g48
    have q97 : decide ((97 : Int) ≤ n) = false := by exact decide_eq_false g97
    have q103 : decide ((103 : Int) ≤ n) = false := by exact decide_eq_false g103
    have q57 : decide ((n : Int) ≤ 57) = true := by exact decide_eq_true l57
    have q102 : decide ((n : Int) ≤ 102) = true := by exact decide_eq_true l102
    have q122 : decide ((n : Int) ≤ 122) = true := by exact decide_eq_true l122
    go_enter Tryz.func236, Tryz.ntmps236
    go_wp2
    go_ret
    refine ⟨?_, rfl⟩
    congr 2
    repeat (first | rw [if_pos (by omega)] | rw [if_neg (by omega)])
  · have e58 : ((n : Int) == 58) = false := by rw [beq_eq_false_iff_ne]; omega
    have e46 : ((n : Int) == 46) = false := by rw [beq_eq_false_iff_ne]; omega
    have e95 : ((n : Int) == 95) = false := by rw [beq_eq_false_iff_ne]; omega
    have e45 : ((n : Int) == 45) = false := by rw [beq_eq_false_iff_ne]; omega
    have g48 : (48 : Int) ≤ n := by omega
    have g97 : (97 : Int) ≤ n := by omega
    have g103 : ¬ (103 : Int) ≤ n := by omega
    have l57 : ¬ (n : Int) ≤ 57 := by omega
    have l102 : (n : Int) ≤ 102 := by omega
    have l122 : (n : Int) ≤ 122 := by omega
    have q48 : decide ((48 : Int) ≤ n) = true := by exact decide_eq_true g48
    have q97 : decide ((97 : Int) ≤ n) = true := by exact decide_eq_true g97
    have q103 : decide ((103 : Int) ≤ n) = false := by exact decide_eq_false g103
    have q57 : decide ((n : Int) ≤ 57) = false := by exact decide_eq_false l57
    have q102 : decide ((n : Int) ≤ 102) = true := by exact decide_eq_true l102
    have q122 : decide ((n : Int) ≤ 122) = true := by exact decide_eq_true l122
    go_enter Tryz.func236, Tryz.ntmps236
    go_wp2
    go_ret
    refine ⟨?_, rfl⟩
    congr 2
    repeat (first | rw [if_pos (by omega)] | rw [if_neg (by omega)])
  · have e58 : ((n : Int) == 58) = false := by rw [beq_eq_false_iff_ne]; omega
    have e46 : ((n : Int) == 46) = false := by rw [beq_eq_false_iff_ne]; omega
    have e95 : ((n : Int) == 95) = false := by rw [beq_eq_false_iff_ne]; omega
    have e45 : ((n : Int) == 45) = false := by rw [beq_eq_false_iff_ne]; omega
    have g48 : (48 : Int) ≤ n := by omega
    have g97 : (97 : Int) ≤ n := by omega
    have g103 : (103 : Int) ≤ n := by omega
    have l57 : ¬ (n : Int) ≤ 57 := by omega
    have l102 : ¬ (n : Int) ≤ 102 := by omega
    have l122 : (n : Int) ≤ 122 := by omega
    have q48 : decide ((48 : Int) ≤ n) = true := by exact decide_eq_true g48
    have q97 : decide ((97 : Int) ≤ n) = true := by exact decide_eq_true g97
    have q103 : decide ((103 : Int) ≤ n) = true := by exact decide_eq_true g103
    have q57 : decide ((n : Int) ≤ 57) = false := by exact decide_eq_false l57
    have q102 : decide ((n : Int) ≤ 102) = false := by exact decide_eq_false l102
    have q122 : decide ((n : Int) ≤ 122) = true := by exact decide_eq_true l122
    go_enter Tryz.func236, Tryz.ntmps236
    go_wp2
    go_ret
    refine ⟨?_, rfl⟩
    congr 2
    repeat (first | rw [if_pos (by omega)] | rw [if_neg (by omega)])
  · have e58 : ((n : Int) == 58) = false := by rw [beq_eq_false_iff_ne]; omega
    have e46 : ((n : Int) == 46) = false := by rw [beq_eq_false_iff_ne]; omega
    have e95 : ((n : Int) == 95) = false := by rw [beq_eq_false_iff_ne]; omega
    have e45 : ((n : Int) == 45) = false := by rw [beq_eq_false_iff_ne]; omega
    have g48 : ¬ (48 : Int) ≤ n := by omega
    have g97 : ¬ (97 : Int) ≤ n := by omega
    have g103 : ¬ (103 : Int) ≤ n := by omega
    have l57 : (n : Int) ≤ 57 := by omega
    have l102 : (n : Int) ≤ 102 := by omega
    have l122 : (n : Int) ≤ 122 := by omega
    have q48 : decide ((48 : Int) ≤ n) = false := by exact decide_eq_false g48
    have q97 : decide ((97 : Int) ≤ n) = false := by exact decide_eq_false g97
    have q103 : decide ((103 : Int) ≤ n) = false := by exact decide_eq_false g103
    have q57 : decide ((n : Int) ≤ 57) = true := by exact decide_eq_true l57
    have q102 : decide ((n : Int) ≤ 102) = true := by exact decide_eq_true l102
    have q122 : decide ((n : Int) ≤ 122) = true := by exact decide_eq_true l122
    go_enter Tryz.func236, Tryz.ntmps236
    go_wp2
    go_ret
    refine ⟨?_, rfl⟩
    congr 2
    repeat (first | rw [if_pos (by omega)] | rw [if_neg (by omega)])
  · have e58 : ((n : Int) == 58) = false := by rw [beq_eq_false_iff_ne]; omega
    have e46 : ((n : Int) == 46) = false := by rw [beq_eq_false_iff_ne]; omega
    have e95 : ((n : Int) == 95) = false := by rw [beq_eq_false_iff_ne]; omega
    have e45 : ((n : Int) == 45) = false := by rw [beq_eq_false_iff_ne]; omega
    have g48 : (48 : Int) ≤ n := by omega
    have g97 : ¬ (97 : Int) ≤ n := by omega
    have g103 : ¬ (103 : Int) ≤ n := by omega
    have l57 : ¬ (n : Int) ≤ 57 := by omega
    have l102 : (n : Int) ≤ 102 := by omega
    have l122 : (n : Int) ≤ 122 := by omega
    have q48 : decide ((48 : Int) ≤ n) = true := by exact decide_eq_true g48
    have q97 : decide ((97 : Int) ≤ n) = false := by exact decide_eq_false g97
    have q103 : decide ((103 : Int) ≤ n) = false := by exact decide_eq_false g103
    have q57 : decide ((n : Int) ≤ 57) = false := by exact decide_eq_false l57
    have q102 : decide ((n : Int) ≤ 102) = true := by exact decide_eq_true l102
    have q122 : decide ((n : Int) ≤ 122) = true := by exact decide_eq_true l122
    go_enter Tryz.func236, Tryz.ntmps236
    go_wp2
    go_ret
    refine ⟨?_, rfl⟩
    congr 2
    repeat (first | rw [if_pos (by omega)] | rw [if_neg (by omega)])
  · have e58 : ((n : Int) == 58) = false := by rw [beq_eq_false_iff_ne]; omega
    have e46 : ((n : Int) == 46) = false := by rw [beq_eq_false_iff_ne]; omega
    have e95 : ((n : Int) == 95) = false := by rw [beq_eq_false_iff_ne]; omega
    have e45 : ((n : Int) == 45) = false := by rw [beq_eq_false_iff_ne]; omega
    have g48 : (48 : Int) ≤ n := by omega
    have g97 : (97 : Int) ≤ n := by omega
    have g103 : (103 : Int) ≤ n := by omega
    have l57 : ¬ (n : Int) ≤ 57 := by omega
    have l102 : ¬ (n : Int) ≤ 102 := by omega
    have l122 : ¬ (n : Int) ≤ 122 := by omega
    have q48 : decide ((48 : Int) ≤ n) = true := by exact decide_eq_true g48
    have q97 : decide ((97 : Int) ≤ n) = true := by exact decide_eq_true g97
    have q103 : decide ((103 : Int) ≤ n) = true := by exact decide_eq_true g103
    have q57 : decide ((n : Int) ≤ 57) = false := by exact decide_eq_false l57
    have q102 : decide ((n : Int) ≤ 102) = false := by exact decide_eq_false l102
    have q122 : decide ((n : Int) ≤ 122) = false := by exact decide_eq_false l122
    go_enter Tryz.func236, Tryz.ntmps236
    go_wp2
    go_ret
    refine ⟨?_, rfl⟩
    congr 2
    repeat (first | rw [if_pos (by omega)] | rw [if_neg (by omega)])
  -- END places

/-- One of the three places. -/
def spotB : Nat → UInt8 → Bool
  | 1, x => hexB x
  | 2, x => tipB x
  | _, x => signB x

theorem spot_and (A : Nat) (h : A = 1 ∨ A = 2 ∨ A = 4) (x : UInt8) : (bits BinOp.and IntKind.i64 (placeN x) (A : Int) == 0) = !spotB A x := by
  unfold placeN
  rcases h with rfl | rfl | rfl
  · show _ = !hexB x
    cases hexB x <;> cases tipB x <;> cases signB x <;> kernel_rfl
  · show _ = !tipB x
    cases hexB x <;> cases tipB x <;> cases signB x <;> kernel_rfl
  · show _ = !signB x
    cases hexB x <;> cases tipB x <;> cases signB x <;> kernel_rfl

theorem all_no {l : List UInt8} {p : UInt8 → Bool} {k : Nat} (hk : k < l.length) (h : p (l.getD k 0) = false) : l.all p = false := by
  rw [Bool.eq_false_iff]
  intro c
  have hm : l.getD k 0 ∈ l := by
    simp only [List.getD, List.getElem?_eq_getElem hk, Option.getD_some]
    exact List.getElem_mem _
  rw [List.all_eq_true.1 c _ hm] at h
  cases h

theorem all_yes {l : List UInt8} {p : UInt8 → Bool} (h : ∀ j, j < l.length → p (l.getD j 0) = true) : l.all p = true := by
  rw [List.all_eq_true]
  intro x hx
  obtain ⟨i, hi, rfl⟩ := List.getElem_of_mem hx
  have := h i hi
  simpa [List.getD, hi] using this

set_option maxRecDepth 100000 in
theorem allC (A : Nat) (hA : A = 1 ∨ A = 2 ∨ A = 4) (l : List UInt8) (n : Nat) (w : World) (hl : l.length = n) (hm : n ≤ maxLen) :
    Calls Tryz.prog 230 #[.string (str l), .int .i64 (A : Int)] w fun e w' => e = .returned (.bool (l.all (spotB A))) ∧ w = w' := by
  have hsz : (str l).size = n := by rw [str_size, hl]
  unfold maxLen at hm
  have HL := Lib.hid hl
  clear hl
  have HP := fun x => placesC x
  have HB := fun x => spot_and A hA x
  generalize placeN = q at *
  generalize spotB A = p at *
  have HR : Hid (∀ k, k < n → p (l.getD k 0) = false → l.all p = false) := fun k hk h => all_no (by rw [HL.out]; exact hk) h
  have HY : Hid ((∀ j, j < n → p (l.getD j 0) = true) → l.all p = true) := fun h => all_yes (by rw [HL.out]; exact h)
  generalize l.all p = R at *
  go_enter Tryz.func230, Tryz.ntmps230
  go_wp2
  go_loopw [8] (fun i wr => ∃ k : Nat, k ≤ n ∧ i = .int .i64 (k : Int) ∧ Hid (∀ j, j < k → p (l.getD j 0) = true) ∧ w = wr) (fun i _ => n - (intOf i).toNat)
  case atStart => exact ⟨0, Nat.zero_le _, rfl, fun j hj => absurd hj (by omega), rfl⟩
  case round =>
    obtain ⟨k, hk, rfl, H, rfl⟩ := hrel
    by_cases hlt : k < n
    · have hlt' : (k : Int) < (n : Int) := by omega
      have hi := run_index_str (P := Tryz.prog) w 9 l .i64 k Tryz.underlying9 (by rw [HL.out]; exact hlt)
      have HN := Lib.hid (fun (hp : p (l.getD k 0) = true) => (fun j hj => by
        rcases Nat.lt_succ_iff_lt_or_eq.1 hj with h | rfl
        · exact H.out j h
        · exact hp : ∀ j, j < k + 1 → p (l.getD j 0) = true))
      have HF := Lib.hid (HR.out k hlt)
      have HC := HP (l.getD k 0)
      have hb := HB (l.getD k 0)
      clear HP HB
      generalize p (l.getD k 0) = t at *
      generalize l.getD k 0 = x at HC hi hb
      generalize q x = y at *
      cases t
      · have HF2 := Lib.hid (HF.out rfl)
        rw [Bool.not_false] at hb
        clear HN HF
        go_wp2_with (go_at_call 236; (with_reducible refine (HC _).mono ?_); rintro e w1 ⟨rfl, rfl⟩)
        go_ret
        exact ⟨by rw [HF2.out]; rfl, rfl⟩
      · have HN2 := Lib.hid (HN.out rfl)
        rw [Bool.not_true] at hb
        clear HN HF
        go_wp2_with (go_at_call 236; (with_reducible refine (HC _).mono ?_); rintro e w1 ⟨rfl, rfl⟩)
        go_roundw
        case rel => exact ⟨k + 1, by omega, by go_num, HN2.out, by first | rfl | trivial⟩
        case measure => simp [intOf]; omega
    · obtain rfl : k = n := by omega
      have HE := Lib.hid (HY.out H.out)
      clear HP HB
      go_wp2
      go_ret
      exact ⟨by rw [HE.out]; rfl, rfl⟩

theorem take_one {l : List UInt8} (h : 1 ≤ l.length) : l.take 1 = [l.getD 0 0] := by
  cases l with
  | nil => simp at h
  | cons x xs => rfl

theorem drop_last {l : List UInt8} (h : 1 ≤ l.length) : l.drop (l.length - 1) = [l.getD (l.length - 1) 0] := by
  rw [List.drop_eq_getElem_cons (by omega), List.drop_eq_nil_of_le (by omega)]
  simp [List.getD, show l.length - 1 < l.length by omega]

theorem tip_sign (x : UInt8) : tipB x = (signB x && !(x == 45)) := by
  have e : (x == 45) = decide (x.toNat = 45) := by
    rw [Bool.eq_iff_iff, decide_eq_true_iff]
    simp only [beq_iff_eq]
    exact ⟨fun h => by rw [h]; rfl, fun h => UInt8.toNat_inj.1 h⟩
  unfold tipB signB
  rw [e]
  generalize x.toNat = n
  rw [Bool.eq_iff_iff]
  simp
  omega

theorem label_parts (l : List UInt8) (h1 : 1 ≤ l.length) (h2 : l.length ≤ 63) : labelB l = (l.all signB && ((l.take 1).all tipB && (l.drop (l.length - 1)).all tipB)) := by
  unfold labelB
  rw [decide_eq_true h1, decide_eq_true h2, take_one h1, drop_last h1]
  simp only [List.all_cons, List.all_nil, Bool.and_true, Bool.true_and, tip_sign]
  have hm : ∀ k, k < l.length → l.getD k 0 ∈ l := fun k hk => by
    simp only [List.getD, List.getElem?_eq_getElem hk, Option.getD_some]
    exact List.getElem_mem _
  cases c : l.all signB with
  | false => simp
  | true =>
    rw [List.all_eq_true.1 c _ (hm 0 (by omega)), List.all_eq_true.1 c _ (hm (l.length - 1) (by omega))]
    simp

set_option maxRecDepth 100000 in
theorem isLabelC (l : List UInt8) (n : Nat) (w : World) (hl : l.length = n) (hm : n ≤ maxLen) :
    Calls Tryz.prog 231 #[.string (str l)] w fun e w' => e = .returned (.bool (labelB l)) ∧ w = w' := by
  have hsz : (str l).size = n := by rw [str_size, hl]
  have hk := str_toList l
  unfold maxLen at hm
  rcases Nat.eq_zero_or_pos n with hn | hn
  · subst hn
    obtain rfl : l = [] := List.eq_nil_of_length_eq_zero hl
    have hr : labelB [] = false := rfl
    rw [hr]
    go_enter Tryz.func231, Tryz.ntmps231
    go_wp2
    go_ret
    exact ⟨rfl, rfl⟩
  · have hbn : (l == []) = false := by
      cases l with
      | nil => simp at hl; omega
      | cons x xs => rfl
    by_cases h : 63 < n
    · have h' : (63 : Int) < (n : Int) := by omega
      have hr : labelB l = false := by unfold labelB; rw [hl, decide_eq_false (show ¬ n ≤ 63 by omega)]; simp
      rw [hr]
      clear hl
      go_enter Tryz.func231, Tryz.ntmps231
      go_wp2
      go_ret
      exact ⟨rfl, rfl⟩
    · have h' : ¬ (63 : Int) < (n : Int) := by omega
      have hx1 : (str l).extract 0 1 = str (l.take 1) := by rw [str_extract]; simp
      obtain ⟨m, rfl⟩ : ∃ m, n = m + 1 := ⟨n - 1, by omega⟩
      have hx2 : (str l).extract m (m + 1) = str (l.drop m) := by rw [str_extract, List.take_of_length_le (by simp; omega)]
      have hm1 : ((m + 1 : Nat) : Int) - 1 = (m : Int) := by omega
      have hp := label_parts l (by omega) (by omega)
      have e : l.length - 1 = m := by omega
      rw [e] at hp
      have H4 := fun w => allC 4 (by simp) l (m + 1) w hl hm
      have H1 := fun w => allC 2 (by simp) (l.take 1) 1 w (by rw [List.length_take]; omega) (by unfold maxLen; omega)
      have H2 := fun w => allC 2 (by simp) (l.drop m) 1 w (by rw [List.length_drop]; omega) (by unfold maxLen; omega)
      change ∀ w, Calls Tryz.prog 230 #[.string (str l), .int .i64 4] w fun e w' => e = .returned (.bool (l.all signB)) ∧ w = w' at H4
      change ∀ w, Calls Tryz.prog 230 #[.string (str (l.take 1)), .int .i64 2] w fun e w' => e = .returned (.bool ((l.take 1).all tipB)) ∧ w = w' at H1
      change ∀ w, Calls Tryz.prog 230 #[.string (str (l.drop m)), .int .i64 2] w fun e w' => e = .returned (.bool ((l.drop m).all tipB)) ∧ w = w' at H2
      rw [hp]
      clear hp hl e
      generalize l.all signB = a at *
      generalize (l.take 1).all tipB = b at *
      generalize (l.drop m).all tipB = c at *
      generalize l.take 1 = l1 at *
      generalize l.drop m = l2 at *
      have hms : ((m + 1 : Nat) : Int) ≤ 63 := by omega
      have hms2 : (0 : Int) ≤ (m : Int) := by omega
      generalize m + 1 = M at *
      cases a <;> cases b <;> cases c
      all_goals (
        go_enter Tryz.func231, Tryz.ntmps231
        go_wp2_with (go_at_call 230; first | ((with_reducible refine (H4 _).mono ?_); rintro e w1 ⟨rfl, rfl⟩) | ((with_reducible refine (H1 _).mono ?_); rintro e w1 ⟨rfl, rfl⟩) | ((with_reducible refine (H2 _).mono ?_); rintro e w1 ⟨rfl, rfl⟩))
        go_ret
        exact ⟨rfl, rfl⟩)
end Go.Proofs.YtelgaglnmcggkaaGreatDoor

/- Contracts of layer 8: what a text is. -/
namespace Go.Proofs.YtelgaglnmcggkaaGreatDoor
open Go.RowKit
set_option linter.unusedVariables false

theorem splitDotC (l : List UInt8) (n : Nat) (w : World) (hl : l.length = n) (hm : n ≤ 1000000000000) :
    Calls Tryz.prog 226 #[.string (str l), .int .u8 46] w (GivesStrs (splitL l 46) w) := splitC l 46 n w hl hm

theorem str_at {w : World} {a : Option Addr} {P : List (List UInt8)} (h : Reads w a (strs P)) (k : Nat) (hk : k < P.length) : ∃ g off, a = some ⟨g, off, none⟩ ∧ w.cell? ⟨g, off + k, none⟩ = some (.string (str (P.getD k []))) :=
  h k (.string (str (P.getD k []))) (by simp [strs, List.getD, hk])

set_option maxRecDepth 100000 in
theorem isNumberC (l : List UInt8) (n : Nat) (w : World) (hl : l.length = n) (hm : n ≤ maxLen) (hT : PTab Tryz.prog w) :
    Calls Tryz.prog 227 #[.string (str l)] w fun e w' => e = .returned (.bool (octetB l)) ∧ Below w.heap.size w w' := by
  have hb := Below.refl w.heap.size w
  have HN := fun w => numberC l n w hl hm
  rw [← num_octet]
  unfold numB
  generalize numL l = q at *
  obtain ⟨v, b⟩ := q
  simp only [] at HN ⊢
  clear hl hm
  cases b with
  | false =>
    go_enter Tryz.func227, Tryz.ntmps227
    go_wp2_with (go_at_call 232; (with_reducible refine (HN _).mono ?_); rintro e w1 ⟨rfl, rfl⟩)
    go_ret
    exact ⟨rfl, hb⟩
  | true =>
    rw [Bool.true_and]
    by_cases h0 : 0 ≤ v
    · rw [decide_eq_true h0, Bool.true_and]
      by_cases h1 : v ≤ 255
      · rw [decide_eq_true h1, Bool.true_and]
        have HT := fun w (h : PTab Tryz.prog w) => textC v w (by omega) (by omega) h
        have hk := str_toList
        unfold GivesStr at HT
        generalize Lib.itoa v = t at *
        go_enter Tryz.func227, Tryz.ntmps227
        go_wp2_with (first
          | (go_at_call 232; (with_reducible refine (HN _).mono ?_); rintro e w1 ⟨rfl, rfl⟩)
          | (go_at_call 233; (with_reducible refine (HT _ hT).mono ?_); rintro e w1 ⟨rfl, hx⟩; have hb := hb.trans (hx.mono hb.size); clear hx))
        go_ret
        exact ⟨rfl, hb⟩
      · rw [decide_eq_false h1]
        go_enter Tryz.func227, Tryz.ntmps227
        go_wp2_with (go_at_call 232; (with_reducible refine (HN _).mono ?_); rintro e w1 ⟨rfl, rfl⟩)
        go_ret
        exact ⟨rfl, hb⟩
    · rw [decide_eq_false h0]
      go_enter Tryz.func227, Tryz.ntmps227
      go_wp2_with (go_at_call 232; (with_reducible refine (HN _).mono ?_); rintro e w1 ⟨rfl, rfl⟩)
      go_ret
      exact ⟨rfl, hb⟩

theorem all_no' {P : List (List UInt8)} {p : List UInt8 → Bool} {k : Nat} (hk : k < P.length) (h : p (P.getD k []) = false) : P.all p = false := by
  rw [Bool.eq_false_iff]
  intro c
  have hm : P.getD k [] ∈ P := by
    simp only [List.getD, List.getElem?_eq_getElem hk, Option.getD_some]
    exact List.getElem_mem _
  rw [List.all_eq_true.1 c _ hm] at h
  cases h

theorem all_yes' {P : List (List UInt8)} {p : List UInt8 → Bool} (h : ∀ j, j < P.length → p (P.getD j []) = true) : P.all p = true := by
  rw [List.all_eq_true]
  intro x hx
  obtain ⟨i, hi, rfl⟩ := List.getElem_of_mem hx
  have := h i hi
  simpa [List.getD, hi] using this

theorem part_le (l : List UInt8) (c : UInt8) (k : Nat) (hk : k < (splitL l c).length) : ((splitL l c).getD k []).length ≤ l.length := by
  have := mem_join_le c (splitL l c) ((splitL l c).getD k []) (by simp only [List.getD, List.getElem?_eq_getElem hk, Option.getD_some]; exact List.getElem_mem _)
  rwa [joinL_all] at this

set_option maxRecDepth 100000 in
theorem isFourC (l : List UInt8) (n : Nat) (w : World) (hl : l.length = n) (hm : n ≤ 1000000000000) (hT : PTab Tryz.prog w) :
    Calls Tryz.prog 223 #[.string (str l)] w fun e w' => e = .returned (.bool (quadB l)) ∧ Below w.heap.size w w' := by
  have HS := fun w => splitDotC l n w hl hm
  unfold GivesStrs at HS
  unfold quadB
  have hle := fun k hk => part_le l 46 k hk
  have hNn := splitL_le l 46
  rw [hl] at hle hNn
  generalize splitL l 46 = P at *
  obtain ⟨N, hN⟩ : ∃ N, P.length = N := ⟨_, rfl⟩
  rw [hN] at HS hle hNn ⊢
  obtain ⟨z, hz, hz2⟩ : ∃ z, decide (N = 4) = z ∧ ((N : Int) == 4) = z := ⟨_, rfl, by rw [Bool.eq_iff_iff]; simp; omega⟩
  rw [hz]
  clear hz
  have HP := Lib.hid hN
  have HR : Hid (∀ k, k < N → octetB (P.getD k []) = false → P.all octetB = false) := fun k hk h => all_no' (by rw [HP.out]; exact hk) h
  have HY : Hid ((∀ j, j < N → octetB (P.getD j []) = true) → P.all octetB = true) := fun h => all_yes' (by rw [HP.out]; exact h)
  generalize P.all octetB = R at *
  clear hN hl
  go_enter Tryz.func223, Tryz.ntmps223
  go_wp2_with (go_at_call 226; (with_reducible refine (HS _).mono ?_); rintro e w1 ⟨a1, c1, rfl, ho1, hx1⟩)
  have r1 := ho1.reads
  clear HS ho1
  go_loopw [10] (fun i wr => ∃ k : Nat, k ≤ N ∧ i = .int .i64 (k : Int) ∧ Hid (∀ j, j < k → octetB (P.getD j []) = true) ∧ Below w1.heap.size w1 wr) (fun i _ => N - (intOf i).toNat)
  case atStart => exact ⟨0, Nat.zero_le _, rfl, fun j hj => absurd hj (by omega), Below.refl _ _⟩
  case round =>
    obtain ⟨k, hk, rfl, H, hbr⟩ := hrel
    have hb := hx1.trans (hbr.mono hx1.size)
    by_cases hlt : k < N
    · have hlt' : (k : Int) < (N : Int) := by omega
      obtain ⟨g, off, rfl, hc⟩ := str_at (r1.below' hbr) k (by rw [HP.out]; exact hlt)
      have hlk := hle k hlt
      have HN := Lib.hid (fun (hp : octetB (P.getD k []) = true) => (fun j hj => by
        rcases Nat.lt_succ_iff_lt_or_eq.1 hj with h | rfl
        · exact H.out j h
        · exact hp : ∀ j, j < k + 1 → octetB (P.getD j []) = true))
      have HF := Lib.hid (HR.out k hlt)
      have HC := fun w => isNumberC (P.getD k []) _ w rfl (by unfold maxLen; omega)
      have hT2 := hT.below hb
      clear hle
      generalize octetB (P.getD k []) = t at *
      generalize P.getD k [] = x at hc HC
      cases t
      · have HF2 := Lib.hid (HF.out rfl)
        clear HN HF
        go_wp2_with (go_at_call 227; (with_reducible refine (HC _ hT2).mono ?_); rintro e w2 ⟨rfl, hx2⟩)
        go_ret
        exact ⟨by rw [HF2.out, Bool.and_false]; rfl, hb.trans (hx2.mono hb.size)⟩
      · have HN2 := Lib.hid (HN.out rfl)
        clear HN HF
        go_wp2_with (go_at_call 227; (with_reducible refine (HC _ hT2).mono ?_); rintro e w2 ⟨rfl, hx2⟩)
        go_roundw
        case rel => exact ⟨k + 1, by omega, by go_num, HN2.out, hbr.trans (hx2.mono hbr.size)⟩
        case measure => simp [intOf]; omega
    · obtain rfl : k = N := by omega
      have HE := Lib.hid (HY.out H.out)
      clear hle
      go_wp2
      go_ret
      exact ⟨by rw [HE.out, Bool.and_true]; rfl, hb⟩
end Go.Proofs.YtelgaglnmcggkaaGreatDoor

/- Contracts of layer 8: addresses in brackets, names, what a text is. -/
namespace Go.Proofs.YtelgaglnmcggkaaGreatDoor
open Go.RowKit
set_option linter.unusedVariables false

def inB (l : List UInt8) : List UInt8 := Lib.trimSuffix (Lib.trimPrefix l [91]) [93]

def frontQ (l : List UInt8) : Bool := Lib.hasPrefix l [91]

def backQ (l : List UInt8) : Bool := Lib.hasSuffix (Lib.trimPrefix l [91]) [93]

theorem in_le (l : List UInt8) : (inB l).length ≤ l.length := by
  unfold inB Lib.trimSuffix Lib.trimPrefix
  split <;> split <;> simp <;> omega

theorem bracket_is (l : List UInt8) : bracketB l = (frontQ l && (backQ l && (decide (2 ≤ (inB l).length) && (decide ((inB l).length ≤ 45) && (inB l).all hexB)))) := by
  have hsuf : ∀ t : List UInt8, Lib.hasSuffix t [93] = true ∨ (Lib.hasSuffix t [93] = false ∧ ∀ p, t ≠ p ++ [93]) := fun t => by
    cases c : Lib.hasSuffix t [93] with
    | true => exact .inl rfl
    | false =>
      refine .inr ⟨rfl, fun p e => ?_⟩
      unfold Lib.hasSuffix at c
      have : List.isSuffixOf [93] t = true := List.isSuffixOf_iff_suffix.2 ⟨p, e.symm⟩
      rw [this] at c
      cases c
  cases l with
  | nil => rfl
  | cons x t =>
    by_cases hx : x = 91
    · subst hx
      have e1 : Lib.hasPrefix (91 :: t) [91] = true := by simp [Lib.hasPrefix]
      have e2 : Lib.trimPrefix (91 :: t) [91] = t := by unfold Lib.trimPrefix; rw [if_pos e1]; rfl
      unfold inB frontQ backQ
      rw [e1, e2, Bool.true_and]
      rcases hsuf t with h | ⟨h, hno⟩
      · have h0 := h
        unfold Lib.hasSuffix at h
        obtain ⟨p, rfl⟩ := List.isSuffixOf_iff_suffix.1 h
        have e3 : Lib.trimSuffix (p ++ [93]) [93] = p := by unfold Lib.trimSuffix; rw [if_pos h0]; simp
        rw [h0, e3, Bool.true_and]
        unfold bracketB
        have l1 : (91 :: (p ++ [93])).length = p.length + 2 := by simp
        rw [l1]
        have g1 : (91 :: (p ++ [93])).getD (p.length + 2 - 1) 0 = 93 := by simp [List.getD]
        have g2 : ((91 :: (p ++ [93])).drop 1).take (p.length + 2 - 2) = p := by simp
        have g3 : (91 :: (p ++ [93])).getD 0 0 = 91 := rfl
        rw [g1, g2, g3]
        have d1 : decide (4 ≤ p.length + 2) = decide (2 ≤ p.length) := by rw [decide_eq_decide]; omega
        have d2 : decide (p.length + 2 ≤ 47) = decide (p.length ≤ 45) := by rw [decide_eq_decide]; omega
        rw [d1, d2]
        simp
        rw [Bool.and_assoc]
      · rw [h, Bool.false_and, Bool.eq_false_iff]
        intro c
        unfold bracketB at c
        simp only [Bool.and_eq_true, decide_eq_true_iff, beq_iff_eq] at c
        obtain ⟨⟨⟨⟨c1, -⟩, -⟩, c2⟩, -⟩ := c
        refine hno (t.take (t.length - 1)) ?_
        have l1 : (91 :: t).length = t.length + 1 := by simp
        rw [l1] at c1 c2
        have := drop_last (l := t) (by omega)
        have e : t.getD (t.length - 1) 0 = 93 := by
          have e : t.length + 1 - 1 = (t.length - 1) + 1 := by omega
          rw [e] at c2
          simpa [List.getD] using c2
        rw [e] at this
        rw [← this, List.take_append_drop]
    · have e1 : Lib.hasPrefix (x :: t) [91] = false := by
        unfold Lib.hasPrefix
        rw [Bool.eq_false_iff]
        intro c
        obtain ⟨r, c⟩ := List.isPrefixOf_iff_prefix.1 c
        simp only [List.cons_append, List.nil_append, List.cons.injEq] at c
        exact hx c.1.symm
      unfold frontQ
      rw [e1, Bool.false_and]
      unfold bracketB
      have : ((x :: t).getD 0 0 == 91) = false := by rw [beq_eq_false_iff_ne]; exact hx
      rw [this]
      simp

theorem cutOpenC (l : List UInt8) (w : World) : Calls Tryz.prog 228 #[.string (str l), .string ⟨#[91]⟩] w fun e w' => e = .returned (.tuple #[.string (str (Lib.trimPrefix l [91])), .bool (frontQ l)]) ∧ w = w' := by
  refine (Tryz.strings_CutPrefix (str l) ⟨#[91]⟩ w).mono ?_
  rintro e w' ⟨rfl, rfl⟩
  rw [str_data]
  exact ⟨rfl, rfl⟩

theorem cutShutC (l : List UInt8) (w : World) (hm : (Lib.trimPrefix l [91]).length ≤ 9223372036854775807) : Calls Tryz.prog 229 #[.string (str (Lib.trimPrefix l [91])), .string ⟨#[93]⟩] w fun e w' => e = .returned (.tuple #[.string (str (inB l)), .bool (backQ l)]) ∧ w = w' := by
  refine (Tryz.strings_CutSuffix (str (Lib.trimPrefix l [91])) ⟨#[93]⟩ w (by rw [str_size]; exact hm)).mono ?_
  rintro e w' ⟨rfl, rfl⟩
  rw [str_data]
  exact ⟨rfl, rfl⟩

set_option maxRecDepth 100000 in
theorem isBracketedC (l : List UInt8) (n : Nat) (w : World) (hl : l.length = n) (hm : n ≤ maxLen) :
    Calls Tryz.prog 224 #[.string (str l)] w fun e w' => e = .returned (.bool (bracketB l)) ∧ w = w' := by
  have HC := fun w => cutOpenC l w
  have HS := fun w => cutShutC l w (by
    have : (Lib.trimPrefix l [91]).length ≤ l.length := by unfold Lib.trimPrefix; split <;> simp
    unfold maxLen at hm
    omega)
  rw [bracket_is]
  have hle := in_le l
  rw [hl] at hle
  generalize Lib.trimPrefix l [91] = o at *
  generalize frontQ l = f at *
  generalize backQ l = b at *
  generalize inB l = x at *
  obtain ⟨m, hx⟩ : ∃ m, x.length = m := ⟨_, rfl⟩
  have hsz : (str x).size = m := by rw [str_size, hx]
  have HA := fun w => allC 1 (by simp) x m w hx (by omega)
  change ∀ w, Calls Tryz.prog 230 #[.string (str x), .int .i64 1] w fun e w' => e = .returned (.bool (x.all hexB)) ∧ w = w' at HA
  rw [hx]
  generalize x.all hexB = a at *
  clear hl hx hle hm
  cases f with
  | false =>
    go_enter Tryz.func224, Tryz.ntmps224
    go_wp2_with (first
      | (go_at_call 228; (with_reducible refine (HC _).mono ?_); rintro e w2 ⟨rfl, rfl⟩)
      | (go_at_call 229; (with_reducible refine (HS _).mono ?_); rintro e w2 ⟨rfl, rfl⟩))
    go_ret
    exact ⟨rfl, rfl⟩
  | true =>
    cases b with
    | false =>
      go_enter Tryz.func224, Tryz.ntmps224
      go_wp2_with (first
        | (go_at_call 228; (with_reducible refine (HC _).mono ?_); rintro e w2 ⟨rfl, rfl⟩)
        | (go_at_call 229; (with_reducible refine (HS _).mono ?_); rintro e w2 ⟨rfl, rfl⟩))
      go_ret
      exact ⟨rfl, rfl⟩
    | true =>
      rw [Bool.true_and, Bool.true_and]
      by_cases h1 : 2 ≤ m
      · rw [decide_eq_true h1, Bool.true_and]
        have h1' : (2 : Int) ≤ (m : Int) := by omega
        by_cases h2 : m ≤ 45
        · rw [decide_eq_true h2, Bool.true_and]
          have h2' : (m : Int) ≤ 45 := by omega
          go_enter Tryz.func224, Tryz.ntmps224
          go_wp2_with (first
            | (go_at_call 228; (with_reducible refine (HC _).mono ?_); rintro e w2 ⟨rfl, rfl⟩)
            | (go_at_call 229; (with_reducible refine (HS _).mono ?_); rintro e w2 ⟨rfl, rfl⟩)
            | (go_at_call 230; (with_reducible refine (HA _).mono ?_); rintro e w2 ⟨rfl, rfl⟩))
          go_ret
          exact ⟨rfl, rfl⟩
        · rw [decide_eq_false h2, Bool.false_and]
          have h2' : ¬ (m : Int) ≤ 45 := by omega
          go_enter Tryz.func224, Tryz.ntmps224
          go_wp2_with (first
            | (go_at_call 228; (with_reducible refine (HC _).mono ?_); rintro e w2 ⟨rfl, rfl⟩)
            | (go_at_call 229; (with_reducible refine (HS _).mono ?_); rintro e w2 ⟨rfl, rfl⟩))
          go_ret
          exact ⟨rfl, rfl⟩
      · rw [decide_eq_false h1, Bool.false_and]
        have h1' : ¬ (2 : Int) ≤ (m : Int) := by omega
        go_enter Tryz.func224, Tryz.ntmps224
        go_wp2_with (first
          | (go_at_call 228; (with_reducible refine (HC _).mono ?_); rintro e w2 ⟨rfl, rfl⟩)
          | (go_at_call 229; (with_reducible refine (HS _).mono ?_); rintro e w2 ⟨rfl, rfl⟩))
        go_ret
        exact ⟨rfl, rfl⟩

set_option maxRecDepth 100000 in
theorem isNameC (l : List UInt8) (n : Nat) (w : World) (hl : l.length = n) (hm : n ≤ 1000000000000) :
    Calls Tryz.prog 225 #[.string (str l)] w fun e w' => e = .returned (.bool ((splitL l 46).all labelB)) ∧ Below w.heap.size w w' := by
  have HS := fun w => splitDotC l n w hl hm
  unfold GivesStrs at HS
  have hle := fun k hk => part_le l 46 k hk
  have hNn := splitL_le l 46
  rw [hl] at hle hNn
  generalize splitL l 46 = P at *
  obtain ⟨N, hN⟩ : ∃ N, P.length = N := ⟨_, rfl⟩
  rw [hN] at HS hle hNn
  have HP := Lib.hid hN
  have HR : Hid (∀ k, k < N → labelB (P.getD k []) = false → P.all labelB = false) := fun k hk h => all_no' (by rw [HP.out]; exact hk) h
  have HY : Hid ((∀ j, j < N → labelB (P.getD j []) = true) → P.all labelB = true) := fun h => all_yes' (by rw [HP.out]; exact h)
  generalize P.all labelB = R at *
  clear hN hl
  go_enter Tryz.func225, Tryz.ntmps225
  go_wp2_with (go_at_call 226; (with_reducible refine (HS _).mono ?_); rintro e w1 ⟨a1, c1, rfl, ho1, hx1⟩)
  have r1 := ho1.reads
  clear HS ho1
  go_loopw [8] (fun i wr => ∃ k : Nat, k ≤ N ∧ i = .int .i64 (k : Int) ∧ Hid (∀ j, j < k → labelB (P.getD j []) = true) ∧ Below w1.heap.size w1 wr) (fun i _ => N - (intOf i).toNat)
  case atStart => exact ⟨0, Nat.zero_le _, rfl, fun j hj => absurd hj (by omega), Below.refl _ _⟩
  case round =>
    obtain ⟨k, hk, rfl, H, hbr⟩ := hrel
    have hb := hx1.trans (hbr.mono hx1.size)
    by_cases hlt : k < N
    · have hlt' : (k : Int) < (N : Int) := by omega
      obtain ⟨g, off, rfl, hc⟩ := str_at (r1.below' hbr) k (by rw [HP.out]; exact hlt)
      have hlk := hle k hlt
      have HN := Lib.hid (fun (hp : labelB (P.getD k []) = true) => (fun j hj => by
        rcases Nat.lt_succ_iff_lt_or_eq.1 hj with h | rfl
        · exact H.out j h
        · exact hp : ∀ j, j < k + 1 → labelB (P.getD j []) = true))
      have HF := Lib.hid (HR.out k hlt)
      have HC := fun w => isLabelC (P.getD k []) _ w rfl (by unfold maxLen; omega)
      clear hle
      generalize labelB (P.getD k []) = t at *
      generalize P.getD k [] = x at hc HC
      cases t
      · have HF2 := Lib.hid (HF.out rfl)
        clear HN HF
        go_wp2_with (go_at_call 231; (with_reducible refine (HC _).mono ?_); rintro e w2 ⟨rfl, rfl⟩)
        go_ret
        exact ⟨by rw [HF2.out]; rfl, hb⟩
      · have HN2 := Lib.hid (HN.out rfl)
        clear HN HF
        go_wp2_with (go_at_call 231; (with_reducible refine (HC _).mono ?_); rintro e w2 ⟨rfl, rfl⟩)
        go_roundw
        case rel => exact ⟨k + 1, by omega, by go_num, HN2.out, hbr⟩
        case measure => simp [intOf]; omega
    · obtain rfl : k = N := by omega
      have HE := Lib.hid (HY.out H.out)
      clear hle
      go_wp2
      go_ret
      exact ⟨by rw [HE.out]; rfl, hb⟩

set_option maxRecDepth 100000 in
theorem kindOfC (l : List UInt8) (n : Nat) (w : World) (hl : l.length = n) (hm : n ≤ maxLen) (hT : PTab Tryz.prog w) :
    Calls Tryz.prog 220 #[.string (str l)] w fun e w' => e = .returned (.int .i64 (kindN l : Int)) ∧ Below w.heap.size w w' := by
  have hb := Below.refl w.heap.size w
  have hsz : (str l).size = n := by rw [str_size, hl]
  unfold kindN addrB
  rw [hl]
  by_cases h : 256 < n
  · rw [if_pos h]
    have h' : (256 : Int) < (n : Int) := by omega
    clear hl
    go_enter Tryz.func220, Tryz.ntmps220
    go_wp2
    go_ret
    exact ⟨rfl, hb⟩
  · rw [if_neg h]
    have h' : ¬ (256 : Int) < (n : Int) := by omega
    have HF := fun w (h : PTab Tryz.prog w) => isFourC l n w hl (by omega) h
    have HB := fun w => isBracketedC l n w hl hm
    have HN := fun w => isNameC l n w hl (by omega)
    generalize quadB l = q at *
    generalize bracketB l = b at *
    generalize (splitL l 46).all labelB = m at *
    clear hl
    cases q <;> cases b <;> cases m
    all_goals (
      go_enter Tryz.func220, Tryz.ntmps220
      go_wp2_with (first
        | (go_at_call 223; (with_reducible refine (HF _ (hT.below hb)).mono ?_); rintro e w1 ⟨rfl, hx⟩; have hb := hb.trans (hx.mono hb.size); clear hx)
        | (go_at_call 224; (with_reducible refine (HB _).mono ?_); rintro e w1 ⟨rfl, rfl⟩)
        | (go_at_call 225; (with_reducible refine (HN _).mono ?_); rintro e w1 ⟨rfl, hx⟩; have hb := hb.trans (hx.mono hb.size); clear hx))
      go_ret
      exact ⟨rfl, hb⟩)
end Go.Proofs.YtelgaglnmcggkaaGreatDoor

/- Contracts of layer 8: Canon, Address, Match, Labels, Up. -/
namespace Go.Proofs.YtelgaglnmcggkaaGreatDoor
open Go.RowKit
set_option linter.unusedVariables false

theorem kind_cases (l : List UInt8) : (kindN l = 0 ∧ canonB l = false ∧ nameB l = false ∧ addrB l = false) ∨ (kindN l = 1 ∧ canonB l = true ∧ nameB l = true ∧ addrB l = false) ∨ (kindN l = 2 ∧ canonB l = true ∧ nameB l = false ∧ addrB l = true) := by
  have h0 := kind_zero l
  have h1 := kind_one l
  have h2 := kind_two l
  rw [← h1, ← h2]
  have h3 := kind_le l
  generalize kindN l = k at *
  rcases (show k = 0 ∨ k = 1 ∨ k = 2 by omega) with rfl | rfl | rfl
  · refine .inl ⟨rfl, ?_, rfl, rfl⟩
    cases c : canonB l with
    | false => rfl
    | true => rw [c] at h0; cases h0
  · refine .inr (.inl ⟨rfl, ?_, rfl, rfl⟩)
    cases c : canonB l with
    | true => rfl
    | false => rw [c] at h0; cases h0
  · refine .inr (.inr ⟨rfl, ?_, rfl, rfl⟩)
    cases c : canonB l with
    | true => rfl
    | false => rw [c] at h0; cases h0

theorem canon_len {l : List UInt8} (h : canonB l = true) : l.length ≤ 256 := by
  unfold canonB at h
  rw [Bool.and_eq_true, decide_eq_true_iff] at h
  exact h.1

/-- What Canon answers. -/
def CanonIs (l : List UInt8) (w : World) (e : Ending) (w' : World) : Prop :=
  e = .returned (if 256 < l.length then .tuple #[.string (str []), .int .i64 3] else if canonB (l.map low) = true then .tuple #[.string (str (l.map low)), .int .i64 0] else .tuple #[.string (str []), .int .i64 1]) ∧ Below w.heap.size w w'

set_option maxRecDepth 100000 in
theorem canonC (l : List UInt8) (n : Nat) (w : World) (hl : l.length = n) (hm : n ≤ maxLen) (hT : PTab Tryz.prog w) :
    Calls Tryz.prog 210 #[.string (str l)] w (CanonIs l w) := by
  have hb := Below.refl w.heap.size w
  have hsz : (str l).size = n := by rw [str_size, hl]
  unfold CanonIs
  rw [hl]
  have HL := fun w => lowerC l n w hl hm
  unfold GivesStr at HL
  have HK := fun w (h : PTab Tryz.prog w) => kindOfC (l.map low) n w (by rw [List.length_map]; exact hl) hm h
  clear hl
  by_cases h : 256 < n
  · rw [if_pos h]
    have h' : (256 : Int) < (n : Int) := by omega
    go_enter Tryz.func210, Tryz.ntmps210
    go_wp2
    go_ret2
    exact ⟨rfl, hb⟩
  · rw [if_neg h]
    have h' : ¬ (256 : Int) < (n : Int) := by omega
    have hc := kind_cases (l.map low)
    generalize l.map low = x at *
    rcases hc with ⟨k, c, -, -⟩ | ⟨k, c, -, -⟩ | ⟨k, c, -, -⟩
    all_goals (
      rw [k] at HK
      rw [c]
      clear k c
      go_enter Tryz.func210, Tryz.ntmps210
      go_wp2_with (first
        | (go_at_call 219; (with_reducible refine (HL _).mono ?_); rintro e w1 ⟨rfl, hx⟩; have hb := hb.trans (hx.mono hb.size); clear hx)
        | (go_at_call 220; (with_reducible refine (HK _ (hT.below hb)).mono ?_); rintro e w1 ⟨rfl, hx⟩; have hb := hb.trans (hx.mono hb.size); clear hx))
      go_ret2
      exact ⟨rfl, hb⟩)

end Go.Proofs.YtelgaglnmcggkaaGreatDoor

/- Contracts of the reference of layer 8. -/
namespace Go.Proofs.YtelgaglnmcggkaaGreatDoor
open Go.RowKit
set_option linter.unusedVariables false

end Go.Proofs.YtelgaglnmcggkaaGreatDoor

/- Contracts of the reference of layer 8: addresses. -/
namespace Go.Proofs.YtelgaglnmcggkaaGreatDoor
open Go.RowKit
set_option linter.unusedVariables false

end Go.Proofs.YtelgaglnmcggkaaGreatDoor

/- Contracts of the reference of layer 8: addresses in brackets, names, matching. -/
namespace Go.Proofs.YtelgaglnmcggkaaGreatDoor
open Go.RowKit
set_option linter.unusedVariables false

end Go.Proofs.YtelgaglnmcggkaaGreatDoor

/- Contracts of the reference of layer 8: names, what is canonical, matching. -/
namespace Go.Proofs.YtelgaglnmcggkaaGreatDoor
open Go.RowKit
set_option linter.unusedVariables false

end Go.Proofs.YtelgaglnmcggkaaGreatDoor
