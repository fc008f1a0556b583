/- Contracts and plain words that the laws' proofs stand on, put together. -/
import Derived.Test.YtelgaglnmcggkaaGreatDoorLibAA
import Derived.Shelf.Small.Wraps
import Derived.Test.YtelgaglnmcggkaaGreatDoorRows
import Derived.BigQuiet
import Derived.Deep.QuietTactic
import Derived.Deep.RegionHeld3
import Derived.Below
import Derived.Test.YtelgaglnmcggkaaGreatDoorShelf
/- Layer 6 in plain words: letters, blanks, parts of a list of bytes. -/
namespace Go.Proofs.YtelgaglnmcggkaaGreatDoor
set_option linter.unusedVariables false

/-- A byte made small. -/
def low (x : UInt8) : UInt8 := if 65 ≤ x.toNat ∧ x.toNat ≤ 90 then UInt8.ofNat (x.toNat + 32) else x
def blank (x : UInt8) : Bool := decide (x.toNat = 32) || decide (x.toNat = 9)
def ctl (x : UInt8) : Bool := decide (x.toNat < 32) && !decide (x.toNat = 9) || decide (x.toNat = 127)
def digit (x : UInt8) : Bool := decide (48 ≤ x.toNat) && decide (x.toNat ≤ 57)

theorem u8_lt (x : UInt8) : x.toNat < 256 := x.toNat_lt
theorem low_up {x : UInt8} (h : 65 ≤ x.toNat ∧ x.toNat ≤ 90) : (low x).toNat = x.toNat + 32 := by
  unfold low
  rw [if_pos h, UInt8.toNat_ofNat']
  omega
theorem low_not {x : UInt8} (h : ¬ (65 ≤ x.toNat ∧ x.toNat ≤ 90)) : low x = x := by
  unfold low
  rw [if_neg h]
theorem low_low (x : UInt8) : low (low x) = low x := by
  by_cases h : 65 ≤ x.toNat ∧ x.toNat ≤ 90
  · refine low_not (fun h2 => ?_)
    rw [low_up h] at h2
    omega
  · rw [low_not h, low_not h]
/-- Behind the last of the first k bytes that is no blank. -/
def endB (l : List UInt8) : Nat → Nat
  | 0 => 0
  | k + 1 => if blank (l.getD k 0) = true then endB l k else k + 1
theorem endB_le (l : List UInt8) : ∀ k, endB l k ≤ k
  | 0 => Nat.le_refl _
  | k + 1 => by
    unfold endB
    have := endB_le l k
    split <;> omega
def frontB (l : List UInt8) : Nat := (l.take (endB l l.length)).findIdx (fun x => !blank x)
def trimL (l : List UInt8) : List UInt8 := (l.drop (frontB l)).take (endB l l.length - frontB l)
theorem frontB_le (l : List UInt8) : frontB l ≤ endB l l.length := by
  unfold frontB
  refine Nat.le_trans List.findIdx_le_length ?_
  rw [List.length_take]
  exact Nat.min_le_left _ _
/-- The number of these digits, 2^40 at most. -/
def numV (l : List UInt8) : Nat := l.foldl (fun n x => min (10 * n + (x.toNat - 48)) 1099511627776) 0
theorem numV_nil : numV [] = 0 := rfl
theorem numV_le (l : List UInt8) : numV l ≤ 1099511627776 := by
  unfold numV
  suffices h : ∀ (l : List UInt8) (n : Nat), n ≤ 1099511627776 → l.foldl (fun n x => min (10 * n + (x.toNat - 48)) 1099511627776) n ≤ 1099511627776 from h l 0 (by omega)
  intro l
  induction l with
  | nil => intro n h; exact h
  | cons x xs ih => intro n h; exact ih _ (Nat.min_le_right _ _)
theorem numV_take {l : List UInt8} {k : Nat} (h : k < l.length) : numV (l.take (k + 1)) = min (10 * numV (l.take k) + ((l.getD k 0).toNat - 48)) 1099511627776 := by
  unfold numV
  rw [List.take_succ_eq_append_getElem h, List.foldl_append]
  simp [List.getD, h]
def signed (l : List UInt8) : Bool := Lib.hasPrefix l [45]
def body (l : List UInt8) : List UInt8 := Lib.trimPrefix l [45]
theorem body_le (l : List UInt8) : (body l).length ≤ l.length := by
  unfold body Lib.trimPrefix
  split
  · simp
  · exact Nat.le_refl _
/-- How many digits it begins with. -/
def lead (l : List UInt8) : Nat := l.findIdx (fun x => !digit x)
theorem lead_le (l : List UInt8) : lead l ≤ l.length := List.findIdx_le_length
theorem lead_all {l : List UInt8} (h : lead l = l.length) (k : Nat) (hk : k < l.length) : 48 ≤ (l.getD k 0).toNat ∧ (l.getD k 0).toNat ≤ 57 := by
  have := List.findIdx_eq_length.1 h (l[k]) (List.getElem_mem hk)
  have e : l.getD k 0 = l[k] := by simp [List.getD, hk]
  rw [e]
  unfold digit at this
  simpa using this
def numL (l : List UInt8) : Int × Bool :=
  if (body l).length = 0 ∨ lead (body l) < (body l).length then (0, false) else (if signed l = true then 0 - (numV (body l) : Int) else (numV (body l) : Int), true)
/-- The parts that end ahead of place k, and where the next one begins. -/
def splitK (l : List UInt8) (c : UInt8) : Nat → List (List UInt8) × Nat
  | 0 => ([], 0)
  | k + 1 => if (l.getD k 0 == c) = true then ((splitK l c k).1 ++ [(l.drop (splitK l c k).2).take (k - (splitK l c k).2)], k + 1) else splitK l c k
theorem splitK_le (l : List UInt8) (c : UInt8) : ∀ k, (splitK l c k).1.length ≤ k ∧ (splitK l c k).2 ≤ k
  | 0 => ⟨Nat.le_refl _, Nat.le_refl _⟩
  | k + 1 => by
    unfold splitK
    have := splitK_le l c k
    split
    · simp
      omega
    · omega
/-- The parts between bytes c. -/
def splitL (l : List UInt8) (c : UInt8) : List (List UInt8) := (splitK l c l.length).1 ++ [l.drop (splitK l c l.length).2]
/-- Parts with the byte between them. -/
def joinL (c : UInt8) : List (List UInt8) → List UInt8
  | [] => []
  | [x] => x
  | x :: y :: r => x ++ c :: joinL c (y :: r)
theorem joinL_snoc (c : UInt8) : ∀ (p : List (List UInt8)) (x : List UInt8), p ≠ [] → joinL c (p ++ [x]) = joinL c p ++ c :: x
  | [], _, h => absurd rfl h
  | [a], x, _ => rfl
  | a :: b :: r, x, _ => by
    show a ++ c :: joinL c ((b :: r) ++ [x]) = _
    rw [joinL_snoc c (b :: r) x (by simp)]
    simp [joinL]
theorem joinL_split (l : List UInt8) (c : UInt8) : ∀ k, k ≤ l.length → joinL c ((splitK l c k).1 ++ [(l.drop (splitK l c k).2).take (k - (splitK l c k).2)]) = l.take k
  | 0, _ => by simp [splitK, joinL]
  | k + 1, hk => by
    have ih := joinL_split l c k (by omega)
    have hle := splitK_le l c k
    have ht : l.take (k + 1) = l.take k ++ [l.getD k 0] := by
      rw [List.take_succ_eq_append_getElem (by omega)]
      simp [List.getD, show k < l.length by omega]
    by_cases h : (l.getD k 0 == c) = true
    · have e : splitK l c (k + 1) = ((splitK l c k).1 ++ [(l.drop (splitK l c k).2).take (k - (splitK l c k).2)], k + 1) := by
        show (if _ then _ else _) = _
        rw [if_pos h]
      rw [e]
      simp only []
      rw [joinL_snoc c _ _ (by simp), ih, ht]
      have : l.getD k 0 = c := by simpa using h
      simp only [Nat.sub_self, List.take_zero]
      rw [this]
    · have e : splitK l c (k + 1) = splitK l c k := by
        show (if _ then _ else _) = _
        rw [if_neg h]
      rw [e, ht, ← ih]
      generalize splitK l c k = q at *
      obtain ⟨p, s⟩ := q
      simp only at *
      have e2 : (l.drop s).take (k + 1 - s) = (l.drop s).take (k - s) ++ [l.getD k 0] := by
        have : k + 1 - s = (k - s) + 1 := by omega
        rw [this, List.take_succ_eq_append_getElem (by simp; omega)]
        congr 2
        simp [List.getD, show k < l.length by omega, show s + (k - s) = k by omega]
      rw [e2]
      cases p with
      | nil => rfl
      | cons a r => rw [joinL_snoc c _ _ (by simp), joinL_snoc c _ _ (by simp)]; simp
theorem joinL_all (l : List UInt8) (c : UInt8) : joinL c (splitL l c) = l := by
  have h := joinL_split l c l.length (Nat.le_refl _)
  have hle := splitK_le l c l.length
  rw [List.take_of_length_le (by simp)] at h
  unfold splitL
  rw [h, List.take_of_length_le (Nat.le_refl _)]
theorem endB_blank {l : List UInt8} : ∀ {k : Nat}, endB l k = 0 → ∀ j, j < k → blank (l.getD j 0) = true
  | 0, _, j, hj => absurd hj (by omega)
  | k + 1, h, j, hj => by
    unfold endB at h
    split at h
    · rename_i hb
      rcases Nat.lt_succ_iff_lt_or_eq.1 hj with h2 | rfl
      · exact endB_blank h j h2
      · exact hb
    · omega
theorem endB_at {l : List UInt8} : ∀ {k e : Nat}, endB l k = e + 1 → blank (l.getD e 0) = false
  | 0, e, h => by unfold endB at h; omega
  | k + 1, e, h => by
    unfold endB at h
    split at h
    · exact endB_at h
    · rename_i hb
      obtain rfl : k = e := by omega
      simpa using hb
/-- Where the first byte that is no blank stands. -/
def nb (l : List UInt8) : Nat := l.findIdx (fun x => !blank x)
theorem nb_le (l : List UInt8) : nb l ≤ l.length := List.findIdx_le_length
theorem nb_lt {l : List UInt8} {k : Nat} (h : k < nb l) : blank (l.getD k 0) = true := by
  have h2 : k < l.length := Nat.lt_of_lt_of_le h (nb_le l)
  have := List.not_of_lt_findIdx h
  simp only [List.getD, List.getElem?_eq_getElem h2, Option.getD_some]
  simpa using this
theorem nb_at {l : List UInt8} (h : nb l < l.length) : blank (l.getD (nb l) 0) = false := by
  have : (!blank (l[nb l]'h)) = true := List.findIdx_getElem (xs := l) (p := fun x => !blank x) (w := h)
  have e : l.getD (nb l) 0 = l[nb l] := by simp [List.getD, h]
  rw [e]
  simpa using this
/-- What the reference cuts out. -/
theorem trimL_max (l : List UInt8) : (l.drop (nb l)).take (max (nb l) (endB l l.length) - nb l) = trimL l := by
  have hle := endB_le l l.length
  have hn := nb_le l
  rcases Nat.eq_zero_or_pos (endB l l.length) with h0 | h0
  · have e1 : nb l = l.length := by
      rcases Nat.lt_or_ge (nb l) l.length with h1 | h1
      · have h2 := nb_at h1
        rw [endB_blank h0 _ h1] at h2
        cases h2
      · omega
    unfold trimL
    rw [h0, e1]
    simp
  · obtain ⟨e, he⟩ : ∃ e, endB l l.length = e + 1 := ⟨endB l l.length - 1, by omega⟩
    have hb := endB_at he
    have hlt : nb l < e + 1 := by
      rcases Nat.lt_or_ge (nb l) (e + 1) with h1 | h1
      · exact h1
      · rw [nb_lt (show e < nb l by omega)] at hb
        cases hb
    have hf : frontB l = nb l := by
      unfold frontB
      rw [he]
      refine findIdx_at (fun j hj => ?_) (by rw [List.length_take]; omega) ?_
      · have e2 : (l.take (e + 1)).getD j 0 = l.getD j 0 := by simp [List.getD, show j < e + 1 by omega]
        rw [e2, nb_lt hj]
        rfl
      · have e2 : (l.take (e + 1)).getD (nb l) 0 = l.getD (nb l) 0 := by simp [List.getD, hlt]
        rw [e2, nb_at (by omega)]
        rfl
    unfold trimL
    rw [hf, he, Nat.max_eq_right (by omega)]
theorem endB_step {l : List UInt8} {t : Nat} (h : blank (l.getD t 0) = true) : endB l (t + 1) = endB l t := by
  show (if _ then _ else _) = _
  rw [if_pos h]
theorem endB_stop {l : List UInt8} {t : Nat} (h : blank (l.getD t 0) = false) : endB l (t + 1) = t + 1 := by
  show (if _ then _ else _) = _
  rw [if_neg (by rw [h]; decide)]
theorem lead_lt {l : List UInt8} {k : Nat} (h : k < lead l) : 48 ≤ (l.getD k 0).toNat ∧ (l.getD k 0).toNat ≤ 57 := by
  have h2 : k < l.length := Nat.lt_of_lt_of_le h (lead_le l)
  have := List.not_of_lt_findIdx h
  simp only [List.getD, List.getElem?_eq_getElem h2, Option.getD_some]
  unfold digit at this
  simpa using this
theorem lead_at {l : List UInt8} (h : lead l < l.length) : ¬ (48 ≤ (l.getD (lead l) 0).toNat ∧ (l.getD (lead l) 0).toNat ≤ 57) := by
  have : (!digit (l[lead l]'h)) = true := List.findIdx_getElem (xs := l) (p := fun x => !digit x) (w := h)
  have e : l.getD (lead l) 0 = l[lead l] := by simp [List.getD, h]
  rw [e]
  unfold digit at this
  simp at this
  omega
theorem signed_yes {l : List UInt8} (h : signed l = true) : 1 ≤ l.length ∧ (l.getD 0 0).toNat = 45 ∧ body l = l.drop 1 := by
  unfold signed Lib.hasPrefix at h
  cases l with
  | nil => simp at h
  | cons x xs =>
    simp at h
    subst h
    exact ⟨by simp, rfl, rfl⟩
theorem signed_no {l : List UInt8} (h : signed l = false) : (l.length = 0 ∨ (l.getD 0 0).toNat ≠ 45) ∧ body l = l := by
  unfold body Lib.trimPrefix
  unfold signed at h
  rw [h]
  refine ⟨?_, rfl⟩
  unfold Lib.hasPrefix at h
  cases l with
  | nil => exact .inl rfl
  | cons x xs =>
    right
    intro hx
    have : x = 45 := UInt8.toNat_inj.1 hx
    subst this
    simp at h
theorem joinL_le (c : UInt8) : ∀ (p q : List (List UInt8)), (joinL c p).length ≤ (joinL c (p ++ q)).length
  | [], q => by simp [joinL]
  | [x], [] => Nat.le_refl _
  | [x], y :: r => by
    show x.length ≤ (x ++ c :: joinL c (y :: r)).length
    simp
  | x :: y :: r, q => by
    have h := joinL_le c (y :: r) q
    show (x ++ c :: joinL c (y :: r)).length ≤ (x ++ c :: joinL c ((y :: r) ++ q)).length
    simp only [List.length_append, List.length_cons]
    omega
theorem joinL_take (c : UInt8) (p : List (List UInt8)) (i : Nat) (hi : i < p.length) : joinL c (p.take (i + 1)) = if i = 0 then p.getD 0 [] else joinL c (p.take i) ++ c :: p.getD i [] := by
  have ht : p.take (i + 1) = p.take i ++ [p.getD i []] := by
    rw [List.take_succ_eq_append_getElem hi]
    simp [List.getD, hi]
  rw [ht]
  by_cases h : i = 0
  · subst h
    rw [if_pos rfl]
    rfl
  · rw [if_neg h, joinL_snoc]
    intro h2
    have := congrArg List.length h2
    rw [List.length_take, List.length_nil] at this
    omega
theorem joinL_take_le (c : UInt8) (p : List (List UInt8)) (i : Nat) : (joinL c (p.take i)).length ≤ (joinL c p).length := by
  have := joinL_le c (p.take i) (p.drop i)
  rwa [List.take_append_drop] at this
theorem splitL_pos (l : List UInt8) (c : UInt8) : 1 ≤ (splitL l c).length := by unfold splitL; simp
theorem splitL_le (l : List UInt8) (c : UInt8) : (splitL l c).length ≤ l.length + 1 := by
  unfold splitL
  have := (splitK_le l c l.length).1
  simp
  omega
theorem mem_join_le (c : UInt8) : ∀ (p : List (List UInt8)) (x : List UInt8), x ∈ p → x.length ≤ (joinL c p).length
  | [], x, h => by cases h
  | [y], x, h => by simp at h; subst h; exact Nat.le_refl _
  | y :: z :: r, x, h => by
    show x.length ≤ (y ++ c :: joinL c (z :: r)).length
    simp only [List.length_append, List.length_cons]
    rcases List.mem_cons.1 h with rfl | h2
    · omega
    · have := mem_join_le c (z :: r) x h2
      omega
end Go.Proofs.YtelgaglnmcggkaaGreatDoor

/- Contracts of layer 6: single bytes. -/
namespace Go.Proofs.YtelgaglnmcggkaaGreatDoor
open Go.RowKit
set_option linter.unusedVariables false

theorem smallC (x : UInt8) (w : World) : Calls Tryz.prog 222 #[.int .u8 (x.toNat : Int)] w fun e w' => e = .returned (.int .u8 ((low x).toNat : Int)) ∧ w = w' := by
  have h0 := u8_lt x
  by_cases h : 65 ≤ x.toNat ∧ x.toNat ≤ 90
  · obtain ⟨h1, h2⟩ := h
    rw [low_up ⟨h1, h2⟩]
    generalize x.toNat = n at *
    go_enter Tryz.func222, Tryz.ntmps222
    go_wp2
    go_ret
    simp
    omega
  · rw [low_not h]
    generalize x.toNat = n at *
    go_enter Tryz.func222, Tryz.ntmps222
    go_wp2
    all_goals (go_ret; simp)

theorem isBlankC (x : UInt8) (w : World) : Calls Tryz.prog 216 #[.int .u8 (x.toNat : Int)] w fun e w' => e = .returned (.bool (blank x)) ∧ w = w' := by
  have h0 := u8_lt x
  unfold blank
  generalize x.toNat = n at *
  go_enter Tryz.func216, Tryz.ntmps216
  go_wp2
  all_goals (go_ret; first | done | (simp; done) | (simp; omega) | (refine ⟨?_, rfl⟩; congr 2; rw [Bool.eq_iff_iff]; simp; omega) | (simp; rw [Bool.eq_iff_iff]; simp; omega))

theorem isControlC (x : UInt8) (w : World) : Calls Tryz.prog 215 #[.int .u8 (x.toNat : Int)] w fun e w' => e = .returned (.bool (ctl x)) ∧ w = w' := by
  have h0 := u8_lt x
  unfold ctl
  generalize x.toNat = n at *
  go_enter Tryz.func215, Tryz.ntmps215
  go_wp2
  all_goals (go_ret; first | done | (simp; done) | (simp; omega) | (refine ⟨?_, rfl⟩; congr 2; rw [Bool.eq_iff_iff]; simp; omega) | (simp; rw [Bool.eq_iff_iff]; simp; omega))

theorem trimFnC (x : UInt8) (w : World) : Calls Tryz.prog 217 #[.int .u8 (x.toNat : Int)] w fun e w' => e = .returned (.bool (!blank x)) ∧ w = w' := by
  have h0 := u8_lt x
  have H := isBlankC x
  generalize blank x = b at *
  go_enter Tryz.func217, Tryz.ntmps217
  go_wp2_with (go_at_call 216; (with_reducible refine (H _).mono ?_); rintro e w1 ⟨rfl, rfl⟩)
  go_ret
  exact ⟨rfl, rfl⟩

theorem digitFnC (x : UInt8) (w : World) : Calls Tryz.prog 240 #[.int .u8 (x.toNat : Int)] w fun e w' => e = .returned (.bool (!digit x)) ∧ w = w' := by
  have h0 := u8_lt x
  unfold digit
  generalize x.toNat = n at *
  go_enter Tryz.func240, Tryz.ntmps240
  go_wp2
  all_goals (go_ret; first | done | (simp; done) | (simp; omega) | (refine ⟨?_, rfl⟩; congr 2; rw [Bool.eq_iff_iff]; simp; omega) | (simp; rw [Bool.eq_iff_iff]; simp; omega))

set_option maxRecDepth 100000 in
theorem firstTrimC (p : UInt8 → Bool) (l : List UInt8) (n : Nat) (w : World) (hp : ∀ x : UInt8, Calls Tryz.prog 217 #[.int .u8 (x.toNat : Int)] w fun e w' => e = .returned (.bool (p x)) ∧ w = w') (hl : l.length = n) (hm : n ≤ maxLen) :
    Calls Tryz.prog 214 #[.string (str l), .func (.func 217) #[] #[]] w fun e w' => e = .returned (.int .i64 (l.findIdx p : Int)) ∧ w = w' := by
  have hsz : (str l).size = n := by rw [str_size, hl]
  unfold maxLen at hm
  have HL := Lib.hid hl
  clear hl
  go_enter Tryz.func214, Tryz.ntmps214
  go_wp2
  go_step3
  go_wp2
  go_step3
  go_wp2
  go_loopw [5, 11] (fun v i wr => ∃ k : Nat, k ≤ n ∧ v = .int .i64 (n : Int) ∧ i = .int .i64 (k : Int) ∧ Hid (∀ j, j < k → p (l.getD j 0) = false) ∧ w = wr) (fun _ i _ => n - (intOf i).toNat)
  case atStart => exact ⟨0, Nat.zero_le _, rfl, rfl, fun j hj => absurd hj (by omega), rfl⟩
  case round =>
    obtain ⟨k, hk, rfl, rfl, H, rfl⟩ := hrel
    by_cases hlt : k < n
    · have hlt' : (k : Int) < (n : Int) := by omega
      have hi := run_index_str (P := Tryz.prog) w 9 l .i64 k Tryz.underlying9 (by rw [HL.out]; exact hlt)
      have HF := Lib.hid (fun hp => findIdx_at (p := p) H.out (by rw [HL.out]; exact hlt) hp)
      have HN := Lib.hid (fun (hp : p (l.getD k 0) = false) => (fun j hj => by
        rcases Nat.lt_succ_iff_lt_or_eq.1 hj with h | rfl
        · exact H.out j h
        · exact hp : ∀ j, j < k + 1 → p (l.getD j 0) = false))
      have HC := hp (l.getD k 0)
      generalize p (l.getD k 0) = t at HC HF HN
      generalize l.getD k 0 = x at HC hi
      cases t
      · have HN2 := Lib.hid (HN.out rfl)
        clear HN HF
        go_wp2_with (go_at_call 217; (with_reducible refine HC.mono ?_); rintro e w1 ⟨rfl, rfl⟩)
        go_roundw
        case rel => exact ⟨k + 1, by omega, rfl, by go_num, HN2.out, by first | rfl | trivial⟩
        case measure => simp [intOf]; omega
      · have HF2 := Lib.hid (HF.out rfl)
        clear HN HF
        go_wp2_with (go_at_call 217; (with_reducible refine HC.mono ?_); rintro e w1 ⟨rfl, rfl⟩)
        rw [Exit.noGoto_ret]
        go_ret
        exact ⟨by rw [HF2.out]; rfl, rfl⟩
    · obtain rfl : k = n := by omega
      have HE := Lib.hid (findIdx_end (p := p) (by rw [HL.out]; exact H.out))
      rw [HL.out] at HE
      go_wp2
      rw [Exit.noGoto_ret]
      go_ret
      exact ⟨by rw [HE.out]; rfl, rfl⟩

set_option maxRecDepth 100000 in
theorem firstDigitC (p : UInt8 → Bool) (l : List UInt8) (n : Nat) (w : World) (hp : ∀ x : UInt8, Calls Tryz.prog 240 #[.int .u8 (x.toNat : Int)] w fun e w' => e = .returned (.bool (p x)) ∧ w = w') (hl : l.length = n) (hm : n ≤ maxLen) :
    Calls Tryz.prog 214 #[.string (str l), .func (.func 240) #[] #[]] w fun e w' => e = .returned (.int .i64 (l.findIdx p : Int)) ∧ w = w' := by
  have hsz : (str l).size = n := by rw [str_size, hl]
  unfold maxLen at hm
  have HL := Lib.hid hl
  clear hl
  go_enter Tryz.func214, Tryz.ntmps214
  go_wp2
  go_step3
  go_wp2
  go_step3
  go_wp2
  go_loopw [5, 11] (fun v i wr => ∃ k : Nat, k ≤ n ∧ v = .int .i64 (n : Int) ∧ i = .int .i64 (k : Int) ∧ Hid (∀ j, j < k → p (l.getD j 0) = false) ∧ w = wr) (fun _ i _ => n - (intOf i).toNat)
  case atStart => exact ⟨0, Nat.zero_le _, rfl, rfl, fun j hj => absurd hj (by omega), rfl⟩
  case round =>
    obtain ⟨k, hk, rfl, rfl, H, rfl⟩ := hrel
    by_cases hlt : k < n
    · have hlt' : (k : Int) < (n : Int) := by omega
      have hi := run_index_str (P := Tryz.prog) w 9 l .i64 k Tryz.underlying9 (by rw [HL.out]; exact hlt)
      have HF := Lib.hid (fun hp => findIdx_at (p := p) H.out (by rw [HL.out]; exact hlt) hp)
      have HN := Lib.hid (fun (hp : p (l.getD k 0) = false) => (fun j hj => by
        rcases Nat.lt_succ_iff_lt_or_eq.1 hj with h | rfl
        · exact H.out j h
        · exact hp : ∀ j, j < k + 1 → p (l.getD j 0) = false))
      have HC := hp (l.getD k 0)
      generalize p (l.getD k 0) = t at HC HF HN
      generalize l.getD k 0 = x at HC hi
      cases t
      · have HN2 := Lib.hid (HN.out rfl)
        clear HN HF
        go_wp2_with (go_at_call 240; (with_reducible refine HC.mono ?_); rintro e w1 ⟨rfl, rfl⟩)
        go_roundw
        case rel => exact ⟨k + 1, by omega, rfl, by go_num, HN2.out, by first | rfl | trivial⟩
        case measure => simp [intOf]; omega
      · have HF2 := Lib.hid (HF.out rfl)
        clear HN HF
        go_wp2_with (go_at_call 240; (with_reducible refine HC.mono ?_); rintro e w1 ⟨rfl, rfl⟩)
        rw [Exit.noGoto_ret]
        go_ret
        exact ⟨by rw [HF2.out]; rfl, rfl⟩
    · obtain rfl : k = n := by omega
      have HE := Lib.hid (findIdx_end (p := p) (by rw [HL.out]; exact H.out))
      rw [HL.out] at HE
      go_wp2
      rw [Exit.noGoto_ret]
      go_ret
      exact ⟨by rw [HE.out]; rfl, rfl⟩

set_option maxRecDepth 100000 in
theorem firstCtlC (p : UInt8 → Bool) (l : List UInt8) (n : Nat) (w : World) (hp : ∀ x : UInt8, Calls Tryz.prog 215 #[.int .u8 (x.toNat : Int)] w fun e w' => e = .returned (.bool (p x)) ∧ w = w') (hl : l.length = n) (hm : n ≤ maxLen) :
    Calls Tryz.prog 214 #[.string (str l), .func (.func 215) #[] #[]] w fun e w' => e = .returned (.int .i64 (l.findIdx p : Int)) ∧ w = w' := by
  have hsz : (str l).size = n := by rw [str_size, hl]
  unfold maxLen at hm
  have HL := Lib.hid hl
  clear hl
  go_enter Tryz.func214, Tryz.ntmps214
  go_wp2
  go_step3
  go_wp2
  go_step3
  go_wp2
  go_loopw [5, 11] (fun v i wr => ∃ k : Nat, k ≤ n ∧ v = .int .i64 (n : Int) ∧ i = .int .i64 (k : Int) ∧ Hid (∀ j, j < k → p (l.getD j 0) = false) ∧ w = wr) (fun _ i _ => n - (intOf i).toNat)
  case atStart => exact ⟨0, Nat.zero_le _, rfl, rfl, fun j hj => absurd hj (by omega), rfl⟩
  case round =>
    obtain ⟨k, hk, rfl, rfl, H, rfl⟩ := hrel
    by_cases hlt : k < n
    · have hlt' : (k : Int) < (n : Int) := by omega
      have hi := run_index_str (P := Tryz.prog) w 9 l .i64 k Tryz.underlying9 (by rw [HL.out]; exact hlt)
      have HF := Lib.hid (fun hp => findIdx_at (p := p) H.out (by rw [HL.out]; exact hlt) hp)
      have HN := Lib.hid (fun (hp : p (l.getD k 0) = false) => (fun j hj => by
        rcases Nat.lt_succ_iff_lt_or_eq.1 hj with h | rfl
        · exact H.out j h
        · exact hp : ∀ j, j < k + 1 → p (l.getD j 0) = false))
      have HC := hp (l.getD k 0)
      generalize p (l.getD k 0) = t at HC HF HN
      generalize l.getD k 0 = x at HC hi
      cases t
      · have HN2 := Lib.hid (HN.out rfl)
        clear HN HF
        go_wp2_with (go_at_call 215; (with_reducible refine HC.mono ?_); rintro e w1 ⟨rfl, rfl⟩)
        go_roundw
        case rel => exact ⟨k + 1, by omega, rfl, by go_num, HN2.out, by first | rfl | trivial⟩
        case measure => simp [intOf]; omega
      · have HF2 := Lib.hid (HF.out rfl)
        clear HN HF
        go_wp2_with (go_at_call 215; (with_reducible refine HC.mono ?_); rintro e w1 ⟨rfl, rfl⟩)
        rw [Exit.noGoto_ret]
        go_ret
        exact ⟨by rw [HF2.out]; rfl, rfl⟩
    · obtain rfl : k = n := by omega
      have HE := Lib.hid (findIdx_end (p := p) (by rw [HL.out]; exact H.out))
      rw [HL.out] at HE
      go_wp2
      rw [Exit.noGoto_ret]
      go_ret
      exact ⟨by rw [HE.out]; rfl, rfl⟩

end Go.Proofs.YtelgaglnmcggkaaGreatDoor

/- Contracts of layer 6: texts. -/
namespace Go.Proofs.YtelgaglnmcggkaaGreatDoor
open Go.RowKit
set_option linter.unusedVariables false

/-- A text is answered; what was there is as it was. -/
def GivesStr (l : List UInt8) (w : World) (e : Ending) (w' : World) : Prop := e = .returned (.string (str l)) ∧ Below w.heap.size w w'

set_option maxRecDepth 100000 in
theorem lowerC (l : List UInt8) (n : Nat) (w : World) (hl : l.length = n) (hm : n ≤ maxLen) :
    Calls Tryz.prog 219 #[.string (str l)] w (GivesStr (l.map low) w) := by
  have hsz : (str l).size = n := by rw [str_size, hl]
  have hcv := fun w : World => Lib.run_convert_string_bytes (P := Tryz.prog) w 9 232 5 (str l) Tryz.underlying9 Tryz.underlying232 Tryz.underlying5
  have hB0 := BRow.new w 5 l
  have hb0 : Below w.heap.size w (Lib.bytesWorld w 5 (str l)) := ⟨rfl, rfl, rfl, by rw [Lib.bytesWorld_size]; omega, fun k hk => Lib.bytesWorld_at_old w 5 (str l) k hk⟩
  unfold maxLen at hm
  have HL := Lib.hid hl
  clear hl
  go_enter Tryz.func219, Tryz.ntmps219
  go_wp2
  generalize Lib.bytesWorld w 5 (str l) = w1 at *
  go_loopw [9] (fun i wr => ∃ k : Nat, k ≤ n ∧ i = .int .i64 (k : Int) ∧ BRow wr w.heap.size ((l.take k).map low ++ l.drop k) ∧ Below w.heap.size w wr) (fun i _ => n - (intOf i).toNat)
  case atStart => exact ⟨0, Nat.zero_le _, rfl, by simpa using hB0, hb0⟩
  case round =>
    obtain ⟨k, hk, rfl, H, hb⟩ := hrel
    clear hcv hB0 hb0
    have hlen : ((l.take k).map low ++ l.drop k).length = n := by have := HL.out; simp; omega
    by_cases hlt : k < n
    · have hlt' : (k : Int) < (n : Int) := by omega
      have hi := run_index_str (P := Tryz.prog) wr 9 l .i64 k Tryz.underlying9 (by rw [HL.out]; exact hlt)
      have HS := Lib.hid (set_low (f := low) (l := l) (k := k) (by rw [HL.out]; exact hlt))
      have HN := Lib.hid (H.set k (low (l.getD k 0)))
      have hc := H.cell k (by omega)
      have hf := H.free k (by omega)
      have hlt2 : w.heap.size < wr.heap.size := H.lt
      have HC := fun w => smallC (l.getD k 0) w
      have HB := Lib.hid hb
      generalize ((List.take k l).map low ++ List.drop k l).getD k 0 = y at hc
      clear H hb
      generalize l.getD k 0 = x at *
      go_wp2_with (go_at_call 222; (with_reducible refine (HC _).mono ?_); rintro e w2 ⟨rfl, rfl⟩)
      go_roundw
      case rel => exact ⟨k + 1, by omega, by go_num, by rw [← HS.out]; exact HN.out, HB.out.setCell (Nat.le_refl _) _⟩
      case measure => simp [intOf]; omega
    · obtain rfl : k = n := by omega
      have e1 : (l.take k).map low ++ l.drop k = l.map low := by rw [← HL.out]; simp
      rw [e1] at H hlen
      have hbk := fun cap => H.back (P := Tryz.prog) 232 9 5 k cap Tryz.underlying232 Tryz.underlying5 Tryz.underlying9 hlen
      have HB := Lib.hid hb
      clear H hb e1
      go_wp2
      go_ret
      exact ⟨rfl, HB.out⟩

set_option maxRecDepth 100000 in
theorem trimC (l : List UInt8) (n : Nat) (w : World) (hl : l.length = n) (hm : n ≤ maxLen) :
    Calls Tryz.prog 208 #[.string (str l)] w fun e w' => e = .returned (.string (str (trimL l))) ∧ w = w' := by
  have hsz : (str l).size = n := by rw [str_size, hl]
  unfold maxLen at hm
  have HL := Lib.hid hl
  clear hl
  go_enter Tryz.func208, Tryz.ntmps208
  go_wp2
  go_loopw [3, 8] (fun v i wr => ∃ k : Nat, k ≤ n ∧ v = .int .i64 (endB l k : Int) ∧ i = .int .i64 (k : Int) ∧ w = wr) (fun _ i _ => n - (intOf i).toNat)
  case atStart => exact ⟨0, Nat.zero_le _, rfl, rfl, rfl⟩
  case round =>
    obtain ⟨k, hk, rfl, rfl, rfl⟩ := hrel
    by_cases hlt : k < n
    · have hlt' : (k : Int) < (n : Int) := by omega
      have hi := run_index_str (P := Tryz.prog) w 9 l .i64 k Tryz.underlying9 (by rw [HL.out]; exact hlt)
      have HC := fun w => isBlankC (l.getD k 0) w
      have HE : Hid (endB l (k + 1) = if blank (l.getD k 0) = true then endB l k else k + 1) := rfl
      generalize blank (l.getD k 0) = t at HC HE
      generalize l.getD k 0 = x at HC hi
      cases t
      · go_wp2_with (go_at_call 216; (with_reducible refine (HC _).mono ?_); rintro e w2 ⟨rfl, rfl⟩)
        go_roundw
        case rel => exact ⟨k + 1, by omega, by rw [HE.out]; simp, by go_num, by first | rfl | trivial⟩
        case measure => simp [intOf]; omega
      · go_wp2_with (go_at_call 216; (with_reducible refine (HC _).mono ?_); rintro e w2 ⟨rfl, rfl⟩)
        go_roundw
        case rel => exact ⟨k + 1, by omega, by rw [HE.out]; simp, by go_num, by first | rfl | trivial⟩
        case measure => simp [intOf]; omega
    · obtain rfl : k = n := by omega
      have he := endB_le l k
      have hf := frontB_le l
      have hx : (str l).extract 0 (endB l k) = str (l.take (endB l k)) := by rw [str_extract]; simp
      have hx2 : (str l).extract (frontB l) (endB l k) = str (trimL l) := by rw [str_extract]; unfold trimL; rw [HL.out]
      have HF := fun w => firstTrimC (fun x => !blank x) (l.take (endB l k)) (endB l k) w (fun x => trimFnC x w) (by rw [List.length_take, HL.out]; omega) (by unfold maxLen; omega)
      have e1 : (l.take (endB l k)).findIdx (fun x => !blank x) = frontB l := by unfold frontB; rw [HL.out]
      rw [HL.out] at hf
      simp only [e1] at HF
      clear e1
      obtain ⟨tl, htl⟩ : ∃ tl, trimL l = tl := ⟨_, rfl⟩
      rw [htl] at hx2
      have HT := Lib.hid htl
      clear htl
      generalize frontB l = f at *
      generalize endB l k = e at *
      generalize l.take e = l2 at *
      go_wp2_with (go_at_call 214; (with_reducible refine (HF _).mono ?_); rintro e w2 ⟨rfl, rfl⟩)
      go_ret
      exact ⟨by rw [HT.out]; rfl, rfl⟩

theorem controlC (l : List UInt8) (n : Nat) (w : World) (hl : l.length = n) (hm : n ≤ maxLen) :
    Calls Tryz.prog 207 #[.string (str l)] w fun e w' => e = .returned (.bool (l.any ctl)) ∧ w = w' := by
  have hsz : (str l).size = n := by rw [str_size, hl]
  have HF := fun w => firstCtlC ctl l n w (fun x => isControlC x w) hl hm
  have e1 : l.any ctl = decide (l.findIdx ctl < n) := by
    rw [Bool.eq_iff_iff, List.any_eq_true, decide_eq_true_iff, ← hl]
    exact (List.findIdx_lt_length (xs := l) (p := ctl)).symm
  rw [e1]
  clear e1
  unfold maxLen at hm
  generalize l.findIdx ctl = f at *
  clear hl
  go_enter Tryz.func207, Tryz.ntmps207
  go_wp2_with (go_at_call 214; (with_reducible refine (HF _).mono ?_); rintro e w2 ⟨rfl, rfl⟩)
  go_ret
  exact ⟨rfl, rfl⟩

theorem digitsC (l : List UInt8) (n : Nat) (w : World) (hl : l.length = n) (hm : n ≤ maxLen) :
    Calls Tryz.prog 237 #[.string (str l)] w fun e w' => e = .returned (.int .i64 (l.findIdx (fun x => !digit x) : Int)) ∧ w = w' := by
  have HF := fun w => firstDigitC (fun x => !digit x) l n w (fun x => digitFnC x w) hl hm
  generalize l.findIdx (fun x => !digit x) = f at *
  clear hl
  go_enter Tryz.func237, Tryz.ntmps237
  go_wp2_with (go_at_call 214; (with_reducible refine (HF _).mono ?_); rintro e w2 ⟨rfl, rfl⟩)
  go_ret
  exact ⟨rfl, rfl⟩

end Go.Proofs.YtelgaglnmcggkaaGreatDoor

/- Contracts of layer 6: numbers. -/
namespace Go.Proofs.YtelgaglnmcggkaaGreatDoor
open Go.RowKit
set_option linter.unusedVariables false

theorem cutDashC (l : List UInt8) (w : World) : Calls Tryz.prog 228 #[.string (str l), .string ⟨#[45]⟩] w fun e w' => e = .returned (.tuple #[.string (str (body l)), .bool (signed l)]) ∧ w = w' := by
  refine (Tryz.strings_CutPrefix (str l) ⟨#[45]⟩ w).mono ?_
  rintro e w' ⟨rfl, rfl⟩
  rw [str_data]
  exact ⟨rfl, rfl⟩

set_option maxRecDepth 100000 in
theorem numberC (l : List UInt8) (n : Nat) (w : World) (hl : l.length = n) (hm : n ≤ maxLen) :
    Calls Tryz.prog 232 #[.string (str l)] w fun e w' => e = .returned (.tuple #[.int .i64 (numL l).1, .bool (numL l).2]) ∧ w = w' := by
  have HC := cutDashC l
  have hle := body_le l
  unfold numL
  generalize body l = b at *
  generalize signed l = g at *
  obtain ⟨m, hb⟩ : ∃ m, b.length = m := ⟨_, rfl⟩
  have hsz : (str b).size = m := by rw [str_size, hb]
  have HD := fun w => digitsC b m w hb (by omega)
  have hd : lead b ≤ m := by rw [← hb]; exact lead_le b
  have hal := fun h => lead_all (l := b) h
  rw [hb] at hle hal ⊢
  rw [hl] at hle
  clear hl
  change ∀ w, Calls Tryz.prog 237 #[.string (str b)] w fun e w' => e = .returned (.int .i64 (lead b : Int)) ∧ w = w' at HD
  have hk := str_toList b
  have HB := Lib.hid hb
  unfold maxLen at hm
  rcases Nat.eq_zero_or_pos m with hm0 | hm0
  · rw [if_pos (.inl hm0)]
    have : b = [] := List.eq_nil_of_length_eq_zero (hb.trans hm0)
    subst this
    clear hb HB hal HD hd
    go_enter Tryz.func232, Tryz.ntmps232
    go_wp2_with (go_at_call 228; (with_reducible refine (HC _).mono ?_); rintro e w2 ⟨rfl, rfl⟩)
    go_ret2
    exact ⟨rfl, rfl⟩
  · have hbn : (b == []) = false := by
      cases b with
      | nil => simp at hb; omega
      | cons x xs => rfl
    clear hb
    generalize lead b = d at *
    by_cases hlt : d < m
    · rw [if_pos (.inr hlt)]
      have hlt' : (d : Int) < (m : Int) := by omega
      go_enter Tryz.func232, Tryz.ntmps232
      go_wp2_with (first | (go_at_call 228; (with_reducible refine (HC _).mono ?_); rintro e w2 ⟨rfl, rfl⟩) | (go_at_call 237; (with_reducible refine (HD _).mono ?_); rintro e w2 ⟨rfl, rfl⟩))
      go_ret2
      exact ⟨rfl, rfl⟩
    · rw [if_neg (by omega)]
      obtain rfl : d = m := by omega
      have hge : ¬ ((d : Int) < (d : Int)) := by omega
      have HA := Lib.hid (hal rfl)
      clear hal hlt
      go_enter Tryz.func232, Tryz.ntmps232
      go_wp2_with (first | (go_at_call 228; (with_reducible refine (HC _).mono ?_); rintro e w2 ⟨rfl, rfl⟩) | (go_at_call 237; (with_reducible refine (HD _).mono ?_); rintro e w2 ⟨rfl, rfl⟩))
      go_loopw [6, 24] (fun v i wr => ∃ k : Nat, k ≤ d ∧ v = .int .i64 (numV (b.take k) : Int) ∧ i = .int .i64 (k : Int) ∧ w = wr) (fun _ i _ => d - (intOf i).toNat)
      case atStart => exact ⟨0, Nat.zero_le _, rfl, rfl, rfl⟩
      case round =>
        obtain ⟨k, hk2, rfl, rfl, rfl⟩ := hrel
        clear HC HD
        by_cases hlt : k < d
        · have hlt' : (k : Int) < (d : Int) := by omega
          have hi := run_index_str (P := Tryz.prog) w 9 b .i64 k Tryz.underlying9 (by rw [HB.out]; exact hlt)
          obtain ⟨d1, d2⟩ := HA.out k hlt
          have HV := Lib.hid (numV_take (l := b) (k := k) (by rw [HB.out]; exact hlt))
          have hv := numV_le (b.take k)
          generalize numV (b.take k) = V at *
          generalize (b.getD k 0).toNat = x at *
          obtain ⟨y, rfl⟩ : ∃ y, x = y + 48 := ⟨x - 48, by omega⟩
          go_wp2
          go_roundw
          case rel => exact ⟨k + 1, by omega, by rw [HV.out]; congr 1; omega, by go_num, by first | rfl | trivial⟩
          case measure => simp [intOf]; omega
        · obtain rfl : k = d := by omega
          have hv := numV_le b
          have e1 : b.take k = b := List.take_of_length_le (by rw [HB.out]; omega)
          rw [e1]
          obtain ⟨V, hV⟩ : ∃ V, numV b = V := ⟨_, rfl⟩
          rw [hV] at hv ⊢
          have HV := Lib.hid hV
          clear hV e1
          cases g
          · go_wp2
            go_ret2
            exact ⟨by rw [HV.out]; rfl, rfl⟩
          · go_wp2
            go_ret2
            exact ⟨by rw [HV.out]; simp, rfl⟩
end Go.Proofs.YtelgaglnmcggkaaGreatDoor

/- Contracts of layer 6: parts; the reference's. -/
namespace Go.Proofs.YtelgaglnmcggkaaGreatDoor
open Go.RowKit
set_option linter.unusedVariables false

theorem infoStr : (Tryz.prog.info? 9).map (fun i => (i.zero, i.size, i.bytes)) = some (some (.string ⟨#[]⟩), 1, 16) := by kernel_rfl
/-- Strings of these bytes. -/
def strs (p : List (List UInt8)) : List Value := p.map fun l => Value.string (str l)
theorem strs_length (p : List (List UInt8)) : (strs p).length = p.length := by unfold strs; rw [List.length_map]
theorem strs_snoc (p : List (List UInt8)) (x : List UInt8) : strs p ++ [.string (str x)] = strs (p ++ [x]) := by unfold strs; rw [List.map_append]; rfl

/-- Texts in new memory. -/
def GivesStrs (p : List (List UInt8)) (w : World) (en : Ending) (w' : World) : Prop :=
  ∃ a c, en = .returned (.slice a p.length c) ∧ Owned w.heap.size 9 a p.length c (strs p) w' ∧ Below w.heap.size w w'

set_option maxRecDepth 100000 in
theorem splitC (l : List UInt8) (c : UInt8) (n : Nat) (w : World) (hl : l.length = n) (hm : n ≤ 1000000000000) :
    Calls Tryz.prog 226 #[.string (str l), .int .u8 (c.toNat : Int)] w (GivesStrs (splitL l c) w) := by
  have hsz : (str l).size = n := by rw [str_size, hl]
  have hx := str_extract l
  obtain ⟨i0, hi, hz0, hz1, hz2⟩ := info_parts infoStr
  have ht : (List.drop (splitK l c n).2 l).take (n - (splitK l c n).2) = l.drop (splitK l c n).2 := by rw [← hl, List.take_of_length_le (by simp)]
  have HT := Lib.hid ht
  have HS : Hid (splitL l c = (splitK l c n).1 ++ [l.drop (splitK l c n).2]) := by unfold splitL; rw [hl]; rfl
  have hown0 : Owned w.heap.size 9 none 0 0 [] w := ⟨World.ownsRow_nil w _ _ _, Reads.nil _ _, fun _ => rfl, Nat.le_refl _, Nat.zero_le _, rfl⟩
  have hbel0 := Below.refl w.heap.size w
  have HL := Lib.hid hl
  clear hl ht
  go_enter Tryz.func226, Tryz.ntmps226
  go_wp2
  go_loopw [5, 6, 10] (fun v s i wr => ∃ (k N : Nat) (a : Option Addr) (C : Nat), k ≤ n ∧ N ≤ k ∧ v = .slice a N C ∧ s = .int .i64 ((splitK l c k).2 : Int) ∧ i = .int .i64 (k : Int) ∧ Owned w.heap.size 9 a N C (strs (splitK l c k).1) wr ∧ Below w.heap.size w wr) (fun _ _ i _ => n - (intOf i).toNat)
  case atStart => exact ⟨0, 0, _, _, Nat.zero_le _, Nat.le_refl _, rfl, rfl, rfl, hown0, hbel0⟩
  case round =>
    clear hown0 hbel0
    obtain ⟨k, N, a, C, hk, hN, rfl, rfl, rfl, ho, hb⟩ := hrel
    have hle := (splitK_le l c k).2
    by_cases hlt : k < n
    · have hlt' : (k : Int) < (n : Int) := by omega
      have hix := run_index_str (P := Tryz.prog) wr 9 l .i64 k Tryz.underlying9 (by rw [HL.out]; exact hlt)
      have HK : Hid (splitK l c (k + 1) = if (l.getD k 0 == c) = true then ((splitK l c k).1 ++ [(l.drop (splitK l c k).2).take (k - (splitK l c k).2)], k + 1) else splitK l c k) := rfl
      have hcmp : (l.getD k 0 == c) = decide ((l.getD k 0).toNat = c.toNat) := by
        rw [Bool.eq_iff_iff, decide_eq_true_iff]
        simp only [beq_iff_eq]
        exact ⟨fun h => by rw [h], fun h => UInt8.toNat_inj.1 h⟩
      rw [hcmp] at HK
      clear hcmp
      have hcl := u8_lt c
      have hxl := u8_lt (l.getD k 0)
      generalize (l.getD k 0).toNat = x at *
      generalize splitK l c k = q at HK ho hle
      obtain ⟨p, s⟩ := q
      simp only [] at ho hle
      have HO := Lib.hid ho
      have hbs := hb.size
      have HB := Lib.hid hb
      clear ho hb
      by_cases hxc : x = c.toNat
      · have HK2 : Hid (splitK l c (k + 1) = (p ++ [(l.drop s).take (k - s)], k + 1)) := by have := HK.out; rw [if_pos (by simpa using hxc)] at this; exact this
        have hxc' : (x : Int) = (c.toNat : Int) := by omega
        have hxs := hx s k
        have hs' : (s : Int) ≤ (k : Int) := by omega
        have hkn : (k : Int) ≤ (n : Int) := by omega
        clear hx HK
        generalize (l.drop s).take (k - s) = y at HK2 hxs
        generalize c.toNat = cc at *
        subst hxc
        have hO := HO.out
        go_wp2_with (at_builtin; refine wpList_append_one rfl (.tmp 18) (.tmp 23) 215 rfl 9 i0 (.string ⟨#[]⟩) 16 Tryz.underlying215 hi hz0 hz1 hz2 rfl hO.1 rfl rfl rfl (by unfold maxLen; omega) (by omega) hbs ?_; intro v2 w2 ho2 hb2; obtain ⟨a2, c2, rfl, ho3⟩ := Owned.of ho2)
        rw [strs_snoc] at ho3
        go_roundw
        case rel => exact ⟨k + 1, N + 1, a2, c2, by omega, by omega, rfl, by rw [HK2.out]; go_num, by go_num, by rw [HK2.out]; exact ho3, HB.out.trans hb2⟩
        case measure => simp [intOf]; omega
      · have HK2 : Hid (splitK l c (k + 1) = (p, s)) := by have := HK.out; rw [if_neg (by simpa using hxc)] at this; exact this
        have hxc' : ¬ (x : Int) = (c.toNat : Int) := by omega
        clear HK
        generalize c.toNat = cc at *
        go_wp2
        go_roundw
        case rel => exact ⟨k + 1, N, a, C, by omega, by omega, rfl, by rw [HK2.out], by go_num, by rw [HK2.out]; exact HO.out, HB.out⟩
        case measure => simp [intOf]; omega
    · obtain rfl : k = n := by omega
      have HO := Lib.hid ho
      have hbs := hb.size
      have HB := Lib.hid hb
      have hT := HT.out
      clear ho hb HT
      generalize splitK l c k = q at *
      obtain ⟨p, s⟩ := q
      simp only [] at *
      have hxs := hx s k
      rw [hT] at hxs
      have hs' : (s : Int) ≤ (k : Int) := by omega
      have hO := HO.out
      clear hx hT
      generalize l.drop s = y at *
      go_wp2_with (at_builtin; refine wpList_append_one rfl (.tmp 28) (.tmp 32) 215 rfl 9 i0 (.string ⟨#[]⟩) 16 Tryz.underlying215 hi hz0 hz1 hz2 rfl hO.1 rfl rfl rfl (by unfold maxLen; omega) (by omega) hbs ?_; intro v2 w2 ho2 hb2; obtain ⟨a2, c2, rfl, ho3⟩ := Owned.of ho2)
      rw [strs_snoc] at ho3
      go_ret
      have hN : N + 1 = (splitL l c).length := by rw [HS.out, ← strs_length, ← ho3.len]
      rw [← HS.out] at ho3
      refine ⟨a2, c2, ?_, ?_, HB.out.trans hb2⟩
      · rw [← hN]; rfl
      · rw [← hN]; exact ho3

end Go.Proofs.YtelgaglnmcggkaaGreatDoor

/- Contracts of the reference of layer 6. -/
namespace Go.Proofs.YtelgaglnmcggkaaGreatDoor
open Go.RowKit
set_option linter.unusedVariables false

end Go.Proofs.YtelgaglnmcggkaaGreatDoor

/- Contracts of the reference of layer 6: places, digits, controls, numbers. -/
namespace Go.Proofs.YtelgaglnmcggkaaGreatDoor
open Go.RowKit
set_option linter.unusedVariables false

end Go.Proofs.YtelgaglnmcggkaaGreatDoor

/- The reference's numbers. -/
namespace Go.Proofs.YtelgaglnmcggkaaGreatDoor
open Go.RowKit
set_option linter.unusedVariables false

end Go.Proofs.YtelgaglnmcggkaaGreatDoor
