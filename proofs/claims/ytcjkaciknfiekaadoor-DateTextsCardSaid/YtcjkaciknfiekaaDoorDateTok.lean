/- A cookie's date in plain words: tokens, what each tells, what all tell. No program in it. -/
import Derived.Test.YtcjkaciknfiekaaDoorDatePlain
namespace Go.Proofs.YtcjkaciknfiekaaDoor
open Go.RowKit
set_option linter.unusedVariables false

def delim (x : UInt8) : Bool := decide (x.toNat = 9) || (decide (32 ≤ x.toNat) && decide (x.toNat ≤ 47)) || (decide (59 ≤ x.toNat) && decide (x.toNat ≤ 64)) || (decide (91 ≤ x.toNat) && decide (x.toNat ≤ 96)) || (decide (123 ≤ x.toNat) && decide (x.toNat ≤ 126))

/-- The tokens of t, in which there is no delimiter, and what comes behind it. -/
def tok : List UInt8 → List UInt8 → List (List UInt8)
  | t, [] => if t.isEmpty then [] else [t]
  | t, x :: r => if delim x then (if t.isEmpty then tok [] r else t :: tok [] r) else tok (t ++ [x]) r

def skipD (l : List UInt8) : List UInt8 := l.drop (l.findIdx fun x => !delim x)
def wordD (l : List UInt8) : List UInt8 := (skipD l).take ((skipD l).findIdx delim)
def restD (l : List UInt8) : List UInt8 := (skipD l).drop ((skipD l).findIdx delim)

theorem tok_run : ∀ (r t : List UInt8), t ≠ [] → tok t r = (t ++ r.take (r.findIdx delim)) :: tok [] (r.drop (r.findIdx delim)) := by
  intro r
  induction r with
  | nil => intro t ht; simp [tok, ht]
  | cons x r ih =>
    intro t ht
    by_cases c : delim x = true
    · simp [tok, c, ht, List.findIdx_cons]
    · have c' : delim x = false := by simpa using c
      rw [tok, if_neg c, ih _ (by simp)]
      simp [List.findIdx_cons, c']

theorem tok_next (l : List UInt8) : tok [] l = if wordD l = [] then [] else wordD l :: tok [] (restD l) := by
  induction l with
  | nil => simp [tok, wordD, skipD]
  | cons x r ih =>
    by_cases c : delim x = true
    · have e : skipD (x :: r) = skipD r := by simp [skipD, List.findIdx_cons, c]
      have e1 : tok [] (x :: r) = tok [] r := by simp [tok, c]
      rw [e1, ih]
      unfold wordD restD
      rw [e]
    · have c' : delim x = false := by simpa using c
      have e : skipD (x :: r) = x :: r := by simp [skipD, List.findIdx_cons, c']
      have e1 : tok [] (x :: r) = tok [x] r := by simp [tok, c']
      rw [e1, tok_run r [x] (by simp)]
      unfold wordD restD
      rw [e]
      simp [List.findIdx_cons, c']

theorem word_rest (l : List UInt8) : (wordD l).length + (restD l).length ≤ l.length := by
  unfold wordD restD
  simp only [List.length_take, List.length_drop]
  have : (skipD l).length ≤ l.length := by unfold skipD; simp
  omega

/-- A text begins with at least a and at most b digits. -/
def dig (a b : Nat) (l : List UInt8) : Bool := decide (a ≤ lead l) && decide (lead l ≤ b)
/-- The number of the digits that a text begins with. -/
def valL (l : List UInt8) : Nat := numV (l.take (lead l))
/-- What is behind the colon that a text begins with. -/
def colon (l : List UInt8) : List UInt8 := if Lib.hasPrefix l [58] then Lib.trimPrefix l [58] else []
def timeB (l : List UInt8) : List UInt8 := colon (l.drop (lead l))
def isTimeB (l : List UInt8) : Bool := dig 1 2 l && (dig 1 2 (timeB l) && dig 1 2 (timeB (timeB l)))
def monTab : List (List UInt8) := [[106, 97, 110], [102, 101, 98], [109, 97, 114], [97, 112, 114], [109, 97, 121], [106, 117, 110], [106, 117, 108], [97, 117, 103], [115, 101, 112], [111, 99, 116], [110, 111, 118], [100, 101, 99]]
def monTop : List (List UInt8) := [[74, 97, 110], [70, 101, 98], [77, 97, 114], [65, 112, 114], [77, 97, 121], [74, 117, 110], [74, 117, 108], [65, 117, 103], [83, 101, 112], [79, 99, 116], [78, 111, 118], [68, 101, 99]]
def wdTop : List (List UInt8) := [[83, 117, 110], [77, 111, 110], [84, 117, 101], [87, 101, 100], [84, 104, 117], [70, 114, 105], [83, 97, 116]]
def monK (l : List UInt8) : Nat := monTab.findIdx (· == (l.take 3).map low)
/-- A month's number; 0: it is none. -/
def monL (l : List UInt8) : Nat := if l.length < 3 then 0 else if monK l < 12 then monK l + 1 else 0

structure St where
  time : Option (Nat × Nat × Nat)
  day : Option Nat
  month : Option Nat
  year : Option Nat

def St.none : St := ⟨Option.none, Option.none, Option.none, Option.none⟩

def stepD (s : St) (t : List UInt8) : St :=
  if s.time.isNone && isTimeB t then { s with time := some (valL t, valL (timeB t), valL (timeB (timeB t))) }
  else if s.day.isNone && dig 1 2 t then { s with day := some (valL t) }
  else if s.month.isNone && decide (0 < monL t) then { s with month := some (monL t) }
  else if s.year.isNone && dig 2 4 t then { s with year := some (valL t) }
  else s

def yearUp (y : Nat) : Nat := if y < 70 then y + 2000 else if y < 100 then y + 1900 else y

def tells (h mi se d m y : Nat) : Int × Bool :=
  if h ≤ 23 ∧ mi ≤ 59 ∧ se ≤ 59 ∧ 1601 ≤ yearUp y ∧ yearUp y ≤ 9999 ∧ 1 ≤ d ∧ (d : Int) ≤ longI (yearUp y) (m - 1)
  then (daysI (yearUp y) (m - 1) d * 86400 + (h : Int) * 3600 + (mi : Int) * 60 + (se : Int), true) else (0, false)

def St.tells (s : St) : Int × Bool :=
  match s.time, s.day, s.month, s.year with
  | some (h, mi, se), some d, some m, some y => Go.Proofs.YtcjkaciknfiekaaDoor.tells h mi se d m y
  | _, _, _, _ => (0, false)

def parseL (l : List UInt8) : Int × Bool := ((tok [] l).foldl stepD St.none).tells

/-- The numbers of a state are none that a machine could not hold. -/
structure St.Ok (s : St) : Prop where
  t : ∀ h mi se, s.time = some (h, mi, se) → h ≤ 1099511627776 ∧ mi ≤ 1099511627776 ∧ se ≤ 1099511627776
  d : ∀ d, s.day = some d → d ≤ 1099511627776
  m : ∀ m, s.month = some m → 1 ≤ m ∧ m ≤ 12
  y : ∀ y, s.year = some y → y ≤ 1099511627776

theorem monL_le (l : List UInt8) : monL l ≤ 12 := by
  unfold monL
  split
  · omega
  · split <;> omega
theorem valL_le (l : List UInt8) : valL l ≤ 1099511627776 := numV_le _
theorem St.none_ok : St.none.Ok := ⟨(fun _ _ _ h => by cases h), (fun _ h => by cases h), (fun _ h => by cases h), (fun _ h => by cases h)⟩
theorem stepD_ok (s : St) (t : List UInt8) (h : s.Ok) : (stepD s t).Ok := by
  obtain ⟨h1, h2, h3, h4⟩ := h
  unfold stepD
  split
  · refine ⟨?_, h2, h3, h4⟩
    intro a b c e
    cases e
    exact ⟨valL_le _, valL_le _, valL_le _⟩
  · split
    · refine ⟨h1, ?_, h3, h4⟩
      intro a e
      cases e
      exact valL_le _
    · split
      · rename_i c
        refine ⟨h1, h2, ?_, h4⟩
        intro a e
        cases e
        simp only [Bool.and_eq_true, decide_eq_true_iff] at c
        exact ⟨c.2, monL_le _⟩
      · split
        · refine ⟨h1, h2, h3, ?_⟩
          intro a e
          cases e
          exact valL_le _
        · exact ⟨h1, h2, h3, h4⟩
theorem foldD_ok (L : List (List UInt8)) : ∀ s : St, s.Ok → (L.foldl stepD s).Ok := by
  induction L with
  | nil => intro s h; exact h
  | cons t L ih => intro s h; exact ih _ (stepD_ok s t h)

theorem colon_le (l : List UInt8) : (colon l).length ≤ l.length := by
  unfold colon Lib.trimPrefix
  split
  · simp
  · simp
theorem timeB_le (l : List UInt8) : (timeB l).length ≤ l.length := by
  unfold timeB
  have := colon_le (l.drop (lead l))
  simp only [List.length_drop] at this
  omega
theorem dig_nil (a b : Nat) (h : 1 ≤ a) : dig a b [] = false := by
  have : lead [] = 0 := rfl
  simp [dig, this]
  omega
/-- The digits that a text begins with are a number. -/
theorem num_lead (l : List UInt8) (h : 1 ≤ lead l) : numL (l.take (lead l)) = ((valL l : Int), true) := by
  have hle := lead_le l
  have hlen : (l.take (lead l)).length = lead l := by simp; omega
  have hg : ∀ k, k < lead l → (l.take (lead l)).getD k 0 = l.getD k 0 := fun k hk => by simp [List.getD, hk]
  have hall : ∀ k, k < lead l → 48 ≤ ((l.take (lead l)).getD k 0).toNat ∧ ((l.take (lead l)).getD k 0).toNat ≤ 57 := fun k hk => by
    rw [hg k hk]; exact lead_lt hk
  have hs : signed (l.take (lead l)) = false := by
    cases c : signed (l.take (lead l)) with
    | false => rfl
    | true =>
      have := (signed_yes c).2.1
      have := hall 0 (by omega)
      omega
  have hb := (signed_no hs).2
  have hl : lead (l.take (lead l)) = lead l := by
    have := findIdx_end (l := l.take (lead l)) (p := fun x => !digit x) (fun j hj => by
      rw [hlen] at hj
      have := hall j hj
      unfold digit
      rw [decide_eq_true this.1, decide_eq_true this.2]
      rfl)
    unfold lead at this ⊢
    rw [this]
    exact hlen
  unfold numL
  rw [hb, hlen, hl, hs, if_neg (by omega)]
  rfl
/-- A time's further part is there if a colon is behind the digits. -/
theorem timeB_yes (l : List UInt8) (h : lead l < l.length) (hc : (l.getD (lead l) 0).toNat = 58) : timeB l = l.drop (lead l + 1) := by
  have e : l.drop (lead l) = 58 :: l.drop (lead l + 1) := by
    rw [List.drop_eq_getElem_cons h]
    congr 1
    have e1 : l.getD (lead l) 0 = l[lead l] := by simp [List.getD, h]
    rw [e1] at hc
    exact UInt8.toNat_inj.1 hc
  unfold timeB colon
  rw [e]
  simp [Lib.hasPrefix, Lib.trimPrefix, List.isPrefixOf]
theorem timeB_no (l : List UInt8) (h : lead l < l.length → (l.getD (lead l) 0).toNat ≠ 58) : timeB l = [] := by
  unfold timeB colon
  have hle := lead_le l
  rcases Nat.lt_or_ge (lead l) l.length with c | c
  · have e : l.drop (lead l) = l.getD (lead l) 0 :: l.drop (lead l + 1) := by
      rw [List.drop_eq_getElem_cons c]
      simp [List.getD, c]
    have hx := h c
    rw [e]
    have : (58 == l.getD (lead l) 0) = false := by
      rw [beq_eq_false_iff_ne]
      intro hh
      rw [← hh] at hx
      exact hx rfl
    generalize l.getD (lead l) 0 = z at *
    simp [Lib.hasPrefix, List.isPrefixOf, this]
  · rw [List.drop_eq_nil_of_le (by omega)]
    simp [Lib.hasPrefix, List.isPrefixOf]
end Go.Proofs.YtcjkaciknfiekaaDoor
