/- Contracts and plain words that the laws' proofs stand on, put together. -/
import Derived.Test.YthefieemngmnjaaGreatDoorLibAB
import Derived.Test.YthefieemngmnjaaGreatDoorLibAC
import Derived.Test.YthefieemngmnjaaGreatDoorLibAA
/- The calendar in plain words: leap years, a day's number, the day of a number. No program in it. -/
namespace Go.Proofs.YthefieemngmnjaaGreatDoor
open Go.RowKit
set_option linter.unusedVariables false

def leapB (y : Int) : Bool := (y.tmod 4 == 0 && !(y.tmod 100 == 0)) || y.tmod 400 == 0

def mlen : List Int := [31, 28, 31, 30, 31, 30, 31, 31, 30, 31, 30, 31]

/-- How many days month M + 1 has. -/
def longI (y : Int) (M : Nat) : Int := if M = 1 ∧ leapB y = true then 29 else mlen.getD M 0

/-- How many days the first M months have. -/
def mdays (y : Int) : Nat → Int
  | 0 => 0
  | M + 1 => mdays y M + longI y M

/-- How many days the years from 1 on ahead of y have. -/
def aheadI (y : Int) : Int := (y - 1) * 365 + (y - 1) / 4 - (y - 1) / 100 + (y - 1) / 400

def startI (y : Int) : Int := aheadI y - 719162

def daysI (y : Int) (M : Nat) (d : Int) : Int := startI y + mdays y M + d - 1

theorem leap_iff (y : Int) (h : 0 ≤ y) : leapB y = decide ((y % 4 = 0 ∧ y % 100 ≠ 0) ∨ y % 400 = 0) := by
  unfold leapB
  rw [Int.tmod_eq_emod_of_nonneg h, Int.tmod_eq_emod_of_nonneg h, Int.tmod_eq_emod_of_nonneg h]
  rw [Bool.eq_iff_iff]
  simp

theorem longI_le (y : Int) (M : Nat) (h : M < 12) : 28 ≤ longI y M ∧ longI y M ≤ 31 := by
  unfold longI
  by_cases c : M = 1 ∧ leapB y = true
  · rw [if_pos c]; omega
  · rw [if_neg c]
    have : ∀ M, M < 12 → 28 ≤ mlen.getD M 0 ∧ mlen.getD M 0 ≤ 31 := by decide
    exact this M h

theorem mdays_le (y : Int) (k : Nat) : ∀ j, j ≤ 12 → k < j → mdays y k + longI y k ≤ mdays y j := by
  intro j
  induction j with
  | zero => intro _ h; omega
  | succ j ih =>
    intro h1 h2
    show _ ≤ mdays y j + longI y j
    have := (longI_le y j (by omega)).1
    by_cases c : k = j
    · subst c; omega
    · have := ih (by omega) (by omega); omega

theorem mdays_pos (y : Int) (M : Nat) (h : M ≤ 12) : 28 * (M : Int) ≤ mdays y M ∧ mdays y M ≤ 31 * (M : Int) := by
  induction M with
  | zero => simp [mdays]
  | succ k ih =>
    have h1 := ih (by omega)
    have h2 := longI_le y k (by omega)
    show _ ≤ mdays y k + longI y k ∧ mdays y k + longI y k ≤ _
    push_cast
    omega

theorem mdays12 (y : Int) : mdays y 12 = if leapB y = true then 366 else 365 := by
  simp only [mdays, longI]
  cases leapB y <;> decide

theorem start_succ (y : Int) (h : 1 ≤ y) : startI (y + 1) = startI y + mdays y 12 := by
  rw [mdays12, leap_iff y (by omega)]
  unfold startI aheadI
  by_cases c : (y % 4 = 0 ∧ y % 100 ≠ 0) ∨ y % 400 = 0
  · simp only [c, decide_true, if_true]
    omega
  · simp only [c, decide_false]
    simp
    omega

theorem start_le (y : Int) (k : Nat) (h : 1 ≤ y) : startI y + 365 * k ≤ startI (y + k) ∧ startI (y + k) ≤ startI y + 366 * k := by
  induction k with
  | zero => simp
  | succ k ih =>
    have e : y + ((k + 1 : Nat) : Int) = (y + (k : Int)) + 1 := by push_cast; omega
    rw [e, start_succ _ (by omega), mdays12]
    push_cast
    split <;> omega

theorem start_lt (y z : Int) (h : 1 ≤ y) (hz : y < z) : startI y + mdays y 12 ≤ startI z := by
  obtain ⟨k, rfl⟩ : ∃ k : Nat, z = (y + 1) + (k : Int) := ⟨(z - y - 1).toNat, by omega⟩
  have h1 := (start_le (y + 1) k (by omega)).1
  rw [start_succ y h] at h1
  omega

/-- There is such a day. -/
structure RightI (y : Int) (M : Nat) (d : Int) : Prop where
  y0 : 1601 ≤ y
  y1 : y ≤ 9999
  m : M < 12
  d0 : 1 ≤ d
  d1 : d ≤ longI y M

theorem start1601 : startI 1601 = -134774 := by decide
theorem start10000 : startI 10000 = 2932897 := by decide

theorem days_in {y : Int} {M : Nat} {d : Int} (h : RightI y M d) : startI y ≤ daysI y M d ∧ daysI y M d < startI (y + 1) ∧ -134774 ≤ daysI y M d ∧ daysI y M d < 2932897 := by
  obtain ⟨h1, h2, h3, h4, h5⟩ := h
  have a := mdays_le y M 12 (by omega) h3
  have b := (mdays_pos y M (by omega)).1
  have c := start_succ y (by omega)
  have lo : startI 1601 ≤ startI y := by
    rcases Int.lt_or_eq_of_le h1 with h | h
    · have := start_lt 1601 y (by omega) h
      have := (mdays_pos 1601 12 (by omega)).1
      omega
    · rw [h]; omega
  have hi : startI (y + 1) ≤ startI 10000 := by
    rcases Int.lt_or_eq_of_le (show y + 1 ≤ 10000 by omega) with h | h
    · have := start_lt (y + 1) 10000 (by omega) h
      have := (mdays_pos (y + 1) 12 (by omega)).1
      omega
    · rw [h]; omega
  rw [start1601] at lo
  rw [start10000] at hi
  unfold daysI
  omega

end Go.Proofs.YthefieemngmnjaaGreatDoor

/- A cookie's date in plain words: tokens, what each tells, what all tell. No program in it. -/
namespace Go.Proofs.YthefieemngmnjaaGreatDoor
open Go.RowKit
set_option linter.unusedVariables false

def delim (x : UInt8) : Bool := decide (x.toNat = 9) || (decide (32 ≤ x.toNat) && decide (x.toNat ≤ 47)) || (decide (59 ≤ x.toNat) && decide (x.toNat ≤ 64)) || (decide (91 ≤ x.toNat) && decide (x.toNat ≤ 96)) || (decide (123 ≤ x.toNat) && decide (x.toNat ≤ 126))

/-- The tokens of t, in which there is no delimiter, and what comes behind it. -/
def tok : List UInt8 → List UInt8 → List (List UInt8)
  | t, [] => if t.isEmpty then [] else [t]
  | t, x :: r => if delim x then (if t.isEmpty then tok [] r else t :: tok [] r) else tok (t ++ [x]) r

def skipD (l : List UInt8) : List UInt8 := l.drop (l.findIdx fun x => !delim x)
def wordD (l : List UInt8) : List UInt8 := (skipD l).take ((skipD l).findIdx delim)
def restD (l : List UInt8) : List UInt8 := (skipD l).drop ((skipD l).findIdx delim)

theorem tok_run : ∀ (r t : List UInt8), t ≠ [] → tok t r = (t ++ r.take (r.findIdx delim)) :: tok [] (r.drop (r.findIdx delim)) := by
  intro r
  induction r with
  | nil => intro t ht; simp [tok, ht]
  | cons x r ih =>
    intro t ht
    by_cases c : delim x = true
    · simp [tok, c, ht, List.findIdx_cons]
    · have c' : delim x = false := by simpa using c
      rw [tok, if_neg c, ih _ (by simp)]
      simp [List.findIdx_cons, c']

theorem tok_next (l : List UInt8) : tok [] l = if wordD l = [] then [] else wordD l :: tok [] (restD l) := by
  induction l with
  | nil => simp [tok, wordD, skipD]
  | cons x r ih =>
    by_cases c : delim x = true
    · have e : skipD (x :: r) = skipD r := by simp [skipD, List.findIdx_cons, c]
      have e1 : tok [] (x :: r) = tok [] r := by simp [tok, c]
      rw [e1, ih]
      unfold wordD restD
      rw [e]
    · have c' : delim x = false := by simpa using c
      have e : skipD (x :: r) = x :: r := by simp [skipD, List.findIdx_cons, c']
      have e1 : tok [] (x :: r) = tok [x] r := by simp [tok, c']
      rw [e1, tok_run r [x] (by simp)]
      unfold wordD restD
      rw [e]
      simp [List.findIdx_cons, c']

theorem word_rest (l : List UInt8) : (wordD l).length + (restD l).length ≤ l.length := by
  unfold wordD restD
  simp only [List.length_take, List.length_drop]
  have : (skipD l).length ≤ l.length := by unfold skipD; simp
  omega

/-- A text begins with at least a and at most b digits. -/
def dig (a b : Nat) (l : List UInt8) : Bool := decide (a ≤ lead l) && decide (lead l ≤ b)
/-- The number of the digits that a text begins with. -/
def valL (l : List UInt8) : Nat := numV (l.take (lead l))
/-- What is behind the colon that a text begins with. -/
def colon (l : List UInt8) : List UInt8 := if Lib.hasPrefix l [58] then Lib.trimPrefix l [58] else []
def timeB (l : List UInt8) : List UInt8 := colon (l.drop (lead l))
def isTimeB (l : List UInt8) : Bool := dig 1 2 l && (dig 1 2 (timeB l) && dig 1 2 (timeB (timeB l)))
def monTab : List (List UInt8) := [[106, 97, 110], [102, 101, 98], [109, 97, 114], [97, 112, 114], [109, 97, 121], [106, 117, 110], [106, 117, 108], [97, 117, 103], [115, 101, 112], [111, 99, 116], [110, 111, 118], [100, 101, 99]]
def monTop : List (List UInt8) := [[74, 97, 110], [70, 101, 98], [77, 97, 114], [65, 112, 114], [77, 97, 121], [74, 117, 110], [74, 117, 108], [65, 117, 103], [83, 101, 112], [79, 99, 116], [78, 111, 118], [68, 101, 99]]
def wdTop : List (List UInt8) := [[83, 117, 110], [77, 111, 110], [84, 117, 101], [87, 101, 100], [84, 104, 117], [70, 114, 105], [83, 97, 116]]
def monK (l : List UInt8) : Nat := monTab.findIdx (· == (l.take 3).map low)
/-- A month's number; 0: it is none. -/
def monL (l : List UInt8) : Nat := if l.length < 3 then 0 else if monK l < 12 then monK l + 1 else 0

structure St where
  time : Option (Nat × Nat × Nat)
  day : Option Nat
  month : Option Nat
  year : Option Nat

def St.none : St := ⟨Option.none, Option.none, Option.none, Option.none⟩

def stepD (s : St) (t : List UInt8) : St :=
  if s.time.isNone && isTimeB t then { s with time := some (valL t, valL (timeB t), valL (timeB (timeB t))) }
  else if s.day.isNone && dig 1 2 t then { s with day := some (valL t) }
  else if s.month.isNone && decide (0 < monL t) then { s with month := some (monL t) }
  else if s.year.isNone && dig 2 4 t then { s with year := some (valL t) }
  else s

def yearUp (y : Nat) : Nat := if y < 70 then y + 2000 else if y < 100 then y + 1900 else y

def tells (h mi se d m y : Nat) : Int × Bool :=
  if h ≤ 23 ∧ mi ≤ 59 ∧ se ≤ 59 ∧ 1601 ≤ yearUp y ∧ yearUp y ≤ 9999 ∧ 1 ≤ d ∧ (d : Int) ≤ longI (yearUp y) (m - 1)
  then (daysI (yearUp y) (m - 1) d * 86400 + (h : Int) * 3600 + (mi : Int) * 60 + (se : Int), true) else (0, false)

def St.tells (s : St) : Int × Bool :=
  match s.time, s.day, s.month, s.year with
  | some (h, mi, se), some d, some m, some y => Go.Proofs.YthefieemngmnjaaGreatDoor.tells h mi se d m y
  | _, _, _, _ => (0, false)

def parseL (l : List UInt8) : Int × Bool := ((tok [] l).foldl stepD St.none).tells

/-- The numbers of a state are none that a machine could not hold. -/
structure St.Ok (s : St) : Prop where
  t : ∀ h mi se, s.time = some (h, mi, se) → h ≤ 1099511627776 ∧ mi ≤ 1099511627776 ∧ se ≤ 1099511627776
  d : ∀ d, s.day = some d → d ≤ 1099511627776
  m : ∀ m, s.month = some m → 1 ≤ m ∧ m ≤ 12
  y : ∀ y, s.year = some y → y ≤ 1099511627776

theorem monL_le (l : List UInt8) : monL l ≤ 12 := by
  unfold monL
  split
  · omega
  · split <;> omega
theorem valL_le (l : List UInt8) : valL l ≤ 1099511627776 := numV_le _
theorem St.none_ok : St.none.Ok := ⟨(fun _ _ _ h => by cases h), (fun _ h => by cases h), (fun _ h => by cases h), (fun _ h => by cases h)⟩
theorem stepD_ok (s : St) (t : List UInt8) (h : s.Ok) : (stepD s t).Ok := by
  obtain ⟨h1, h2, h3, h4⟩ := h
  unfold stepD
  split
  · refine ⟨?_, h2, h3, h4⟩
    intro a b c e
    cases e
    exact ⟨valL_le _, valL_le _, valL_le _⟩
  · split
    · refine ⟨h1, ?_, h3, h4⟩
      intro a e
      cases e
      exact valL_le _
    · split
      · rename_i c
        refine ⟨h1, h2, ?_, h4⟩
        intro a e
        cases e
        simp only [Bool.and_eq_true, decide_eq_true_iff] at c
        exact ⟨c.2, monL_le _⟩
      · split
        · refine ⟨h1, h2, h3, ?_⟩
          intro a e
          cases e
          exact valL_le _
        · exact ⟨h1, h2, h3, h4⟩
theorem foldD_ok (L : List (List UInt8)) : ∀ s : St, s.Ok → (L.foldl stepD s).Ok := by
  induction L with
  | nil => intro s h; exact h
  | cons t L ih => intro s h; exact ih _ (stepD_ok s t h)

theorem colon_le (l : List UInt8) : (colon l).length ≤ l.length := by
  unfold colon Lib.trimPrefix
  split
  · simp
  · simp
theorem timeB_le (l : List UInt8) : (timeB l).length ≤ l.length := by
  unfold timeB
  have := colon_le (l.drop (lead l))
  simp only [List.length_drop] at this
  omega
theorem dig_nil (a b : Nat) (h : 1 ≤ a) : dig a b [] = false := by
  have : lead [] = 0 := rfl
  simp [dig, this]
  omega
/-- The digits that a text begins with are a number. -/
theorem num_lead (l : List UInt8) (h : 1 ≤ lead l) : numL (l.take (lead l)) = ((valL l : Int), true) := by
  have hle := lead_le l
  have hlen : (l.take (lead l)).length = lead l := by simp; omega
  have hg : ∀ k, k < lead l → (l.take (lead l)).getD k 0 = l.getD k 0 := fun k hk => by simp [List.getD, hk]
  have hall : ∀ k, k < lead l → 48 ≤ ((l.take (lead l)).getD k 0).toNat ∧ ((l.take (lead l)).getD k 0).toNat ≤ 57 := fun k hk => by
    rw [hg k hk]; exact lead_lt hk
  have hs : signed (l.take (lead l)) = false := by
    cases c : signed (l.take (lead l)) with
    | false => rfl
    | true =>
      have := (signed_yes c).2.1
      have := hall 0 (by omega)
      omega
  have hb := (signed_no hs).2
  have hl : lead (l.take (lead l)) = lead l := by
    have := findIdx_end (l := l.take (lead l)) (p := fun x => !digit x) (fun j hj => by
      rw [hlen] at hj
      have := hall j hj
      unfold digit
      rw [decide_eq_true this.1, decide_eq_true this.2]
      rfl)
    unfold lead at this ⊢
    rw [this]
    exact hlen
  unfold numL
  rw [hb, hlen, hl, hs, if_neg (by omega)]
  rfl
/-- A time's further part is there if a colon is behind the digits. -/
theorem timeB_yes (l : List UInt8) (h : lead l < l.length) (hc : (l.getD (lead l) 0).toNat = 58) : timeB l = l.drop (lead l + 1) := by
  have e : l.drop (lead l) = 58 :: l.drop (lead l + 1) := by
    rw [List.drop_eq_getElem_cons h]
    congr 1
    have e1 : l.getD (lead l) 0 = l[lead l] := by simp [List.getD, h]
    rw [e1] at hc
    exact UInt8.toNat_inj.1 hc
  unfold timeB colon
  rw [e]
  simp [Lib.hasPrefix, Lib.trimPrefix, List.isPrefixOf]
theorem timeB_no (l : List UInt8) (h : lead l < l.length → (l.getD (lead l) 0).toNat ≠ 58) : timeB l = [] := by
  unfold timeB colon
  have hle := lead_le l
  rcases Nat.lt_or_ge (lead l) l.length with c | c
  · have e : l.drop (lead l) = l.getD (lead l) 0 :: l.drop (lead l + 1) := by
      rw [List.drop_eq_getElem_cons c]
      simp [List.getD, c]
    have hx := h c
    rw [e]
    have : (58 == l.getD (lead l) 0) = false := by
      rw [beq_eq_false_iff_ne]
      intro hh
      rw [← hh] at hx
      exact hx rfl
    generalize l.getD (lead l) 0 = z at *
    simp [Lib.hasPrefix, List.isPrefixOf, this]
  · rw [List.drop_eq_nil_of_le (by omega)]
    simp [Lib.hasPrefix, List.isPrefixOf]
end Go.Proofs.YthefieemngmnjaaGreatDoor

/- Contracts of layer 7: the calendar. -/
namespace Go.Proofs.YthefieemngmnjaaGreatDoor
open Go.RowKit
set_option linter.unusedVariables false

/-- The tables of package date lie there. -/
structure DTab (w : World) : Prop where
  len : ∀ i, i < 12 → w.cell? ⟨2, i, none⟩ = some (.int .i64 (mlen.getD i 0))
  mon : ∀ i, i < 12 → w.cell? ⟨1, i, none⟩ = some (.string (str (monTop.getD i [])))
  wd : ∀ g, Tryz.prog.globalNamed "biscotti/date.weekdays" = some g → ∀ i, i < 7 → w.cell? ⟨g, i, none⟩ = some (.string (str (wdTop.getD i [])))
theorem DTab.below {w w' : World} (h : DTab w) (hb : Below w.heap.size w w') : DTab w' := by
  refine ⟨fun i hi => ?_, fun i hi => ?_, fun g hg i hi => ?_⟩
  · rw [hb.cell (cell_lt (h.len i hi))]; exact h.len i hi
  · rw [hb.cell (cell_lt (h.mon i hi))]; exact h.mon i hi
  · rw [hb.cell (cell_lt (h.wd g hg i hi))]; exact h.wd g hg i hi

theorem leap_400 (y : Int) (h : (y.tmod 4 == 0) = false) : (y.tmod 400 == 0) = false := by
  simp only [beq_eq_false_iff_ne, ne_eq] at h ⊢
  intro c
  apply h
  exact Int.tmod_eq_zero_of_dvd (Int.dvd_trans (by decide : (4 : Int) ∣ 400) (Int.dvd_of_tmod_eq_zero c))

theorem leapC (y : Int) (w : World) (h0 : -9223372036854775808 ≤ y) (h1 : y ≤ 9223372036854775807) :
    Calls Tryz.prog 157 #[.int .i64 y] w fun e w' => e = .returned (.bool (leapB y)) ∧ w = w' := by
  have HL := Lib.hid (show leapB y = ((y.tmod 4 == 0 && !(y.tmod 100 == 0)) || y.tmod 400 == 0) from rfl)
  obtain ⟨a, ha⟩ : ∃ a, (y.tmod 4 == 0) = a := ⟨_, rfl⟩
  obtain ⟨b, hb⟩ : ∃ b, (y.tmod 100 != 0) = b := ⟨_, rfl⟩
  obtain ⟨c, hc⟩ : ∃ c, (y.tmod 400 == 0) = c := ⟨_, rfl⟩
  have HL2 : Hid (leapB y = ((a && b) || c)) := by unfold Hid; rw [HL.out, ha, ← hb, hc]; rfl
  generalize leapB y = z at *
  clear HL
  cases a <;> cases b <;> cases c
  all_goals
    go_enter Tryz.func157, Tryz.ntmps157
    go_wp2
    go_ret
    exact ⟨by rw [HL2.out]; rfl, rfl⟩

theorem refLeapC (y : Int) (w : World) (h0 : -9223372036854775808 ≤ y) (h1 : y ≤ 9223372036854775807) :
    Calls Tryz.prog 149 #[.int .i64 y] w fun e w' => e = .returned (.bool (leapB y)) ∧ w = w' := by
  have HL := Lib.hid (show leapB y = ((y.tmod 4 == 0 && !(y.tmod 100 == 0)) || y.tmod 400 == 0) from rfl)
  have H4 := leap_400 y
  obtain ⟨a, ha⟩ : ∃ a, (y.tmod 4 == 0) = a := ⟨_, rfl⟩
  obtain ⟨b, hb⟩ : ∃ b, (y.tmod 100 != 0) = b := ⟨_, rfl⟩
  obtain ⟨c, hc⟩ : ∃ c, (y.tmod 400 == 0) = c := ⟨_, rfl⟩
  have HL2 : Hid (leapB y = ((a && b) || c)) := by unfold Hid; rw [HL.out, ha, ← hb, hc]; rfl
  rw [ha, hc] at H4
  generalize leapB y = z at *
  clear HL
  cases a <;> cases b <;> cases c
  all_goals first
    | exact absurd (H4 rfl) (by decide)
    | (clear H4
       go_enter Tryz.func149, Tryz.ntmps149
       go_wp2
       go_ret
       exact ⟨by rw [HL2.out]; rfl, rfl⟩)

theorem longI_29 {y : Int} (h : leapB y = true) : longI y 1 = 29 := by unfold longI; rw [if_pos ⟨rfl, h⟩]
theorem longI_no {y : Int} {M : Nat} (h : M = 1 → leapB y = false) : longI y M = mlen.getD M 0 := by
  unfold longI
  rw [if_neg]
  rintro ⟨rfl, h2⟩
  rw [h rfl] at h2
  cases h2

theorem monthDaysC (y v : Int) (M : Nat) (w : World) (hv : v = (M : Int) + 1) (hM : M < 12) (h0 : -9223372036854775808 ≤ y) (h1 : y ≤ 9223372036854775807) (hT : DTab w) :
    Calls Tryz.prog 140 #[.int .i64 y, .int .i64 v] w fun e w' => e = .returned (.int .i64 (longI y M)) ∧ w = w' := by
  subst hv
  have HL := leapC y w h0 h1
  have hc := hT.len M hM
  by_cases c : M = 1
  · subst c
    cases hl : leapB y with
    | true =>
      rw [hl] at HL
      rw [longI_29 hl]
      clear hl
      go_enter Tryz.func140, Tryz.ntmps140
      go_wp2_with (go_at_call 157; (with_reducible refine HL.mono ?_); rintro e w2 ⟨rfl, rfl⟩)
      go_ret
      exact ⟨rfl, rfl⟩
    | false =>
      rw [hl] at HL
      rw [longI_no (fun _ => hl)]
      have e1 : mlen.getD 1 0 = 28 := rfl
      rw [e1] at hc ⊢
      clear hl
      go_enter Tryz.func140, Tryz.ntmps140
      go_wp2_with (go_at_call 157; (with_reducible refine HL.mono ?_); rintro e w2 ⟨rfl, rfl⟩)
      go_ret
      exact ⟨rfl, rfl⟩
  · rw [longI_no (fun h => absurd h c)]
    generalize mlen.getD M 0 = z at *
    have c' : ((M : Int) + 1 == 2) = false := by simp; omega
    go_enter Tryz.func140, Tryz.ntmps140
    go_wp2
    go_ret
    exact ⟨rfl, rfl⟩

theorem yearStartC (y : Int) (w : World) (h0 : 1 ≤ y) (h1 : y ≤ 10000) :
    Calls Tryz.prog 141 #[.int .i64 y] w fun e w' => e = .returned (.int .i64 (startI y)) ∧ w = w' := by
  obtain ⟨k, rfl⟩ : ∃ k : Nat, y = (k : Int) + 1 := ⟨(y - 1).toNat, by omega⟩
  have e : startI ((k : Int) + 1) = (k : Int) * 365 + (k : Int) / 4 - (k : Int) / 100 + (k : Int) / 400 - 719162 := by
    unfold startI aheadI
    rw [show ((k : Int) + 1 - 1) = (k : Int) by omega]
  rw [e]
  clear e
  go_enter Tryz.func141, Tryz.ntmps141
  go_wp2
  go_ret
  exact ⟨rfl, rfl⟩

theorem aheadC (y : Int) (w : World) (h0 : 1 ≤ y) (h1 : y ≤ 10000) :
    Calls Tryz.prog 129 #[.int .i64 y] w fun e w' => e = .returned (.int .i64 (aheadI y)) ∧ w = w' := by
  obtain ⟨k, rfl⟩ : ∃ k : Nat, y = (k : Int) + 1 := ⟨(y - 1).toNat, by omega⟩
  have e : aheadI ((k : Int) + 1) = (k : Int) * 365 + (k : Int) / 4 - (k : Int) / 100 + (k : Int) / 400 := by
    unfold aheadI
    rw [show ((k : Int) + 1 - 1) = (k : Int) by omega]
  rw [e]
  clear e
  go_enter Tryz.func129, Tryz.ntmps129
  go_wp2
  go_ret
  exact ⟨rfl, rfl⟩

end Go.Proofs.YthefieemngmnjaaGreatDoor

/- Contracts of layer 7: days and their numbers. -/
namespace Go.Proofs.YthefieemngmnjaaGreatDoor
open Go.RowKit
set_option linter.unusedVariables false

/-- There is no such day. -/
def WrongI (y m d : Int) : Prop := y < 1601 ∨ 9999 < y ∨ m < 1 ∨ 12 < m ∨ ∃ M : Nat, M < 12 ∧ m = (M : Int) + 1 ∧ (d < 1 ∨ longI y M < d)
theorem right_or (y m d : Int) : (∃ M : Nat, m = (M : Int) + 1 ∧ RightI y M d) ∨ WrongI y m d := by
  by_cases h1 : y < 1601
  · exact .inr (.inl h1)
  by_cases h2 : 9999 < y
  · exact .inr (.inr (.inl h2))
  by_cases h3 : m < 1
  · exact .inr (.inr (.inr (.inl h3)))
  by_cases h4 : 12 < m
  · exact .inr (.inr (.inr (.inr (.inl h4))))
  obtain ⟨M, hM⟩ : ∃ M : Nat, m = (M : Int) + 1 := ⟨(m - 1).toNat, by omega⟩
  by_cases h5 : d < 1 ∨ longI y M < d
  · exact .inr (.inr (.inr (.inr (.inr ⟨M, by omega, hM, h5⟩))))
  · exact .inl ⟨M, hM, by omega, by omega, by omega, by omega, by omega⟩
theorem not_both {y m d : Int} {M : Nat} (hm : m = (M : Int) + 1) (h : RightI y M d) : ¬ WrongI y m d := by
  obtain ⟨h1, h2, h3, h4, h5⟩ := h
  rintro (h | h | h | h | ⟨M', h6, h7, h8⟩)
  · omega
  · omega
  · omega
  · omega
  · have : M' = M := by omega
    subst this
    omega

theorem start_le' (y : Int) (h0 : 1601 ≤ y) (h1 : y ≤ 10000) : -134774 ≤ startI y ∧ startI y ≤ 2932897 := by
  unfold startI aheadI
  omega

theorem daysYes (y : Int) (M : Nat) (d v : Int) (w : World) (hv : v = (M : Int) + 1) (h : RightI y M d) (hT : DTab w) :
    Calls Tryz.prog 120 #[.int .i64 y, .int .i64 v, .int .i64 d] w fun e w' => e = .returned (.tuple #[.int .i64 (daysI y M d), .int .i64 0]) ∧ w = w' := by
  subst hv
  obtain ⟨h1, h2, h3, h4, h5⟩ := h
  have HM := fun (k : Nat) (hk : k < 12) (v : Int) (hv : v = (k : Int) + 1) => monthDaysC y v k w hv hk (by omega) (by omega) hT
  have HY := yearStartC y w (by omega) (by omega)
  have hs := start_le' y h1 (by omega)
  have hb := (longI_le y M h3).2
  have hd : d ≤ 31 := by omega
  have HD := Lib.hid (show daysI y M d = startI y + mdays y M + d - 1 from rfl)
  have HP := Lib.hid (fun k (hk : k ≤ 12) => mdays_pos y k hk)
  have HS := Lib.hid (fun k => show mdays y (k + 1) = mdays y k + longI y k from rfl)
  have HL := Lib.hid (longI_le y)
  have h0 : Hid (mdays y 0 = 0) := rfl
  generalize daysI y M d = R at *
  generalize startI y = s at *
  generalize mdays y = md at *
  have hv1 : (1 : Int) ≤ (M : Int) + 1 := by omega
  have hv2 : (M : Int) + 1 ≤ 12 := by omega
  have hL := longI_le y M h3
  go_enter Tryz.func120, Tryz.ntmps120
  go_wp2_with (first
    | (go_at_call 140; (with_reducible refine (HM M h3 _ rfl).mono ?_); rintro e w2 ⟨rfl, rfl⟩)
    | (go_at_call 141; (with_reducible refine HY.mono ?_); rintro e w2 ⟨rfl, rfl⟩))
  go_loopw [8, 9] (fun v i wr => ∃ k : Nat, k ≤ M ∧ v = .int .i64 (s + md k) ∧ i = .int .i64 ((k : Int) + 1) ∧ w = wr) (fun _ i _ => M + 1 - (intOf i).toNat)
  case atStart => exact ⟨0, Nat.zero_le _, by rw [h0.out]; simp, rfl, rfl⟩
  case round =>
    obtain ⟨k, hk, rfl, rfl, rfl⟩ := hrel
    have p1 := HP.out k (by omega)
    have p2 := HL.out k (by omega)
    have p3 := Lib.hid (HS.out k)
    by_cases hlt : k < M
    · have hlt' : (k : Int) < (M : Int) := by omega
      have HK := HM k (by omega) _ rfl
      clear HM
      generalize longI y k = L at *
      obtain ⟨z, hz⟩ : ∃ z, md k = z := ⟨_, rfl⟩
      rw [hz] at p1
      rw [hz]
      have p4 := Lib.hid (p3.out.trans (by rw [hz]))
      clear hz p3
      go_wp2_with (go_at_call 140; (with_reducible refine HK.mono ?_); rintro e w2 ⟨rfl, rfl⟩)
      go_roundw
      case rel => exact ⟨k + 1, by omega, by rw [p4.out]; congr 1; omega, by go_num, by first | rfl | trivial⟩
      case measure => simp [intOf]; omega
    · obtain rfl : k = M := by omega
      clear HM p2 p3
      have e : Hid (R = s + md k + d - 1) := HD.out
      generalize md k = z at *
      go_wp2
      go_ret2
      exact ⟨by rw [e.out]; rfl, rfl⟩

theorem daysNo (y m d : Int) (w : World) (h : WrongI y m d) (h0 : -9223372036854775808 ≤ y) (h1 : y ≤ 9223372036854775807) (h2 : -9223372036854775808 ≤ m) (h3 : m ≤ 9223372036854775807) (h4 : -9223372036854775808 ≤ d) (h5 : d ≤ 9223372036854775807) (hT : DTab w) :
    Calls Tryz.prog 120 #[.int .i64 y, .int .i64 m, .int .i64 d] w fun e w' => e = .returned (.tuple #[.int .i64 0, .int .i64 4]) ∧ w = w' := by
  by_cases a1 : y < 1601
  · go_enter Tryz.func120, Tryz.ntmps120
    go_wp2
    go_ret2
    exact ⟨rfl, rfl⟩
  by_cases a2 : 9999 < y
  · go_enter Tryz.func120, Tryz.ntmps120
    go_wp2
    go_ret2
    exact ⟨rfl, rfl⟩
  by_cases a3 : m < 1
  · go_enter Tryz.func120, Tryz.ntmps120
    go_wp2
    go_ret2
    exact ⟨rfl, rfl⟩
  by_cases a4 : 12 < m
  · go_enter Tryz.func120, Tryz.ntmps120
    go_wp2
    go_ret2
    exact ⟨rfl, rfl⟩
  by_cases a5 : d < 1
  · go_enter Tryz.func120, Tryz.ntmps120
    go_wp2
    go_ret2
    exact ⟨rfl, rfl⟩
  obtain ⟨M, hM, hm, h6⟩ : ∃ M : Nat, M < 12 ∧ m = (M : Int) + 1 ∧ longI y M < d := by
    rcases h with h | h | h | h | ⟨M, h6, h7, h8⟩
    · omega
    · omega
    · omega
    · omega
    · exact ⟨M, h6, h7, by omega⟩
  have HM := monthDaysC y m M w hm hM h0 h1 hT
  generalize longI y M = L at *
  clear h hm
  go_enter Tryz.func120, Tryz.ntmps120
  go_wp2_with (go_at_call 140; (with_reducible refine HM.mono ?_); rintro e w2 ⟨rfl, rfl⟩)
  go_ret2
  exact ⟨rfl, rfl⟩

end Go.Proofs.YthefieemngmnjaaGreatDoor

/- Contracts of the reference of layer 7: the calendar. -/
namespace Go.Proofs.YthefieemngmnjaaGreatDoor
open Go.RowKit
set_option linter.unusedVariables false

theorem refLongC (y v : Int) (M : Nat) (w : World) (hv : v = (M : Int) + 1) (hM : M < 12) (h0 : -9223372036854775808 ≤ y) (h1 : y ≤ 9223372036854775807) :
    Calls Tryz.prog 128 #[.int .i64 y, .int .i64 v] w fun e w' => e = .returned (.int .i64 (longI y M)) ∧ Below w.heap.size w w' := by
  have HL := refLeapC y w h0 h1
  by_cases c : M = 1
  · subst c
    obtain rfl : v = 2 := by omega
    clear hv
    cases hl : leapB y with
    | true =>
      rw [hl] at HL
      rw [longI_29 hl]
      clear hl
      go_enter Tryz.func128, Tryz.ntmps128
      go_wp2_with (go_at_call 149; (with_reducible refine HL.mono ?_); rintro e w2 ⟨rfl, rfl⟩)
      go_ret
      exact ⟨rfl, Below.refl _ _⟩
    | false =>
      rw [hl] at HL
      rw [longI_no (fun _ => hl)]
      have e1 : mlen.getD 1 0 = 28 := rfl
      rw [e1]
      clear hl
      go_enter Tryz.func128, Tryz.ntmps128
      go_wp2_with (go_at_call 149; (with_reducible refine HL.mono ?_); rintro e w2 ⟨rfl, rfl⟩)
      go_ret
      exact ⟨rfl, below_alloc _ _⟩
  · rw [longI_no (fun h => absurd h c)]
    have hc : ((M : Int) + 1 == 2) = false := by simp; omega
    subst hv
    have hr := reads_new w [.int .i64 0, .int .i64 31, .int .i64 28, .int .i64 31, .int .i64 30, .int .i64 31, .int .i64 30, .int .i64 31, .int .i64 31, .int .i64 30, .int .i64 31, .int .i64 30, .int .i64 31] 3
    have hx : ([.int .i64 0, .int .i64 31, .int .i64 28, .int .i64 31, .int .i64 30, .int .i64 31, .int .i64 30, .int .i64 31, .int .i64 31, .int .i64 30, .int .i64 31, .int .i64 30, .int .i64 31] : List Value)[M + 1]? = some (.int .i64 (mlen.getD M 0)) := by
      have : ∀ M, M < 12 → ([0, 31, 28, 31, 30, 31, 30, 31, 31, 30, 31, 30, 31] : List Int)[M + 1]? = some (mlen.getD M 0) := by decide
      have h := congrArg (Option.map (Value.int .i64)) (this M hM)
      rw [← List.getElem?_map] at h
      exact h
    obtain ⟨b, off, hb, hcell⟩ := hr (M + 1) _ hx
    cases hb
    rw [Nat.zero_add] at hcell
    generalize mlen.getD M 0 = z at *
    have hm1 : (M : Int) + 1 < 13 := by omega
    clear c HL hr hx
    go_enter Tryz.func128, Tryz.ntmps128
    go_wp2
    go_ret
    exact ⟨rfl, below_alloc _ _⟩

theorem refRightYes (y v d : Int) (M : Nat) (w : World) (hv : v = (M : Int) + 1) (h : RightI y M d) :
    Calls Tryz.prog 105 #[.int .i64 y, .int .i64 v, .int .i64 d] w fun e w' => e = .returned (.bool true) ∧ Below w.heap.size w w' := by
  obtain ⟨h1, h2, h3, h4, h5⟩ := h
  have HL := refLongC y v M w hv h3 (by omega) (by omega)
  have hb := longI_le y M h3
  have hv1 : 1 ≤ v := by omega
  have hv2 : v ≤ 12 := by omega
  clear hv
  generalize longI y M = L at *
  go_enter Tryz.func105, Tryz.ntmps105
  go_wp2_with (go_at_call 128; (with_reducible refine HL.mono ?_); rintro e w2 ⟨rfl, hx⟩)
  go_ret
  exact ⟨rfl, hx⟩

theorem refRightNo (y m d : Int) (w : World) (h : WrongI y m d) (h0 : -9223372036854775808 ≤ y) (h1 : y ≤ 9223372036854775807) (h2 : -9223372036854775808 ≤ m) (h3 : m ≤ 9223372036854775807) (h4 : -9223372036854775808 ≤ d) (h5 : d ≤ 9223372036854775807) :
    Calls Tryz.prog 105 #[.int .i64 y, .int .i64 m, .int .i64 d] w fun e w' => e = .returned (.bool false) ∧ Below w.heap.size w w' := by
  have hr := Below.refl w.heap.size w
  by_cases a1 : y < 1601
  · go_enter Tryz.func105, Tryz.ntmps105
    go_wp2
    go_ret
    exact ⟨rfl, hr⟩
  by_cases a2 : 9999 < y
  · go_enter Tryz.func105, Tryz.ntmps105
    go_wp2
    go_ret
    exact ⟨rfl, hr⟩
  by_cases a3 : m < 1
  · go_enter Tryz.func105, Tryz.ntmps105
    go_wp2
    go_ret
    exact ⟨rfl, hr⟩
  by_cases a4 : 12 < m
  · go_enter Tryz.func105, Tryz.ntmps105
    go_wp2
    go_ret
    exact ⟨rfl, hr⟩
  by_cases a5 : d < 1
  · go_enter Tryz.func105, Tryz.ntmps105
    go_wp2
    go_ret
    exact ⟨rfl, hr⟩
  obtain ⟨M, hM, hm, h6⟩ : ∃ M : Nat, M < 12 ∧ m = (M : Int) + 1 ∧ longI y M < d := by
    rcases h with h | h | h | h | ⟨M, h6, h7, h8⟩
    · omega
    · omega
    · omega
    · omega
    · exact ⟨M, h6, h7, by omega⟩
  have HM := refLongC y m M w hm hM h0 h1
  generalize longI y M = L at *
  clear h hm hr
  go_enter Tryz.func105, Tryz.ntmps105
  go_wp2_with (go_at_call 128; (with_reducible refine HM.mono ?_); rintro e w2 ⟨rfl, hx⟩)
  go_ret
  refine ⟨?_, hx⟩
  show Ending.returned (.bool (decide (d ≤ L))) = _
  rw [decide_eq_false (by omega)]

theorem refDaysC (y v : Int) (M : Nat) (d : Int) (w : World) (hv : v = (M : Int) + 1) (h : RightI y M d) :
    Calls Tryz.prog 106 #[.int .i64 y, .int .i64 v, .int .i64 d] w fun e w' => e = .returned (.int .i64 (daysI y M d)) ∧ Below w.heap.size w w' := by
  subst hv
  obtain ⟨h1, h2, h3, h4, h5⟩ := h
  have HM := fun (k : Nat) (hk : k < 12) (v : Int) (hv : v = (k : Int) + 1) (w : World) => refLongC y v k w hv hk (by omega) (by omega)
  have HY := aheadC y w (by omega) (by omega)
  have HZ := aheadC 1970 w (by omega) (by omega)
  have e0 : aheadI 1970 = 719162 := by decide
  rw [e0] at HZ
  have hs := start_le' y h1 (by omega)
  have hb := (longI_le y M h3).2
  have hd : d ≤ 31 := by omega
  have HD : Hid (daysI y M d = aheadI y - 719162 + mdays y M + d - 1) := rfl
  unfold startI at hs
  have HP := Lib.hid (fun k (hk : k ≤ 12) => mdays_pos y k hk)
  have HS := Lib.hid (fun k => show mdays y (k + 1) = mdays y k + longI y k from rfl)
  have HL := Lib.hid (longI_le y)
  have h0 : Hid (mdays y 0 = 0) := rfl
  generalize daysI y M d = R at *
  generalize aheadI y = s at *
  generalize mdays y = md at *
  have hv1 : (1 : Int) ≤ (M : Int) + 1 := by omega
  have hv2 : (M : Int) + 1 ≤ 12 := by omega
  go_enter Tryz.func106, Tryz.ntmps106
  go_wp2_with (go_at_call 129; first | ((with_reducible refine HY.mono ?_); rintro e w2 ⟨rfl, rfl⟩) | ((with_reducible refine HZ.mono ?_); rintro e w2 ⟨rfl, rfl⟩))
  go_loopw [7, 8] (fun v i wr => ∃ k : Nat, k ≤ M ∧ v = .int .i64 (s - 719162 + md k) ∧ i = .int .i64 ((k : Int) + 1) ∧ Below w.heap.size w wr) (fun _ i _ => M + 1 - (intOf i).toNat)
  case atStart => exact ⟨0, Nat.zero_le _, by rw [h0.out]; simp, rfl, Below.refl _ _⟩
  case round =>
    obtain ⟨k, hk, rfl, rfl, hbw⟩ := hrel
    have p1 := HP.out k (by omega)
    have p2 := HL.out k (by omega)
    have p3 := Lib.hid (HS.out k)
    by_cases hlt : k < M
    · have hlt' : (k : Int) < (M : Int) := by omega
      have HK := HM k (by omega) _ rfl
      clear HM
      generalize longI y k = L at *
      obtain ⟨z, hz⟩ : ∃ z, md k = z := ⟨_, rfl⟩
      rw [hz] at p1
      rw [hz]
      have p4 := Lib.hid (p3.out.trans (by rw [hz]))
      clear hz p3
      go_wp2_with (go_at_call 128; (with_reducible refine (HK _).mono ?_); rintro e w2 ⟨rfl, hx⟩)
      go_roundw
      case rel => exact ⟨k + 1, by omega, by rw [p4.out]; congr 1; omega, by go_num, hbw.trans (hx.mono hbw.size)⟩
      case measure => simp [intOf]; omega
    · obtain rfl : k = M := by omega
      clear HM p2 p3
      have e : Hid (R = s - 719162 + md k + d - 1) := HD.out
      generalize md k = z at *
      go_wp2
      go_ret
      exact ⟨by rw [e.out]; rfl, hbw⟩
end Go.Proofs.YthefieemngmnjaaGreatDoor
