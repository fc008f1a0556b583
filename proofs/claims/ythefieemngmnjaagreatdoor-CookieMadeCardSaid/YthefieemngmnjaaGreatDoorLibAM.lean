/- Contracts and plain words that the laws' proofs stand on, put together. -/
import Derived.Test.YthefieemngmnjaaGreatDoorLibAL
import Derived.Test.YthefieemngmnjaaGreatDoorLibAD
import Derived.Test.YthefieemngmnjaaGreatDoorLibAG
import Derived.Test.YthefieemngmnjaaGreatDoorLibAE
import Derived.Test.YthefieemngmnjaaGreatDoorLibAH
import Derived.Test.YthefieemngmnjaaGreatDoorLibAI
import Derived.Test.YthefieemngmnjaaGreatDoorLibAB
import Derived.Test.YthefieemngmnjaaGreatDoorDateParse
import Derived.Test.YthefieemngmnjaaGreatDoorStrsIn
/- Cookies in plain words: items, which are right, which are over, which go with a request. No program in it. -/
namespace Go.Proofs.YthefieemngmnjaaGreatDoor
set_option linter.unusedVariables false

/-- A cookie with its key. -/
structure ItemL where
  name : List UInt8
  dom : List UInt8
  path : List UInt8
  val : List UInt8
  host : Bool
  sec : Bool
  http : Bool
  pers : Bool
  exp : Int
  made : Int
  used : Int

def ItemL.none : ItemL := ⟨[], [], [], [], false, false, false, false, 0, 0, 0⟩

/-- A text without controls, semicolons, and blanks at its ends. -/
def plainB (s : List UInt8) : Bool := !s.any ctl && (decide (s.findIdx (· == 59) = s.length) && trimL s == s)

/-- May a cookie be so? -/
def rightX (x : ItemL) : Bool :=
  !(x.name == [] || (decide (256 < x.name.length) || (!plainB x.name || (decide (x.name.findIdx (· == 61) < x.name.length) || (decide (1024 < x.val.length) || !plainB x.val))))) &&
  (!(!canonB x.dom || (x.path == [] || (!(x.path.getD 0 0 == 47) || decide (256 < x.path.length)))) &&
  (decide (-1099511627776 ≤ x.exp) && (decide (x.exp ≤ 1099511627776) && (decide (0 ≤ x.made) && (decide (x.made ≤ 1099511627776) && (decide (0 ≤ x.used) && (decide (x.used ≤ 1099511627776) && (x.pers || x.exp == 1099511627776))))))))

def overX (x : ItemL) (now : Int) : Bool := x.pers && decide (x.exp ≤ now)

/-- Does a cookie go with a request? -/
def fitsX (x : ItemL) (h p : List UInt8) (sec script : Bool) (now : Int) : Bool :=
  !(overX x now || ((x.sec && !sec) || ((x.http && script) || !fitP p x.path))) && (if x.host = true then h == x.dom else h == x.dom || matchB h x.dom)
end Go.Proofs.YthefieemngmnjaaGreatDoor

/- Contracts of the reference of layer 14: plain texts, public suffixes, what is over. -/
namespace Go.Proofs.YthefieemngmnjaaGreatDoor
open Go.RowKit
set_option linter.unusedVariables false

theorem refFindSemiC (l : List UInt8) (n : Nat) (w : World) (hl : l.length = n) (hm : n ≤ maxLen) :
    Calls Tryz.prog 35 #[.string (str l), .int .u8 59] w fun e w' => e = .returned (.int .i64 (findL l 59)) ∧ w = w' := refFindC l 59 n w hl hm

set_option maxRecDepth 100000 in
theorem refPlainC (s : List UInt8) (n : Nat) (w : World) (hs : s.length = n) (hm : n ≤ maxLen) :
    Calls Tryz.prog 34 #[.string (str s)] w fun e w' => e = .returned (.bool (plainB s)) ∧ w = w' := by
  have HC := fun w => refControlC s n w hs hm
  have HF := fun w => refFindSemiC s n w hs hm
  have HT := fun w => refTrimC s n w hs hm
  have hk := str_toList
  have hf : findL s 59 = if s.findIdx (· == 59) = s.length then -1 else (s.findIdx (· == 59) : Int) := rfl
  unfold plainB
  cases hc : s.any ctl with
  | true =>
    rw [hc] at HC
    clear hs hf
    go_enter Tryz.func34, Tryz.ntmps34
    go_wp2_with (go_at_call 58; (with_reducible refine (HC _).mono ?_); rintro e w1 ⟨rfl, rfl⟩)
    go_ret
    exact ⟨rfl, rfl⟩
  | false =>
    rw [hc] at HC
    by_cases h1 : s.findIdx (· == 59) = s.length
    · rw [if_pos h1] at hf
      rw [hf] at HF
      have k1 : (-1 : Int) < 0 := by decide
      rw [decide_eq_true h1]
      cases ht : trimL s == s with
      | true =>
        clear hs hf h1
        go_enter Tryz.func34, Tryz.ntmps34
        go_wp2_with (first
          | (go_at_call 58; (with_reducible refine (HC _).mono ?_); rintro e w1 ⟨rfl, rfl⟩)
          | (go_at_call 35; (with_reducible refine (HF _).mono ?_); rintro e w1 ⟨rfl, rfl⟩)
          | (go_at_call 68; (with_reducible refine (HT _).mono ?_); rintro e w1 ⟨rfl, rfl⟩))
        go_ret
        exact ⟨rfl, rfl⟩
      | false =>
        clear hs hf h1
        go_enter Tryz.func34, Tryz.ntmps34
        go_wp2_with (first
          | (go_at_call 58; (with_reducible refine (HC _).mono ?_); rintro e w1 ⟨rfl, rfl⟩)
          | (go_at_call 35; (with_reducible refine (HF _).mono ?_); rintro e w1 ⟨rfl, rfl⟩)
          | (go_at_call 68; (with_reducible refine (HT _).mono ?_); rintro e w1 ⟨rfl, rfl⟩))
        go_ret
        exact ⟨rfl, rfl⟩
    · rw [if_neg h1] at hf
      rw [hf] at HF
      rw [decide_eq_false h1]
      have k1 : ¬ ((s.findIdx (· == 59) : Nat) : Int) < 0 := by omega
      generalize s.findIdx (· == 59) = F at *
      clear hs hf h1
      go_enter Tryz.func34, Tryz.ntmps34
      go_wp2_with (first
        | (go_at_call 58; (with_reducible refine (HC _).mono ?_); rintro e w1 ⟨rfl, rfl⟩)
        | (go_at_call 35; (with_reducible refine (HF _).mono ?_); rintro e w1 ⟨rfl, rfl⟩))
      go_ret
      exact ⟨rfl, rfl⟩

set_option maxRecDepth 100000 in
theorem refOverC (va : List UInt8) (ho se ht pe : Bool) (ex cr ac now : Int) (w : World) :
    Calls Tryz.prog 14 #[.agg #[.string (str va), .bool ho, .bool se, .bool ht, .bool pe, .int .i64 ex, .int .i64 cr, .int .i64 ac], .int .i64 now] w fun e w' => e = .returned (.bool (pe && decide (ex ≤ now))) ∧ Below w.heap.size w w' := by
  have hb := below_alloc w (.cells #[.string (str va), .bool ho, .bool se, .bool ht, .bool pe, .int .i64 ex, .int .i64 cr, .int .i64 ac] 32)
  cases pe with
  | false =>
    go_enter Tryz.func14, Tryz.ntmps14
    go_wp2
    go_ret
    exact ⟨rfl, hb⟩
  | true =>
    by_cases h : ex ≤ now
    · rw [decide_eq_true h]
      go_enter Tryz.func14, Tryz.ntmps14
      go_wp2
      go_ret
      exact ⟨rfl, hb⟩
    · rw [decide_eq_false h]
      go_enter Tryz.func14, Tryz.ntmps14
      go_wp2
      go_ret
      exact ⟨rfl, hb⟩

/-- Three objects of the call's own, one behind the other. -/
theorem three_new (w : World) (A B C : Array Value) (a b c : TypeId) :
    ObjAt (((w.alloc (.cells A a)).alloc (.cells B b)).alloc (.cells C c)) w.heap.size A.toList ∧ ObjAt (((w.alloc (.cells A a)).alloc (.cells B b)).alloc (.cells C c)) (w.heap.size + 1) B.toList ∧
    ObjAt (((w.alloc (.cells A a)).alloc (.cells B b)).alloc (.cells C c)) (w.heap.size + 2) C.toList ∧ Below w.heap.size w (((w.alloc (.cells A a)).alloc (.cells B b)).alloc (.cells C c)) := by
  have s1 : (w.alloc (.cells A a)).heap.size = w.heap.size + 1 := by simp
  have s2 : ((w.alloc (.cells A a)).alloc (.cells B b)).heap.size = w.heap.size + 2 := by simp
  have o1 := ObjAt.new w A a
  have o2 := ObjAt.new (w.alloc (.cells A a)) B b
  have o3 := ObjAt.new ((w.alloc (.cells A a)).alloc (.cells B b)) C c
  have b1 := below_alloc w (.cells A a)
  have b2 := below_alloc (w.alloc (.cells A a)) (.cells B b)
  have b3 := below_alloc ((w.alloc (.cells A a)).alloc (.cells B b)) (.cells C c)
  have o1' := (o1.below b2 o1.lt).below b3 (o1.below b2 o1.lt).lt
  have o2' := o2.below b3 o2.lt
  rw [s1] at o2'
  rw [s2] at o3
  exact ⟨o1', o2', o3, (b1.trans (b2.mono b1.size)).trans (b3.mono (b1.trans (b2.mono b1.size)).size)⟩
end Go.Proofs.YthefieemngmnjaaGreatDoor

/- Contracts of layer 14: texts, numbers and hosts of a cookie. -/
namespace Go.Proofs.YthefieemngmnjaaGreatDoor
open Go.RowKit
set_option linter.unusedVariables false

theorem withinC (n a b : Int) (w : World) :
    Calls Tryz.prog 67 #[.int .i64 n, .int .i64 a, .int .i64 b] w fun e w' => e = .returned (.bool (decide (a ≤ n) && decide (n ≤ b))) ∧ w = w' := by
  by_cases h1 : a ≤ n
  · rw [decide_eq_true h1, Bool.true_and]
    by_cases h2 : n ≤ b
    · rw [decide_eq_true h2]
      go_enter Tryz.func67, Tryz.ntmps67
      go_wp2
      go_ret
      exact ⟨rfl, rfl⟩
    · rw [decide_eq_false h2]
      go_enter Tryz.func67, Tryz.ntmps67
      go_wp2
      go_ret
      exact ⟨rfl, rfl⟩
  · rw [decide_eq_false h1, Bool.false_and]
    go_enter Tryz.func67, Tryz.ntmps67
    go_wp2
    go_ret
    exact ⟨rfl, rfl⟩

theorem canonicalC (s : List UInt8) (n : Nat) (w : World) (hl : s.length = n) (hm : n ≤ 100000) (hT : PTab Tryz.prog w) :
    Calls Tryz.prog 66 #[.string (str s)] w fun e w' => e = .returned (.bool (canonB s)) ∧ Below w.heap.size w w' := by
  obtain ⟨X, E, hXE, hcase⟩ := canon_self s
  have HC := canonC s n w hl (by unfold maxLen; omega) hT
  unfold CanonIs at HC
  simp only [hXE] at HC
  have hk := str_toList
  clear hXE hl hT
  rcases hcase with ⟨rfl, rfl, hcb⟩ | ⟨rfl, hX, hcb⟩ | ⟨hE, hcb⟩
  · rw [hcb]
    clear hcb
    go_enter Tryz.func66, Tryz.ntmps66
    go_wp2_with (go_at_call 42; (with_reducible refine HC.mono ?_); rintro e w1 ⟨rfl, hb⟩)
    go_ret
    exact ⟨rfl, hb⟩
  · rw [hcb]
    clear hcb
    go_enter Tryz.func66, Tryz.ntmps66
    go_wp2_with (go_at_call 42; (with_reducible refine HC.mono ?_); rintro e w1 ⟨rfl, hb⟩)
    go_ret
    exact ⟨rfl, hb⟩
  · rw [hcb]
    clear hcb
    go_enter Tryz.func66, Tryz.ntmps66
    go_wp2_with (go_at_call 42; (with_reducible refine HC.mono ?_); rintro e w1 ⟨rfl, hb⟩)
    go_ret
    exact ⟨rfl, hb⟩

/-- Can a text of at most that many bytes be parted out at these signs? -/
def partB (s S : List UInt8) (n : Nat) (most : Int) : Bool :=
  decide ((n : Int) ≤ most) && (!s.any ctl && ((trimL s == s) && S.all (fun c => decide (s.findIdx (· == c) = n))))

set_option maxRecDepth 100000 in
theorem partC (s S : List UInt8) (n m g : Nat) (most : Int) (w : World) (hl : s.length = n) (hm : n ≤ 100000) (hS : S.length = m) (hm2 : m ≤ 100) (hr : Reads w (some ⟨g, 0, none⟩) (S.map (fun c => Value.int .u8 (c.toNat : Int)))) :
    Calls Tryz.prog 65 #[.string (str s), .int .i64 most, .slice (some ⟨g, 0, none⟩) m m] w fun e w' => e = .returned (.bool (partB s S n most)) ∧ w = w' := by
  have hsz : (str s).size = n := by rw [str_size, hl]
  have hk := str_toList
  have H1 := fun w => controlC s n w hl (by unfold maxLen; omega)
  have H2 := fun w => trimC s n w hl (by unfold maxLen; omega)
  have HB := fun c w => byteC s c w
  simp only [byte_find, hl] at HB
  unfold partB
  by_cases h1 : (n : Int) ≤ most
  · have h1' : ¬ most < (n : Int) := by omega
    rw [decide_eq_true h1, Bool.true_and]
    cases hc : s.any ctl with
    | true =>
      rw [hc] at H1
      clear hc
      rw [Bool.not_true, Bool.false_and]
      clear hl hr HB H2
      go_enter Tryz.func65, Tryz.ntmps65
      go_wp2_with (go_at_call 47; (with_reducible refine (H1 _).mono ?_); rintro e w1 ⟨rfl, rfl⟩)
      go_ret
      exact ⟨rfl, rfl⟩
    | false =>
      rw [hc] at H1
      clear hc
      rw [Bool.not_false, Bool.true_and]
      cases ht : trimL s == s with
      | false =>
        have ht2 : (trimL s != s) = true := by rw [bne, ht]; rfl
        rw [Bool.false_and]
        generalize trimL s = t at *
        clear hl hr HB
        go_enter Tryz.func65, Tryz.ntmps65
        go_wp2_with (first
          | (go_at_call 47; (with_reducible refine (H1 _).mono ?_); rintro e w1 ⟨rfl, rfl⟩)
          | (go_at_call 50; (with_reducible refine (H2 _).mono ?_); rintro e w1 ⟨rfl, rfl⟩))
        go_ret
        exact ⟨rfl, rfl⟩
      | true =>
        rw [Bool.true_and]
        rw [eq_of_beq ht] at H2
        clear ht
        obtain ⟨P, hP⟩ : ∃ P : Nat → Bool, ∀ j, decide (s.findIdx (· == S.getD j 0) = n) = P j := ⟨_, fun _ => rfl⟩
        have hall : Hid (∀ b, (∀ j, j < m → P j = true) → b = true → S.all (fun c => decide (s.findIdx (· == c) = n)) = b) := fun b h hb => by
          rw [hb, List.all_eq_true]
          intro c hc
          obtain ⟨j, hj, rfl⟩ := List.mem_iff_getElem.1 hc
          have := h j (by omega)
          rw [← hP, List.getD_eq_getElem?_getD, List.getElem?_eq_getElem hj] at this
          exact this
        have hone : Hid (∀ j, j < m → P j = false → S.all (fun c => decide (s.findIdx (· == c) = n)) = false) := fun j hj h => by
          rw [List.all_eq_false]
          have hj' : j < S.length := by omega
          refine ⟨S[j], List.getElem_mem hj', ?_⟩
          rw [← hP, List.getD_eq_getElem?_getD, List.getElem?_eq_getElem hj'] at h
          rw [show decide (s.findIdx (· == S[j]) = n) = false from h]
          decide
        have hcell : Hid (∀ k, k < m → w.cell? ⟨g, k, none⟩ = some (.int .u8 ((S.getD k 0).toNat : Int))) := fun k hk => by
          obtain ⟨B, off, hB, hx⟩ := hr k (.int .u8 ((S.getD k 0).toNat : Int)) (by rw [List.getElem?_map, List.getElem?_eq_getElem (by omega), Option.map_some, List.getD_eq_getElem?_getD, List.getElem?_eq_getElem (by omega)]; rfl)
          cases hB
          rw [Nat.zero_add] at hx
          exact hx
        have HBt : ∀ j w, P j = true → Calls Tryz.prog 81 #[.string (str s), .int .u8 ((S.getD j 0).toNat : Int)] w fun e w' => e = .returned (.int .i64 (-1)) ∧ w = w' := fun j w h => by
          have := HB (S.getD j 0) w
          rw [if_pos (of_decide_eq_true ((hP j).trans h))] at this
          exact this
        have HBf : ∀ j w, P j = false → ∃ F : Int, 0 ≤ F ∧ Calls Tryz.prog 81 #[.string (str s), .int .u8 ((S.getD j 0).toNat : Int)] w fun e w' => e = .returned (.int .i64 F) ∧ w = w' := fun j w h => by
          have := HB (S.getD j 0) w
          rw [if_neg (of_decide_eq_false ((hP j).trans h))] at this
          exact ⟨_, by omega, this⟩
        obtain ⟨res, hres⟩ : ∃ r, S.all (fun c => decide (s.findIdx (· == c) = n)) = r := ⟨_, rfl⟩
        rw [hres] at hone hall ⊢
        clear hP hr HB hS hl hres
        go_enter Tryz.func65, Tryz.ntmps65
        go_wp2_with (first
          | (go_at_call 47; (with_reducible refine (H1 _).mono ?_); rintro e w1 ⟨rfl, rfl⟩)
          | (go_at_call 50; (with_reducible refine (H2 _).mono ?_); rintro e w1 ⟨rfl, rfl⟩))
        go_loopw [25] (fun i wr => ∃ k : Nat, k ≤ m ∧ i = .int .i64 (k : Int) ∧ Hid (∀ j, j < k → P j = true) ∧ w = wr) (fun i _ => m - (intOf i).toNat)
        case atStart => exact ⟨0, Nat.zero_le _, rfl, fun j h => absurd h (Nat.not_lt_zero _), rfl⟩
        case round =>
          obtain ⟨k, hkm, rfl, hH, rfl⟩ := hrel
          by_cases hlt : k < m
          · have hlt' : (k : Int) < (m : Int) := by omega
            have c0 := hcell.out k hlt
            cases hp : P k with
            | true =>
              have HX := fun w => HBt k w hp
              have hH2 : Hid (∀ j, j < k + 1 → P j = true) := fun j hj => by
                rcases Nat.lt_succ_iff_lt_or_eq.1 hj with h | rfl
                · exact hH.out j h
                · exact hp
              generalize (S.getD k 0).toNat = x at *
              clear HBt HBf hH hp hone hall hcell H1 H2
              go_wp2_with (go_at_call 81; (with_reducible refine (HX _).mono ?_); rintro e w1 ⟨rfl, rfl⟩)
              go_roundw
              case rel => exact ⟨k + 1, by omega, by go_num, hH2, by first | rfl | trivial⟩
              case measure => simp [intOf]; omega
            | false =>
              obtain ⟨F, hF, HX⟩ := HBf k w hp
              have hr2 := hone.out k hlt hp
              generalize (S.getD k 0).toNat = x at *
              clear HBt HBf hH hone hall hcell H1 H2 hp
              go_wp2_with (go_at_call 81; (with_reducible refine HX.mono ?_); rintro e w1 ⟨rfl, rfl⟩)
              go_ret
              exact ⟨by rw [hr2]; rfl, rfl⟩
          · obtain rfl : k = m := by omega
            have hr2 := hall.out true hH.out rfl
            clear HBt HBf hH hone hall hcell H1 H2
            go_wp2
            go_ret
            exact ⟨by rw [hr2]; rfl, rfl⟩
  · have h1' : most < (n : Int) := by omega
    rw [decide_eq_false h1, Bool.false_and]
    clear hl hr HB H2 H1
    go_enter Tryz.func65, Tryz.ntmps65
    go_wp2
    go_ret
    exact ⟨rfl, rfl⟩
end Go.Proofs.YthefieemngmnjaaGreatDoor

/- Cookies in plain words: what is made of a header that came with a request. No program in it. -/
namespace Go.Proofs.YthefieemngmnjaaGreatDoor
set_option linter.unusedVariables false

/-- Is a canonical text its own public suffix? -/
def pubN (R : List (List UInt8)) (d : List UInt8) : Bool := nameB d && ofL R d == d

/-- What is made behind the domain: for that domain, or (said: false) for the host alone. -/
def makeBody (said : Bool) (h p : List UInt8) (script : Bool) (q : List UInt8 × List UInt8) (f : FieldsL) (now : Int) : ItemL × Int :=
  if 256 < (if f.hpath = true then f.path else defaultL p).length then (ItemL.none, 3)
  else if f.http = true ∧ script = true then (ItemL.none, 15)
  else (⟨q.1, if said = true then f.dom else h, if f.hpath = true then f.path else defaultL p, q.2, !said, f.sec, f.http, (expiryA f now).2, (expiryA f now).1, now, now⟩, 0)

/-- What is made of a header's pair and what its attributes say. -/
def makeOf (R : List (List UInt8)) (h p : List UInt8) (script : Bool) (q : List UInt8 × List UInt8) (f : FieldsL) (now : Int) : ItemL × Int :=
  if f.hdom = false then makeBody false h p script q f now
  else if canonB f.dom = false then (ItemL.none, 13)
  else if pubN R f.dom = true then (if f.dom = h then makeBody false h p script q f now else (ItemL.none, 14))
  else if matchB h f.dom = false then (ItemL.none, 13)
  else makeBody true h p script q f now

/-- The cookie of a header that came with a request. -/
def makeX (R : List (List UInt8)) (h p : List UInt8) (sec script : Bool) (head : List UInt8) (now : Int) : ItemL × Int :=
  if 256 < R.length then (ItemL.none, 3)
  else if R.all ruleB = false ∨ rightU h p sec = false then (ItemL.none, 1)
  else if (parseH head).2.2 ≠ 0 then (ItemL.none, (parseH head).2.2)
  else makeOf R h p script (parseH head).1 (readA (parseH head).2.1) (clampA now)
end Go.Proofs.YthefieemngmnjaaGreatDoor

/- What lies there while a cookie is made: the request, the answer, the header's pair, what its attributes say. -/
namespace Go.Proofs.YthefieemngmnjaaGreatDoor
open Go.RowKit
set_option linter.unusedVariables false

theorem two_new (w : World) (A B : Array Value) (a b : TypeId) :
    ObjAt ((w.alloc (.cells A a)).alloc (.cells B b)) w.heap.size A.toList ∧ ObjAt ((w.alloc (.cells A a)).alloc (.cells B b)) (w.heap.size + 1) B.toList ∧ Below w.heap.size w ((w.alloc (.cells A a)).alloc (.cells B b)) := by
  have s1 : (w.alloc (.cells A a)).heap.size = w.heap.size + 1 := by simp
  have o1 := ObjAt.new w A a
  have o2 := ObjAt.new (w.alloc (.cells A a)) B b
  have b1 := below_alloc w (.cells A a)
  have b2 := below_alloc (w.alloc (.cells A a)) (.cells B b)
  have o1' := o1.below b2 o1.lt
  rw [s1] at o2
  exact ⟨o1', o2, b1.trans (b2.mono b1.size)⟩

/-- What lies there while an item is made: the request, and the answer. -/
structure StA (w0 wx : World) (req zero : List Value) : Prop where
  o5 : ObjAt wx w0.heap.size req
  o8 : ObjAt wx (w0.heap.size + 1) zero
  hb : Below w0.heap.size w0 wx
theorem StA.below {w0 wx w' : World} {req zero : List Value} (h : StA w0 wx req zero) (hx : Below wx.heap.size wx w') : StA w0 w' req zero :=
  ⟨h.o5.below hx h.o5.lt, h.o8.below hx h.o8.lt, h.hb.trans (hx.mono h.hb.size)⟩

/-- And the header's pair, and what its attributes say. -/
structure StB (w0 wx : World) (req zero pair fld : List Value) (b10 b13 : Nat) : Prop where
  A : StA w0 wx req zero
  o10 : ObjAt wx b10 pair
  o13 : ObjAt wx b13 fld
  l1 : w0.heap.size + 1 < b10
  l2 : b10 < b13
theorem StB.below {w0 wx w' : World} {req zero pair fld : List Value} {b10 b13 : Nat} (h : StB w0 wx req zero pair fld b10 b13) (hx : Below wx.heap.size wx w') : StB w0 w' req zero pair fld b10 b13 :=
  ⟨h.A.below hx, h.o10.below hx h.o10.lt, h.o13.below hx h.o13.lt, h.l1, h.l2⟩

/-- And the item. -/
structure StC (w0 wx : World) (req zero pair fld x : List Value) (b10 b13 b15 : Nat) : Prop where
  B : StB w0 wx req zero pair fld b10 b13
  o15 : ObjAt wx b15 x
  l3 : b13 < b15
theorem StC.below {w0 wx w' : World} {req zero pair fld x : List Value} {b10 b13 b15 : Nat} (h : StC w0 wx req zero pair fld x b10 b13 b15) (hx : Below wx.heap.size wx w') : StC w0 w' req zero pair fld x b10 b13 b15 :=
  ⟨h.B.below hx, h.o15.below hx h.o15.lt, h.l3⟩
theorem StC.put {w0 wx : World} {req zero pair fld x : List Value} {b10 b13 b15 : Nat} (h : StC w0 wx req zero pair fld x b10 b13 b15) (i : Nat) (v : Value) : StC w0 (wx.setCell ⟨b15, i, none⟩ v) req zero pair fld (x.set i v) b10 b13 b15 := by
  have l1 := h.B.l1
  have l2 := h.B.l2
  have l3 := h.l3
  exact ⟨⟨⟨h.B.A.o5.other (by show b15 ≠ _; omega) v, h.B.A.o8.other (by show b15 ≠ _; omega) v, h.B.A.hb.setCell (by show w0.heap.size ≤ b15; omega) v⟩, h.B.o10.other (by show b15 ≠ _; omega) v, h.B.o13.other (by show b15 ≠ _; omega) v, l1, l2⟩, h.o15.set i v, l3⟩

end Go.Proofs.YthefieemngmnjaaGreatDoor

/- Cookies in plain words: how long the parts of a header are, and what its attributes say. No program in it. -/
namespace Go.Proofs.YthefieemngmnjaaGreatDoor
set_option linter.unusedVariables false

theorem pair_lens (s : List UInt8) : (pairL s).1.length ≤ s.length ∧ (pairL s).2.length ≤ s.length := by
  unfold pairL
  split
  · exact ⟨trim_length s, Nat.zero_le _⟩
  · refine ⟨Nat.le_trans (trim_length _) ?_, Nat.le_trans (trim_length _) ?_⟩
    · rw [List.length_take]; omega
    · rw [List.length_drop]; omega

theorem parse_lens (s : List UInt8) : ∀ x ∈ (parseH s).2.1, x.1.length ≤ s.length ∧ x.2.length ≤ s.length := by
  intro x hx
  unfold parseH at hx
  split at hx
  · simp at hx
  · split at hx
    · simp at hx
    · split at hx
      · simp at hx
      · split at hx
        · simp at hx
        · obtain ⟨y, hy, rfl⟩ := List.mem_map.1 hx
          have hm := List.mem_of_mem_drop hy
          obtain ⟨i, hi, rfl⟩ := List.mem_iff_getElem.1 hm
          have h1 := part_len s 59 i hi
          rw [List.getD_eq_getElem?_getD, List.getElem?_eq_getElem hi, Option.getD_some] at h1
          have h2 := pair_lens (splitL s 59)[i]
          omega

theorem num_range (l : List UInt8) : -1099511627776 ≤ (numL l).1 ∧ (numL l).1 ≤ 1099511627776 := by
  have := numV_le (body l)
  unfold numL
  split
  · dsimp only; omega
  · dsimp only
    split <;> omega

/-- What attributes say is as long as they are. -/
structure ShortF (K : Nat) (f : FieldsL) : Prop where
  dom : f.dom.length ≤ K
  path : f.path.length ≤ K
  age : -1099511627776 ≤ f.age ∧ f.age ≤ 1099511627776

theorem short_say {K : Nat} {f : FieldsL} (h : ShortF K f) (nm v : List UInt8) (hv : v.length ≤ K) : ShortF K (sayA f nm v) := by
  unfold sayA
  split
  · split
    · exact ⟨h.dom, h.path, h.age⟩
    · exact h
  · split
    · split
      · exact ⟨h.dom, h.path, num_range v⟩
      · exact h
    · split
      · split
        · exact h
        · refine ⟨?_, h.path, h.age⟩
          show (domL v).length ≤ K
          unfold domL
          split
          · rw [List.length_drop, List.length_map]; omega
          · rw [List.length_map]; exact hv
      · split
        · refine ⟨h.dom, ?_, h.age⟩
          dsimp only
          split
          · exact hv
          · exact Nat.zero_le _
        · split
          · exact ⟨h.dom, h.path, h.age⟩
          · split
            · exact ⟨h.dom, h.path, h.age⟩
            · exact h
theorem short_read {K : Nat} (L : List (List UInt8 × List UInt8)) (hL : ∀ x ∈ L, x.2.length ≤ K) : ShortF K (readA L) := by
  unfold readA
  suffices h : ∀ (L : List (List UInt8 × List UInt8)) (f : FieldsL), (∀ x ∈ L, x.2.length ≤ K) → ShortF K f → ShortF K (L.foldl stepA f) from h L _ hL ⟨Nat.zero_le _, Nat.zero_le _, by unfold FieldsL.none; decide⟩
  intro L
  induction L with
  | nil => exact fun f _ h => h
  | cons x L ih =>
    intro f hm h
    exact ih _ (fun y hy => hm y (List.mem_cons_of_mem _ hy)) (short_say h _ _ (hm x (List.mem_cons_self ..)))
end Go.Proofs.YthefieemngmnjaaGreatDoor

/- Contracts of layer 14: which keys and cookies are right. -/
namespace Go.Proofs.YthefieemngmnjaaGreatDoor
open Go.RowKit
set_option linter.unusedVariables false

/-- May a key be so? -/
def keyB (nm dm pa : List UInt8) : Bool := !(nm == []) && (partB nm [59, 61] nm.length 256 && (canonB dm && (decide (pa.getD 0 0 = 47) && decide (pa.length ≤ 256))))
def cooB (va : List UInt8) (pe : Bool) (ex cr ac : Int) : Bool := partB va [59] va.length 1024 && ((decide (-1099511627776 ≤ ex) && decide (ex ≤ 1099511627776)) && ((decide (0 ≤ cr) && decide (cr ≤ 1099511627776)) && ((decide (0 ≤ ac) && decide (ac ≤ 1099511627776)) && (pe || ex == 1099511627776))))

set_option maxHeartbeats 2000000 in
set_option maxRecDepth 100000 in
theorem rightKeyC (nm dm pa : List UInt8) (w : World) (l1 : nm.length ≤ 100000) (l2 : dm.length ≤ 100000) (l3 : pa.length ≤ 100000) (hT : PTab Tryz.prog w) :
    Calls Tryz.prog 32 #[.agg #[.string (str nm), .string (str dm), .string (str pa)]] w fun e w' => e = .returned (.bool (keyB nm dm pa)) ∧ Below w.heap.size w w' := by
  have hb1 := below_alloc w (.cells #[.string (str nm), .string (str dm), .string (str pa)] 30)
  have o1 := ObjAt.new w #[.string (str nm), .string (str dm), .string (str pa)] 30
  have hb2 := hb1.alloc hb1.size (.cells #[.int .u8 59, .int .u8 61] 5)
  have o2 := o1.below (below_alloc _ (.cells #[.int .u8 59, .int .u8 61] 5)) o1.lt
  have hT2 := hT.below hb2
  have hr : Reads ((w.alloc (.cells #[.string (str nm), .string (str dm), .string (str pa)] 30)).alloc (.cells #[.int .u8 59, .int .u8 61] 5)) (some ⟨w.heap.size + 1, 0, none⟩) ([59, 61].map (fun c : UInt8 => Value.int .u8 (c.toNat : Int))) := by
    have h := reads_new (w.alloc (.cells #[.string (str nm), .string (str dm), .string (str pa)] 30)) [.int .u8 59, .int .u8 61] 5
    have s1 : (w.alloc (.cells #[.string (str nm), .string (str dm), .string (str pa)] 30)).heap.size = w.heap.size + 1 := by simp
    rw [s1] at h
    exact h
  have HP := partC nm [59, 61] nm.length 2 (w.heap.size + 1) 256 _ rfl l1 rfl (by omega) hr
  have HC := canonicalC dm dm.length _ rfl l2 hT2
  have HH := fun w => headSlashC pa w
  have hk := str_toList
  obtain ⟨m3, hm3⟩ : ∃ m, pa.length = m := ⟨_, rfl⟩
  have z3 : (str pa).size = m3 := by rw [str_size, hm3]
  clear hr hT2 hT
  unfold keyB
  obtain ⟨b1, hb⟩ : ∃ b, (nm == []) = b := ⟨_, rfl⟩
  obtain ⟨b2, h2⟩ : ∃ b, partB nm [59, 61] nm.length 256 = b := ⟨_, rfl⟩
  obtain ⟨b3, h3⟩ : ∃ b, canonB dm = b := ⟨_, rfl⟩
  obtain ⟨b4, h4⟩ : ∃ b, decide (pa.getD 0 0 = 47) = b := ⟨_, rfl⟩
  obtain ⟨b5, h5⟩ : ∃ b, decide (pa.length ≤ 256) = b := ⟨_, rfl⟩
  rw [hb, h2, h3, h4, h5]
  rw [h2] at HP
  rw [h3] at HC
  simp only [h4] at HH
  rw [hm3] at h5
  clear h2 h3 h4 hm3 l1 l2 l3
  have c2 := o2.cell 2 rfl
  have u5 : b5 = decide ((m3 : Int) ≤ 256) := by rw [← h5]; exact decide_eq_decide.2 (by omega)
  rw [u5]
  clear u5 h5
  cases b1 with
  | true =>
    go_enter Tryz.func32, Tryz.ntmps32
    go_wp2_with (first
      | (go_at_call 65; (with_reducible refine HP.mono ?_); rintro e w1 ⟨rfl, rfl⟩)
      | (go_at_call 66; (with_reducible refine HC.mono ?_); rintro e w4 ⟨rfl, hx⟩; have o3 := o2.below hx o2.lt; have hb3 := hb2.trans (hx.mono hb2.size); have d2 := o3.cell 2 rfl; clear hx)
      | (go_at_call 44; (with_reducible refine (HH _).mono ?_); rintro e w5 ⟨rfl, rfl⟩))
    go_ret
    exact ⟨rfl, by first | exact hb3 | exact hb2 | exact hb1⟩
  | false =>
    cases b2 with
    | false =>
      go_enter Tryz.func32, Tryz.ntmps32
      go_wp2_with (first
        | (go_at_call 65; (with_reducible refine HP.mono ?_); rintro e w1 ⟨rfl, rfl⟩)
        | (go_at_call 66; (with_reducible refine HC.mono ?_); rintro e w4 ⟨rfl, hx⟩; have o3 := o2.below hx o2.lt; have hb3 := hb2.trans (hx.mono hb2.size); have d2 := o3.cell 2 rfl; clear hx)
        | (go_at_call 44; (with_reducible refine (HH _).mono ?_); rintro e w5 ⟨rfl, rfl⟩))
      go_ret
      exact ⟨rfl, by first | exact hb3 | exact hb2 | exact hb1⟩
    | true =>
      cases b3 with
      | false =>
        go_enter Tryz.func32, Tryz.ntmps32
        go_wp2_with (first
          | (go_at_call 65; (with_reducible refine HP.mono ?_); rintro e w1 ⟨rfl, rfl⟩)
          | (go_at_call 66; (with_reducible refine HC.mono ?_); rintro e w4 ⟨rfl, hx⟩; have o3 := o2.below hx o2.lt; have hb3 := hb2.trans (hx.mono hb2.size); have d2 := o3.cell 2 rfl; clear hx)
          | (go_at_call 44; (with_reducible refine (HH _).mono ?_); rintro e w5 ⟨rfl, rfl⟩))
        go_ret
        exact ⟨rfl, by first | exact hb3 | exact hb2 | exact hb1⟩
      | true =>
        cases b4 with
        | false =>
          go_enter Tryz.func32, Tryz.ntmps32
          go_wp2_with (first
            | (go_at_call 65; (with_reducible refine HP.mono ?_); rintro e w1 ⟨rfl, rfl⟩)
            | (go_at_call 66; (with_reducible refine HC.mono ?_); rintro e w4 ⟨rfl, hx⟩; have o3 := o2.below hx o2.lt; have hb3 := hb2.trans (hx.mono hb2.size); have d2 := o3.cell 2 rfl; clear hx)
            | (go_at_call 44; (with_reducible refine (HH _).mono ?_); rintro e w5 ⟨rfl, rfl⟩))
          go_ret
          exact ⟨rfl, by first | exact hb3 | exact hb2 | exact hb1⟩
        | true =>
          go_enter Tryz.func32, Tryz.ntmps32
          go_wp2_with (first
            | (go_at_call 65; (with_reducible refine HP.mono ?_); rintro e w1 ⟨rfl, rfl⟩)
            | (go_at_call 66; (with_reducible refine HC.mono ?_); rintro e w4 ⟨rfl, hx⟩; have o3 := o2.below hx o2.lt; have hb3 := hb2.trans (hx.mono hb2.size); have d2 := o3.cell 2 rfl; clear hx)
            | (go_at_call 44; (with_reducible refine (HH _).mono ?_); rintro e w5 ⟨rfl, rfl⟩))
          go_ret
          exact ⟨rfl, by first | exact hb3 | exact hb2 | exact hb1⟩

set_option maxHeartbeats 2000000 in
set_option maxRecDepth 100000 in
theorem rightCookieC (va : List UInt8) (ho se ht pe : Bool) (ex cr ac : Int) (w : World) (l1 : va.length ≤ 100000) :
    Calls Tryz.prog 33 #[.agg #[.string (str va), .bool ho, .bool se, .bool ht, .bool pe, .int .i64 ex, .int .i64 cr, .int .i64 ac]] w fun e w' => e = .returned (.bool (cooB va pe ex cr ac)) ∧ Below w.heap.size w w' := by
  have hb1 := below_alloc w (.cells #[.string (str va), .bool ho, .bool se, .bool ht, .bool pe, .int .i64 ex, .int .i64 cr, .int .i64 ac] 32)
  have hb2 := hb1.alloc hb1.size (.cells #[.int .u8 59] 5)
  have o1 := ObjAt.new w #[.string (str va), .bool ho, .bool se, .bool ht, .bool pe, .int .i64 ex, .int .i64 cr, .int .i64 ac] 32
  have o2 := o1.below (below_alloc _ (.cells #[.int .u8 59] 5)) o1.lt
  have hr : Reads ((w.alloc (.cells #[.string (str va), .bool ho, .bool se, .bool ht, .bool pe, .int .i64 ex, .int .i64 cr, .int .i64 ac] 32)).alloc (.cells #[.int .u8 59] 5)) (some ⟨w.heap.size + 1, 0, none⟩) ([59].map (fun c : UInt8 => Value.int .u8 (c.toNat : Int))) := by
    have h := reads_new (w.alloc (.cells #[.string (str va), .bool ho, .bool se, .bool ht, .bool pe, .int .i64 ex, .int .i64 cr, .int .i64 ac] 32)) [.int .u8 59] 5
    have s1 : (w.alloc (.cells #[.string (str va), .bool ho, .bool se, .bool ht, .bool pe, .int .i64 ex, .int .i64 cr, .int .i64 ac] 32)).heap.size = w.heap.size + 1 := by simp
    rw [s1] at h
    exact h
  have HP := partC va [59] va.length 1 (w.heap.size + 1) 1024 _ rfl l1 rfl (by omega) hr
  have H1 := fun w => withinC ex (-1099511627776) 1099511627776 w
  have H2 := fun w => withinC cr 0 1099511627776 w
  have H3 := fun w => withinC ac 0 1099511627776 w
  clear hr
  unfold cooB
  obtain ⟨b1, h1⟩ : ∃ b, partB va [59] va.length 1024 = b := ⟨_, rfl⟩
  obtain ⟨b2, h2⟩ : ∃ b, (decide (-1099511627776 ≤ ex) && decide (ex ≤ 1099511627776)) = b := ⟨_, rfl⟩
  obtain ⟨b3, h3⟩ : ∃ b, (decide (0 ≤ cr) && decide (cr ≤ 1099511627776)) = b := ⟨_, rfl⟩
  obtain ⟨b4, h4⟩ : ∃ b, (decide (0 ≤ ac) && decide (ac ≤ 1099511627776)) = b := ⟨_, rfl⟩
  obtain ⟨b6, h6⟩ : ∃ b, (ex == 1099511627776) = b := ⟨_, rfl⟩
  rw [h1, h2, h3, h4, h6]
  rw [h1] at HP
  simp only [h2] at H1
  simp only [h3] at H2
  simp only [h4] at H3
  clear h1 h2 h3 h4 l1
  have c0 := o2.cell 0 rfl; have c1 := o2.cell 1 rfl; have c2 := o2.cell 2 rfl; have c3 := o2.cell 3 rfl; have c4 := o2.cell 4 rfl; have c5 := o2.cell 5 rfl; have c6 := o2.cell 6 rfl; have c7 := o2.cell 7 rfl; clear o1 o2
  cases b1 with
  | false =>
    go_enter Tryz.func33, Tryz.ntmps33
    go_wp2_with (first
      | (go_at_call 65; (with_reducible refine HP.mono ?_); rintro e w1 ⟨rfl, rfl⟩)
      | (go_at_call 67; (with_reducible refine (H1 _).mono ?_); rintro e w2 ⟨rfl, rfl⟩)
      | (go_at_call 67; (with_reducible refine (H2 _).mono ?_); rintro e w2 ⟨rfl, rfl⟩)
      | (go_at_call 67; (with_reducible refine (H3 _).mono ?_); rintro e w2 ⟨rfl, rfl⟩))
    go_ret
    exact ⟨rfl, hb2⟩
  | true =>
    cases b2 with
    | false =>
      go_enter Tryz.func33, Tryz.ntmps33
      go_wp2_with (first
        | (go_at_call 65; (with_reducible refine HP.mono ?_); rintro e w1 ⟨rfl, rfl⟩)
        | (go_at_call 67; (with_reducible refine (H1 _).mono ?_); rintro e w2 ⟨rfl, rfl⟩)
        | (go_at_call 67; (with_reducible refine (H2 _).mono ?_); rintro e w2 ⟨rfl, rfl⟩)
        | (go_at_call 67; (with_reducible refine (H3 _).mono ?_); rintro e w2 ⟨rfl, rfl⟩))
      go_ret
      exact ⟨rfl, hb2⟩
    | true =>
      cases b3 with
      | false =>
        go_enter Tryz.func33, Tryz.ntmps33
        go_wp2_with (first
          | (go_at_call 65; (with_reducible refine HP.mono ?_); rintro e w1 ⟨rfl, rfl⟩)
          | (go_at_call 67; (with_reducible refine (H1 _).mono ?_); rintro e w2 ⟨rfl, rfl⟩)
          | (go_at_call 67; (with_reducible refine (H2 _).mono ?_); rintro e w2 ⟨rfl, rfl⟩)
          | (go_at_call 67; (with_reducible refine (H3 _).mono ?_); rintro e w2 ⟨rfl, rfl⟩))
        go_ret
        exact ⟨rfl, hb2⟩
      | true =>
        cases b4 with
        | false =>
          go_enter Tryz.func33, Tryz.ntmps33
          go_wp2_with (first
            | (go_at_call 65; (with_reducible refine HP.mono ?_); rintro e w1 ⟨rfl, rfl⟩)
            | (go_at_call 67; (with_reducible refine (H1 _).mono ?_); rintro e w2 ⟨rfl, rfl⟩)
            | (go_at_call 67; (with_reducible refine (H2 _).mono ?_); rintro e w2 ⟨rfl, rfl⟩)
            | (go_at_call 67; (with_reducible refine (H3 _).mono ?_); rintro e w2 ⟨rfl, rfl⟩))
          go_ret
          exact ⟨rfl, hb2⟩
        | true =>
          cases pe with
          | true =>
            go_enter Tryz.func33, Tryz.ntmps33
            go_wp2_with (first
              | (go_at_call 65; (with_reducible refine HP.mono ?_); rintro e w1 ⟨rfl, rfl⟩)
              | (go_at_call 67; (with_reducible refine (H1 _).mono ?_); rintro e w2 ⟨rfl, rfl⟩)
              | (go_at_call 67; (with_reducible refine (H2 _).mono ?_); rintro e w2 ⟨rfl, rfl⟩)
              | (go_at_call 67; (with_reducible refine (H3 _).mono ?_); rintro e w2 ⟨rfl, rfl⟩))
            go_ret
            exact ⟨rfl, hb2⟩
          | false =>
            cases b6 with
            | false =>
              go_enter Tryz.func33, Tryz.ntmps33
              go_wp2_with (first
                | (go_at_call 65; (with_reducible refine HP.mono ?_); rintro e w1 ⟨rfl, rfl⟩)
                | (go_at_call 67; (with_reducible refine (H1 _).mono ?_); rintro e w2 ⟨rfl, rfl⟩)
                | (go_at_call 67; (with_reducible refine (H2 _).mono ?_); rintro e w2 ⟨rfl, rfl⟩)
                | (go_at_call 67; (with_reducible refine (H3 _).mono ?_); rintro e w2 ⟨rfl, rfl⟩))
              go_ret
              exact ⟨rfl, hb2⟩
            | true =>
              go_enter Tryz.func33, Tryz.ntmps33
              go_wp2_with (first
                | (go_at_call 65; (with_reducible refine HP.mono ?_); rintro e w1 ⟨rfl, rfl⟩)
                | (go_at_call 67; (with_reducible refine (H1 _).mono ?_); rintro e w2 ⟨rfl, rfl⟩)
                | (go_at_call 67; (with_reducible refine (H2 _).mono ?_); rintro e w2 ⟨rfl, rfl⟩)
                | (go_at_call 67; (with_reducible refine (H3 _).mono ?_); rintro e w2 ⟨rfl, rfl⟩))
              go_ret
              exact ⟨rfl, hb2⟩

theorem right_parts (x : ItemL) : rightX x = (keyB x.name x.dom x.path && cooB x.val x.pers x.exp x.made x.used) := by
  have hp : (!(x.path == []) && (x.path.getD 0 0 == 47)) = decide (x.path.getD 0 0 = 47) := by
    cases x.path with
    | nil => rfl
    | cons c r =>
      rw [Bool.eq_iff_iff]
      simp
  have hq : (!decide (x.name.findIdx (· == 61) < x.name.length)) = decide (x.name.findIdx (· == 61) = x.name.length) := by
    have : x.name.findIdx (· == 61) ≤ x.name.length := List.findIdx_le_length
    rw [← decide_not, decide_eq_decide]
    omega
  have h1 : (!decide (256 < x.name.length)) = decide ((x.name.length : Int) ≤ 256) := by rw [← decide_not, decide_eq_decide]; omega
  have h2 : (!decide (1024 < x.val.length)) = decide ((x.val.length : Int) ≤ 1024) := by rw [← decide_not, decide_eq_decide]; omega
  have h3 : (!decide (256 < x.path.length)) = decide (x.path.length ≤ 256) := by rw [← decide_not, decide_eq_decide]; omega
  unfold rightX keyB cooB partB plainB
  rw [← hp, ← h1, ← h2, ← h3]
  simp only [List.all_cons, List.all_nil, Bool.and_true]
  rw [← hq]
  generalize (x.name == []) = a1
  generalize decide (256 < x.name.length) = a2
  generalize x.name.any ctl = a3
  generalize decide (x.name.findIdx (· == 59) = x.name.length) = a4
  generalize (trimL x.name == x.name) = a5
  generalize decide (x.name.findIdx (· == 61) < x.name.length) = a6
  generalize decide (1024 < x.val.length) = a7
  generalize x.val.any ctl = a8
  generalize decide (x.val.findIdx (· == 59) = x.val.length) = a9
  generalize (trimL x.val == x.val) = c1
  generalize canonB x.dom = c2
  generalize (x.path == []) = c3
  generalize (x.path.getD 0 0 == 47) = c4
  generalize decide (256 < x.path.length) = c5
  generalize decide (-1099511627776 ≤ x.exp) = d1
  generalize decide (x.exp ≤ 1099511627776) = d2
  generalize decide (0 ≤ x.made) = d3
  generalize decide (x.made ≤ 1099511627776) = d4
  generalize decide (0 ≤ x.used) = d5
  generalize decide (x.used ≤ 1099511627776) = d6
  generalize (x.pers || x.exp == 1099511627776) = d7
  clear hp hq h1 h2 h3
  rw [Bool.eq_iff_iff]
  simp only [Bool.and_eq_true, Bool.not_eq_true', Bool.or_eq_false_iff, Bool.not_eq_false']
  constructor
  · rintro ⟨h1, h2, h3⟩
    simp_all
  · rintro ⟨h1, h2⟩
    simp_all

set_option maxHeartbeats 2000000 in
set_option maxRecDepth 100000 in
theorem rightC14 (nm dm pa va : List UInt8) (ho se ht pe : Bool) (ex cr ac : Int) (w : World) (l1 : nm.length ≤ 100000) (l2 : dm.length ≤ 100000) (l3 : pa.length ≤ 100000) (l4 : va.length ≤ 100000) (hT : PTab Tryz.prog w) :
    Calls Tryz.prog 11 #[.agg #[.string (str nm), .string (str dm), .string (str pa), .string (str va), .bool ho, .bool se, .bool ht, .bool pe, .int .i64 ex, .int .i64 cr, .int .i64 ac]] w fun e w' => e = .returned (.bool (rightX ⟨nm, dm, pa, va, ho, se, ht, pe, ex, cr, ac⟩)) ∧ Below w.heap.size w w' := by
  have hb1 := below_alloc w (.cells #[.string (str nm), .string (str dm), .string (str pa), .string (str va), .bool ho, .bool se, .bool ht, .bool pe, .int .i64 ex, .int .i64 cr, .int .i64 ac] 34)
  have o1 := ObjAt.new w #[.string (str nm), .string (str dm), .string (str pa), .string (str va), .bool ho, .bool se, .bool ht, .bool pe, .int .i64 ex, .int .i64 cr, .int .i64 ac] 34
  have HK := rightKeyC nm dm pa _ l1 l2 l3 (hT.below hb1)
  have HC := fun w => rightCookieC va ho se ht pe ex cr ac w l4
  rw [right_parts]
  dsimp only
  generalize keyB nm dm pa = k at *
  generalize cooB va pe ex cr ac = c at *
  clear l1 l2 l3 l4 hT
  cases k with
  | false =>
    go_enter Tryz.func11, Tryz.ntmps11
    go_wp2_with (first
      | (go_at_call 32; (with_reducible refine HK.mono ?_); rintro e w1 ⟨rfl, hx⟩; have o2 := o1.below hx o1.lt; have hb2 := hb1.trans (hx.mono hb1.size); clear hx; have c3 := o2.cell 3 rfl; have c4 := o2.cell 4 rfl; have c5 := o2.cell 5 rfl; have c6 := o2.cell 6 rfl; have c7 := o2.cell 7 rfl; have c8 := o2.cell 8 rfl; have c9 := o2.cell 9 rfl; have c10 := o2.cell 10 rfl)
      | (go_at_call 33; (with_reducible refine (HC _).mono ?_); rintro e w2 ⟨rfl, hx⟩; have hb3 := hb2.trans (hx.mono hb2.size); clear hx))
    go_ret
    exact ⟨rfl, by first | exact hb3 | exact hb2⟩
  | true =>
    go_enter Tryz.func11, Tryz.ntmps11
    go_wp2_with (first
      | (go_at_call 32; (with_reducible refine HK.mono ?_); rintro e w1 ⟨rfl, hx⟩; have o2 := o1.below hx o1.lt; have hb2 := hb1.trans (hx.mono hb1.size); clear hx; have c3 := o2.cell 3 rfl; have c4 := o2.cell 4 rfl; have c5 := o2.cell 5 rfl; have c6 := o2.cell 6 rfl; have c7 := o2.cell 7 rfl; have c8 := o2.cell 8 rfl; have c9 := o2.cell 9 rfl; have c10 := o2.cell 10 rfl)
      | (go_at_call 33; (with_reducible refine (HC _).mono ?_); rintro e w2 ⟨rfl, hx⟩; have hb3 := hb2.trans (hx.mono hb2.size); clear hx))
    go_ret
    exact ⟨rfl, by first | exact hb3 | exact hb2⟩
end Go.Proofs.YthefieemngmnjaaGreatDoor

/- Contracts of the reference of layer 14: public suffixes, what goes with a request. -/
namespace Go.Proofs.YthefieemngmnjaaGreatDoor
open Go.RowKit
set_option linter.unusedVariables false

set_option maxRecDepth 100000 in
theorem refPublicC (a : Option Addr) (len cap : Nat) (R : List (List UInt8)) (d : List UInt8) (n : Nat) (w : World) (hR : IsStrs w a len cap R) (hd : d.length = n) (hm : n ≤ maxLen) :
    Calls Tryz.prog 17 #[.slice a len cap, .string (str d)] w fun e w' => e = .returned (.bool (pubN R d)) ∧ Below w.heap.size w w' := by
  have HN := fun w => refNameC d n w hd hm
  have hk := str_toList
  unfold pubN
  cases hn : nameB d with
  | false =>
    rw [hn] at HN
    clear hR
    go_enter Tryz.func17, Tryz.ntmps17
    go_wp2_with (go_at_call 36; (with_reducible refine (HN _).mono ?_); rintro e w1 ⟨rfl, hb⟩)
    go_ret
    exact ⟨rfl, hb⟩
  | true =>
    rw [hn] at HN
    have HO := fun w (h : IsStrs w a len cap R) => refOfC a len cap R d n w h hd hn
    generalize ofL R d = o at *
    cases ho : o == d with
    | true =>
      go_enter Tryz.func17, Tryz.ntmps17
      go_wp2_with (first
        | (go_at_call 36; (with_reducible refine (HN _).mono ?_); rintro e w1 ⟨rfl, hb⟩; have hR1 := hR.below hb)
        | (go_at_call 40; (with_reducible refine (HO _ hR1).mono ?_); rintro e w2 ⟨rfl, hx⟩; have hb2 := hb.trans (hx.mono hb.size); clear hx))
      go_ret
      exact ⟨rfl, hb2⟩
    | false =>
      go_enter Tryz.func17, Tryz.ntmps17
      go_wp2_with (first
        | (go_at_call 36; (with_reducible refine (HN _).mono ?_); rintro e w1 ⟨rfl, hb⟩; have hR1 := hR.below hb)
        | (go_at_call 40; (with_reducible refine (HO _ hR1).mono ?_); rintro e w2 ⟨rfl, hx⟩; have hb2 := hb.trans (hx.mono hb.size); clear hx))
      go_ret
      exact ⟨rfl, hb2⟩
end Go.Proofs.YthefieemngmnjaaGreatDoor

/- Cookies in plain words: what is made is right, of the host, and goes with the request. No program in it but what dates are. -/
namespace Go.Proofs.YthefieemngmnjaaGreatDoor
set_option linter.unusedVariables false

/-- A date's time is within the times that a cookie may have. -/
theorem parse_range (l : List UInt8) (h : (parseL l).2 = true) : -1099511627776 ≤ (parseL l).1 ∧ (parseL l).1 ≤ 1099511627776 := by
  have hok := foldD_ok (tok [] l) St.none St.none_ok
  unfold parseL at h ⊢
  generalize (tok [] l).foldl stepD St.none = s at *
  obtain ⟨t, d, m, y⟩ := s
  unfold St.tells at h ⊢
  rcases t with _ | ⟨hh, mi, se⟩
  · cases h
  rcases d with _ | d
  · cases h
  rcases m with _ | m
  · cases h
  rcases y with _ | y
  · cases h
  have hm := hok.m m rfl
  dsimp only at h ⊢
  rcases right_tells hh mi se d m y hm with ⟨h1, h2, h3, hR, e⟩ | ⟨-, e⟩
  · rw [e]
    have := days_in hR
    dsimp only
    omega
  · rw [e] at h; cases h

/-- What any attributes say keeps to bounds. -/
structure FineF (f : FieldsL) : Prop where
  exp : f.hexp = true → -1099511627776 ≤ f.exp ∧ f.exp ≤ 1099511627776
  path : f.hpath = true → f.path ≠ [] ∧ f.path.getD 0 0 = 47

theorem fine_none : FineF FieldsL.none := ⟨fun h => (by cases h), fun h => (by cases h)⟩

theorem fine_step {f : FieldsL} (h : FineF f) (x : List UInt8 × List UInt8) : FineF (stepA f x) := by
  unfold stepA sayA
  split
  · split
    · rename_i hp
      exact ⟨fun _ => parse_range x.2 hp, h.path⟩
    · exact h
  · split
    · split
      · exact ⟨h.exp, h.path⟩
      · exact h
    · split
      · split
        · exact h
        · exact ⟨h.exp, h.path⟩
      · split
        · refine ⟨h.exp, fun hp => ?_⟩
          have hp : pathB x.2 = true := hp
          dsimp only
          rw [if_pos hp]
          unfold pathB at hp
          rw [Bool.and_eq_true, Bool.not_eq_true', beq_eq_false_iff_ne, beq_iff_eq] at hp
          exact hp
        · split
          · exact ⟨h.exp, h.path⟩
          · split
            · exact ⟨h.exp, h.path⟩
            · exact h

theorem fine_read (L : List (List UInt8 × List UInt8)) : FineF (readA L) := by
  unfold readA
  have : ∀ (L : List (List UInt8 × List UInt8)) (f : FieldsL), FineF f → FineF (L.foldl stepA f) := by
    intro L
    induction L with
    | nil => intro f h; exact h
    | cons x r ih => intro f h; rw [List.foldl_cons]; exact ih _ (fine_step h x)
  exact this L _ fine_none

theorem clamp_range (now : Int) : 0 ≤ clampA now ∧ clampA now ≤ 1099511627776 := by
  unfold clampA
  split
  · omega
  · split <;> omega

theorem expiry_range {f : FieldsL} (h : FineF f) {N : Int} (hN : 0 ≤ N ∧ N ≤ 1099511627776) (hc : clampA N = N) : (-1099511627776 ≤ (expiryA f N).1 ∧ (expiryA f N).1 ≤ 1099511627776) ∧ ((expiryA f N).2 = false → (expiryA f N).1 = 1099511627776) := by
  unfold expiryA
  rw [hc]
  split
  · split
    · dsimp only; exact ⟨by omega, fun h => by cases h⟩
    · split
      · dsimp only; exact ⟨by omega, fun h => by cases h⟩
      · dsimp only; exact ⟨by omega, fun h => by cases h⟩
  · split
    · rename_i h2
      dsimp only
      exact ⟨h.exp h2, fun h => by cases h⟩
    · dsimp only; exact ⟨by omega, fun _ => rfl⟩

theorem clamp_clamp (now : Int) : clampA (clampA now) = clampA now := by
  have := clamp_range now
  unfold clampA at this ⊢
  split <;> split <;> (try omega)
  all_goals (repeat' split) <;> omega

theorem fine_plain {t : List UInt8} (h1 : trimmed t) (h2 : ∀ y ∈ t, (y == 59) = false) (h3 : ∀ y ∈ t, ctl y = false) : plainB t = true := by
  unfold plainB
  rw [find_none h2, trim_self h1]
  have : t.any ctl = false := by rw [List.any_eq_false]; intro y hy; rw [h3 y hy]; decide
  rw [this]
  simp

/-- What is made for the host alone, or for a domain. -/
structure MadeOf (R : List (List UInt8)) (h p : List UInt8) (sec script : Bool) (x : ItemL) : Prop where
  right : rightX x = true
  match_ : matchB h x.dom = true
  host : x.host = true → x.dom = h
  script : (x.http && script) = false
  suffix : pubN R x.dom = true → x.host = true

theorem body_made {R : List (List UInt8)} {said : Bool} {h p : List UInt8} {sec script : Bool} {q : List UInt8 × List UInt8} {f : FieldsL} {N : Int} (hr : rightU h p sec = true) (hq : Fine q) (q0 : q.1 ≠ []) (q1 : q.1.length ≤ 256) (q2 : q.2.length ≤ 1024) (hf : FineF f) (hN : 0 ≤ N ∧ N ≤ 1099511627776) (hc : clampA N = N)
    (hs : said = true → canonB f.dom = true ∧ matchB h f.dom = true ∧ pubN R f.dom = false) (he : (makeBody said h p script q f N).2 = 0) : MadeOf R h p sec script (makeBody said h p script q f N).1 := by
  unfold makeBody at he ⊢
  have hch : canonB h = true := by
    unfold rightU at hr
    rw [Bool.and_eq_true] at hr
    exact hr.1
  have hpath : (if f.hpath = true then f.path else defaultL p) ≠ [] ∧ (if f.hpath = true then f.path else defaultL p).getD 0 0 = 47 := by
    split
    · rename_i hh; exact hf.path hh
    · have := default_head p
      exact ⟨fun e => by rw [e] at this; simp at this, this.1⟩
  generalize (if f.hpath = true then f.path else defaultL p) = pa at *
  by_cases h1 : 256 < pa.length
  · rw [if_pos h1] at he
    cases he
  · rw [if_neg h1] at he ⊢
    by_cases h2 : f.http = true ∧ script = true
    · rw [if_pos h2] at he
      cases he
    · rw [if_neg h2] at he ⊢
      have hx := expiry_range hf hN hc
      generalize expiryA f N = ex at *
      obtain ⟨e1, e2⟩ := ex
      dsimp only at *
      have hdom : canonB (if said = true then f.dom else h) = true := by
        split
        · rename_i hh; exact (hs hh).1
        · exact hch
      refine ⟨?_, ?_, ?_, ?_, ?_⟩
      · unfold rightX
        dsimp only
        have b1 : (q.1 == []) = false := beq_eq_false_iff_ne.2 q0
        have b2 : decide (256 < q.1.length) = false := decide_eq_false (by omega)
        have b3 := fine_plain hq.name hq.semi1 hq.ctl1
        have b4 : decide (q.1.findIdx (· == 61) < q.1.length) = false := decide_eq_false (by rw [find_none hq.eq1]; omega)
        have b5 : decide (1024 < q.2.length) = false := decide_eq_false (by omega)
        have b6 := fine_plain hq.value hq.semi2 hq.ctl2
        have c2 : (pa == []) = false := beq_eq_false_iff_ne.2 hpath.1
        have c3 : (pa.getD 0 0 == 47) = true := by rw [hpath.2]; rfl
        have c4 : decide (256 < pa.length) = false := decide_eq_false h1
        have d1 : decide (-1099511627776 ≤ e1) = true := decide_eq_true hx.1.1
        have d2 : decide (e1 ≤ 1099511627776) = true := decide_eq_true hx.1.2
        have d3 : decide (0 ≤ N) = true := decide_eq_true hN.1
        have d4 : decide (N ≤ 1099511627776) = true := decide_eq_true hN.2
        have d5 : (e2 || e1 == 1099511627776) = true := by
          cases e2 with
          | true => rfl
          | false => rw [hx.2 rfl]; rfl
        rw [b1, b2, b3, b4, b5, b6, hdom, c2, c3, c4, d1, d2, d3, d4, d5]
        rfl
      · cases said with
        | true => exact (hs rfl).2.1
        | false =>
          rw [if_neg (by decide)]
          rw [match_refl]
          exact hch
      · intro hh
        cases said with
        | true => cases hh
        | false => rfl
      · rw [Bool.eq_false_iff]
        intro hh
        rw [Bool.and_eq_true] at hh
        exact h2 hh
      · intro hh
        cases said with
        | true =>
          rw [if_pos rfl, (hs rfl).2.2] at hh
          cases hh
        | false => rfl

/-- What is made of any header is right. -/
theorem make_made {R : List (List UInt8)} {h p : List UInt8} {sec script : Bool} {head : List UInt8} {now : Int} (he : (makeX R h p sec script head now).2 = 0) : MadeOf R h p sec script (makeX R h p sec script head now).1 := by
  unfold makeX at he ⊢
  split at he
  · cases he
  · rename_i h1
    rw [if_neg h1]
    split at he
    · cases he
    · rename_i h2
      rw [if_neg h2]
      split at he
      · rename_i h3
        exact absurd he h3
      · rename_i h3
        rw [if_neg h3]
        have hpz : (parseH head).2.2 = 0 := Decidable.not_not.1 h3
        obtain ⟨a, -, c, d, e⟩ := parse_fine hpz
        have hf := fine_read (parseH head).2.1
        have hN := clamp_range now
        have hcc := clamp_clamp now
        have hr : rightU h p sec = true := by
          cases hh : rightU h p sec with
          | true => rfl
          | false => exact absurd (.inr hh) h2
        generalize readA (parseH head).2.1 = f at *
        generalize clampA now = N at *
        have hb := fun (said : Bool) hs hz => body_made (R := R) (said := said) (script := script) hr a c d e hf hN hcc hs hz
        unfold makeOf at he ⊢
        split at he
        · rename_i k1
          rw [if_pos k1]
          exact hb false (fun hh => by cases hh) he
        · rename_i k1
          rw [if_neg k1]
          split at he
          · cases he
          · rename_i k2
            rw [if_neg k2]
            split at he
            · rename_i k3
              rw [if_pos k3]
              split at he
              · rename_i k4
                rw [if_pos k4]
                exact hb false (fun hh => by cases hh) he
              · cases he
            · rename_i k3
              rw [if_neg k3]
              split at he
              · cases he
              · rename_i k4
                rw [if_neg k4]
                exact hb true (fun _ => ⟨by simpa using k2, by simpa using k4, by simpa using k3⟩) he

/-- It goes with the request, if nothing that is said stands against it. -/
theorem made_fits {R : List (List UInt8)} {h p : List UInt8} {sec script : Bool} {x : ItemL} (m : MadeOf R h p sec script x) (now : Int) : fitsX x h p sec script now = !((x.sec && !sec) || (overX x now || !fitP p x.path)) := by
  unfold fitsX
  rw [m.script]
  have hd : (if x.host = true then h == x.dom else h == x.dom || matchB h x.dom) = true := by
    cases hh : x.host with
    | true => rw [if_pos rfl, m.host hh]; simp
    | false => rw [if_neg (by decide), m.match_]; simp
  rw [hd, Bool.and_true]
  cases overX x now <;> cases (x.sec && !sec) <;> rfl

theorem make_err {R : List (List UInt8)} {h p : List UInt8} {sec script : Bool} {head : List UInt8} {now : Int} (he : (makeX R h p sec script head now).2 ≠ 0) : (makeX R h p sec script head now).1 = ItemL.none := by
  have hb : ∀ said q f N, (makeBody said h p script q f N).2 ≠ 0 → (makeBody said h p script q f N).1 = ItemL.none := by
    intro said q f N hh
    unfold makeBody at hh ⊢
    generalize (if f.hpath = true then f.path else defaultL p) = pa at *
    by_cases k1 : 256 < pa.length
    · rw [if_pos k1]
    · rw [if_neg k1] at hh ⊢
      by_cases k2 : f.http = true ∧ script = true
      · rw [if_pos k2]
      · rw [if_neg k2] at hh
        exact absurd rfl hh
  unfold makeX at he ⊢
  split
  · rfl
  · rename_i h1
    rw [if_neg h1] at he
    split
    · rfl
    · rename_i h2
      rw [if_neg h2] at he
      split
      · rfl
      · rename_i h3
        rw [if_neg h3] at he
        unfold makeOf at he ⊢
        (repeat' split at he) <;> (repeat' split) <;> first | rfl | exact hb _ _ _ _ he | contradiction
end Go.Proofs.YthefieemngmnjaaGreatDoor

/- How a cookie with its key, and what came with a request, are opened as arguments. -/
namespace Go.Proofs.YthefieemngmnjaaGreatDoor
open Go.ChangeShapes Go.WideShapes Go.ChangeAt Go.RowKit
set_option linter.unusedVariables false

set_option maxRecDepth 100000 in
theorem open_item {H : Type} {enc : TypeId × Value → H} {w : World} {r : Reach} {b0 : Nat} {v : Value} {d : DataW H} {p : List MemPlace} (hv : Value.okWide Tryz.prog w r b0 34 v) (h : DataW.Trod enc Tryz.prog w 0 (fun _ => true) true 34 v d p) :
    ∃ (nm : List UInt8) (dm : List UInt8) (pa : List UInt8) (va : List UInt8) (ho : Bool) (se : Bool) (ht : Bool) (pe : Bool) (ex : Int) (cr : Int) (ac : Int), v = .agg #[.string (str nm), .string (str dm), .string (str pa), .string (str va), .bool ho, .bool se, .bool ht, .bool pe, .int .i64 ex, .int .i64 cr, .int .i64 ac] ∧ (str nm).size ≤ maxLen ∧ (str dm).size ≤ maxLen ∧ (str pa).size ≤ maxLen ∧ (str va).size ≤ maxLen := by
  obtain ⟨cs, rfl, hl⟩ := open_flat 4 [.text, .text, .text, .text, .flag, .flag, .flag, .flag, .num .i64, .num .i64, .num .i64] Tryz.underlying34 (by kernel_rfl) hv h
  obtain ⟨l⟩ := cs
  have q0 : leavesOk [.text, .text, .text, .text, .flag, .flag, .flag, .flag, .num .i64, .num .i64, .num .i64] l := hl
  clear hl
  obtain ⟨v0, l0, e0, ⟨nm, rfl, z0⟩, q1⟩ := leaves_cons q0
  obtain ⟨v1, l1, e1, ⟨dm, rfl, z1⟩, q2⟩ := leaves_cons q1
  obtain ⟨v2, l2, e2, ⟨pa, rfl, z2⟩, q3⟩ := leaves_cons q2
  obtain ⟨v3, l3, e3, ⟨va, rfl, z3⟩, q4⟩ := leaves_cons q3
  obtain ⟨v4, l4, e4, ⟨ho, rfl⟩, q5⟩ := leaves_cons q4
  obtain ⟨v5, l5, e5, ⟨se, rfl⟩, q6⟩ := leaves_cons q5
  obtain ⟨v6, l6, e6, ⟨ht, rfl⟩, q7⟩ := leaves_cons q6
  obtain ⟨v7, l7, e7, ⟨pe, rfl⟩, q8⟩ := leaves_cons q7
  obtain ⟨v8, l8, e8, ⟨ex, rfl, -⟩, q9⟩ := leaves_cons q8
  obtain ⟨v9, l9, e9, ⟨cr, rfl, -⟩, q10⟩ := leaves_cons q9
  obtain ⟨v10, l10, e10, ⟨ac, rfl, -⟩, q11⟩ := leaves_cons q10
  have e11 := leaves_nil q11
  subst e11 e10 e9 e8 e7 e6 e5 e4 e3 e2 e1 e0
  exact ⟨nm, dm, pa, va, ho, se, ht, pe, ex, cr, ac, rfl, by rw [str_size]; exact z0, by rw [str_size]; exact z1, by rw [str_size]; exact z2, by rw [str_size]; exact z3⟩

set_option maxRecDepth 100000 in
theorem open_came {H : Type} {enc : TypeId × Value → H} {w : World} {r : Reach} {b0 : Nat} {v : Value} {d : DataW H} {p : List MemPlace} (hv : Value.okWide Tryz.prog w r b0 26 v) (h : DataW.Trod enc Tryz.prog w 0 (fun _ => true) true 26 v d p) :
    ∃ (ho : List UInt8) (pa : List UInt8) (se : Bool) (sc : Bool) (he : List UInt8) (no : Int), v = .agg #[.string (str ho), .string (str pa), .bool se, .bool sc, .string (str he), .int .i64 no] ∧ (str ho).size ≤ maxLen ∧ (str pa).size ≤ maxLen ∧ (str he).size ≤ maxLen := by
  obtain ⟨cs, rfl, hl⟩ := open_flat 4 [.text, .text, .flag, .flag, .text, .num .i64] Tryz.underlying26 (by kernel_rfl) hv h
  obtain ⟨l⟩ := cs
  have q0 : leavesOk [.text, .text, .flag, .flag, .text, .num .i64] l := hl
  clear hl
  obtain ⟨v0, l0, e0, ⟨ho, rfl, z0⟩, q1⟩ := leaves_cons q0
  obtain ⟨v1, l1, e1, ⟨pa, rfl, z1⟩, q2⟩ := leaves_cons q1
  obtain ⟨v2, l2, e2, ⟨se, rfl⟩, q3⟩ := leaves_cons q2
  obtain ⟨v3, l3, e3, ⟨sc, rfl⟩, q4⟩ := leaves_cons q3
  obtain ⟨v4, l4, e4, ⟨he, rfl, z4⟩, q5⟩ := leaves_cons q4
  obtain ⟨v5, l5, e5, ⟨no, rfl, -⟩, q6⟩ := leaves_cons q5
  have e6 := leaves_nil q6
  subst e6 e5 e4 e3 e2 e1 e0
  exact ⟨ho, pa, se, sc, he, no, rfl, by rw [str_size]; exact z0, by rw [str_size]; exact z1, by rw [str_size]; exact z4⟩
end Go.Proofs.YthefieemngmnjaaGreatDoor
