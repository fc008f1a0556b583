/- Contracts and plain words that the laws' proofs stand on, put together. -/
import Derived.Test.YthefieemngmnjaaGreatDoorLibAE
import Derived.Test.YthefieemngmnjaaGreatDoorLibAF
import Derived.Test.YthefieemngmnjaaGreatDoorLibAC
import Derived.Test.YthefieemngmnjaaGreatDoorLibAA
import Derived.Test.YthefieemngmnjaaGreatDoorDateParse
/- What attributes say, in plain words. No program in it. -/
namespace Go.Proofs.YthefieemngmnjaaGreatDoor
set_option linter.unusedVariables false

/-- What attributes say. -/
structure FieldsL where
  hexp : Bool
  hage : Bool
  hdom : Bool
  hpath : Bool
  exp : Int
  age : Int
  dom : List UInt8
  path : List UInt8
  sec : Bool
  http : Bool

def FieldsL.none : FieldsL := ⟨false, false, false, false, 0, 0, [], [], false, false⟩

def nExpires : List UInt8 := [101, 120, 112, 105, 114, 101, 115]
def nAge : List UInt8 := [109, 97, 120, 45, 97, 103, 101]
def nDomain : List UInt8 := [100, 111, 109, 97, 105, 110]
def nPath : List UInt8 := [112, 97, 116, 104]
def nSecure : List UInt8 := [115, 101, 99, 117, 114, 101]
def nHttp : List UInt8 := [104, 116, 116, 112, 111, 110, 108, 121]

def domL (v : List UInt8) : List UInt8 := if (v.getD 0 0 == 46) = true then (v.map low).drop 1 else v.map low
def pathB (v : List UInt8) : Bool := !(v == []) && (v.getD 0 0 == 47)

/-- What one attribute of a name (made small) and a value says. -/
def sayA (f : FieldsL) (nm v : List UInt8) : FieldsL :=
  if nm = nExpires then (if (parseL v).2 = true then { f with hexp := true, exp := (parseL v).1 } else f)
  else if nm = nAge then (if (numL v).2 = true then { f with hage := true, age := (numL v).1 } else f)
  else if nm = nDomain then (if v = [] then f else { f with hdom := true, dom := domL v })
  else if nm = nPath then { f with hpath := pathB v, path := if pathB v = true then v else [] }
  else if nm = nSecure then { f with sec := true }
  else if nm = nHttp then { f with http := true }
  else f

def stepA (f : FieldsL) (x : List UInt8 × List UInt8) : FieldsL := sayA f (x.1.map low) x.2
def readA (L : List (List UInt8 × List UInt8)) : FieldsL := L.foldl stepA FieldsL.none

theorem readA_take {L : List (List UInt8 × List UInt8)} {k : Nat} {x : List UInt8 × List UInt8} (h : L[k]? = some x) : readA (L.take (k + 1)) = stepA (readA (L.take k)) x := by
  obtain ⟨hk, rfl⟩ := List.getElem?_eq_some_iff.1 h
  unfold readA
  rw [List.take_succ_eq_append_getElem hk, List.foldl_append]
  rfl

/-- A time, between 0 and the last one. -/
def clampA (now : Int) : Int := if now < 0 then 0 else if 1099511627776 < now then 1099511627776 else now

/-- When what is said ends. -/
def expiryA (f : FieldsL) (now : Int) : Int × Bool :=
  if f.hage = true then (if f.age ≤ 0 then (-1099511627776, true) else if 1099511627776 - clampA now < f.age then (1099511627776, true) else (clampA now + f.age, true))
  else if f.hexp = true then (f.exp, true) else (1099511627776, false)
end Go.Proofs.YthefieemngmnjaaGreatDoor

/- What attributes say, as a value. -/
namespace Go.Proofs.YthefieemngmnjaaGreatDoor
open Go.RowKit
set_option linter.unusedVariables false

def encF (f : FieldsL) : List Value := [.bool f.hexp, .bool f.hage, .bool f.hdom, .bool f.hpath, .int .i64 f.exp, .int .i64 f.age, .string (str f.dom), .string (str f.path), .bool f.sec, .bool f.http]
def valF (f : FieldsL) : Value := .agg #[.bool f.hexp, .bool f.hage, .bool f.hdom, .bool f.hpath, .int .i64 f.exp, .int .i64 f.age, .string (str f.dom), .string (str f.path), .bool f.sec, .bool f.http]

end Go.Proofs.YthefieemngmnjaaGreatDoor

/- Contracts of layer 13: what puts into fields what an attribute says. -/
namespace Go.Proofs.YthefieemngmnjaaGreatDoor
open Go.RowKit
set_option linter.unusedVariables false

/-- The text without one point in front. -/
def undot (l : List UInt8) : List UInt8 := if (l.getD 0 0 == 46) = true then l.drop 1 else l
theorem undot_low (l : List UInt8) : (undot l).map low = domL l := by
  unfold undot domL
  cases (l.getD 0 0 == 46) with
  | true => rw [if_pos rfl, if_pos rfl, List.map_drop]
  | false => rw [if_neg (by decide), if_neg (by decide)]
theorem undot_le (l : List UInt8) : (undot l).length ≤ l.length := by
  unfold undot
  split
  · rw [List.length_drop]; omega
  · exact Nat.le_refl _
theorem undot_is (l : List UInt8) : Lib.trimPrefix l [46] = undot l := by
  cases l with
  | nil => rfl
  | cons x xs =>
    by_cases h : x = 46
    · subst h; rfl
    · have e2 : (x == (46 : UInt8)) = false := beq_eq_false_iff_ne.2 h
      simp [Lib.trimPrefix, Lib.hasPrefix, undot, e2]
      exact fun c => h c.symm
theorem attrDotC (l : List UInt8) (w : World) :
    Calls Tryz.prog 91 #[.string (str l), .string ⟨#[46]⟩] w fun e w' => e = .returned (.string (str (undot l))) ∧ w = w' := by
  refine (Tryz.strings_TrimPrefix (str l) ⟨#[46]⟩ w).mono ?_
  rintro e w' ⟨rfl, rfl⟩
  rw [str_data, ← undot_is]
  exact ⟨rfl, rfl⟩
theorem path_head (l : List UInt8) : Lib.hasPrefix l [47] = pathB l := by
  cases l with
  | nil => rfl
  | cons x t =>
    show ((47 : UInt8) == x && true) = (!((x :: t) == []) && (x == 47))
    rw [Bool.and_true, show ((x :: t) == []) = false from rfl, Bool.not_false, Bool.true_and, Bool.eq_iff_iff, beq_iff_eq, beq_iff_eq]
    exact eq_comm
theorem attrSlashC (l : List UInt8) (w : World) :
    Calls Tryz.prog 44 #[.string (str l), .string ⟨#[47]⟩] w fun e w' => e = .returned (.bool (pathB l)) ∧ w = w' := by
  refine (Tryz.strings_HasPrefix (str l) ⟨#[47]⟩ w).mono ?_
  rintro e w' ⟨rfl, rfl⟩
  rw [str_data, ← path_head]
  exact ⟨rfl, rfl⟩

/-- What a closure leaves that puts into the block B. -/
def PutIs (B : Nat) (vs : List Value) (w : World) (e : Ending) (w' : World) : Prop := e = .returned (.tuple #[]) ∧ ObjAt w' B vs ∧ Kept B none w w'

theorem putExpC (B : Nat) (f : FieldsL) (b : Nat) (n : Int) (w : World) (h : ObjAt w B (encF f)) (hb : b ≠ B) (hc : w.cell? ⟨b, 0, none⟩ = some (.int .i64 n)) :
    Calls Tryz.prog 88 #[.pointer (some ⟨B, 0, none⟩), .pointer (some ⟨b, 0, none⟩)] w (PutIs B (((encF f).set 0 (.bool true)).set 4 (.int .i64 n)) w) := by
  have o := ((h.set 0 (.bool true)).set 4 (.int .i64 n))
  have hk := (((Kept.refl B none w).setCell 0 (.bool true)).setCell 4 (.int .i64 n))
  have c0 := h.cell 0 rfl
  have f0 := h.free 0
  have c4 := h.cell 4 rfl
  have f4 := h.free 4
  go_enter Tryz.func88, Tryz.ntmps88
  go_wp2
  go_region
  go_wp2
  go_end0
  exact ⟨rfl, o.drew, hk.trans (Near.refl _ _) (Kept.of (below_drew _ _))⟩

theorem putAgeC (B : Nat) (f : FieldsL) (b : Nat) (n : Int) (w : World) (h : ObjAt w B (encF f)) (hb : b ≠ B) (hc : w.cell? ⟨b, 0, none⟩ = some (.int .i64 n)) :
    Calls Tryz.prog 90 #[.pointer (some ⟨B, 0, none⟩), .pointer (some ⟨b, 0, none⟩)] w (PutIs B (((encF f).set 1 (.bool true)).set 5 (.int .i64 n)) w) := by
  have o := ((h.set 1 (.bool true)).set 5 (.int .i64 n))
  have hk := (((Kept.refl B none w).setCell 1 (.bool true)).setCell 5 (.int .i64 n))
  have c1 := h.cell 1 rfl
  have f1 := h.free 1
  have c5 := h.cell 5 rfl
  have f5 := h.free 5
  go_enter Tryz.func90, Tryz.ntmps90
  go_wp2
  go_region
  go_wp2
  go_end0
  exact ⟨rfl, o.drew, hk.trans (Near.refl _ _) (Kept.of (below_drew _ _))⟩

theorem putDomC (B : Nat) (f : FieldsL) (b : Nat) (l : List UInt8) (w : World) (h : ObjAt w B (encF f)) (hb : b ≠ B) (hc : w.cell? ⟨b, 0, none⟩ = some (.string (str l))) :
    Calls Tryz.prog 92 #[.pointer (some ⟨B, 0, none⟩), .pointer (some ⟨b, 0, none⟩)] w (PutIs B (((encF f).set 2 (.bool true)).set 6 (.string (str l))) w) := by
  have o := ((h.set 2 (.bool true)).set 6 (.string (str l)))
  have hk := (((Kept.refl B none w).setCell 2 (.bool true)).setCell 6 (.string (str l)))
  have c2 := h.cell 2 rfl
  have f2 := h.free 2
  have c6 := h.cell 6 rfl
  have f6 := h.free 6
  go_enter Tryz.func92, Tryz.ntmps92
  go_wp2
  go_region
  go_wp2
  go_end0
  exact ⟨rfl, o.drew, hk.trans (Near.refl _ _) (Kept.of (below_drew _ _))⟩

theorem putPathC (B : Nat) (f : FieldsL) (b : Nat) (l : List UInt8) (w : World) (h : ObjAt w B (encF f)) (hb : b ≠ B) (hc : w.cell? ⟨b, 1, none⟩ = some (.string (str l))) :
    Calls Tryz.prog 93 #[.pointer (some ⟨B, 0, none⟩), .pointer (some ⟨b, 0, none⟩)] w (PutIs B (((encF f).set 3 (.bool true)).set 7 (.string (str l))) w) := by
  have o := ((h.set 3 (.bool true)).set 7 (.string (str l)))
  have hk := (((Kept.refl B none w).setCell 3 (.bool true)).setCell 7 (.string (str l)))
  have c3 := h.cell 3 rfl
  have f3 := h.free 3
  have c7 := h.cell 7 rfl
  have f7 := h.free 7
  go_enter Tryz.func93, Tryz.ntmps93
  go_wp2
  go_region
  go_wp2
  go_end0
  exact ⟨rfl, o.drew, hk.trans (Near.refl _ _) (Kept.of (below_drew _ _))⟩

theorem putNoPathC (B : Nat) (f : FieldsL) (w : World) (h : ObjAt w B (encF f)) :
    Calls Tryz.prog 94 #[.pointer (some ⟨B, 0, none⟩)] w (PutIs B (((encF f).set 3 (.bool false)).set 7 (.string ⟨#[]⟩)) w) := by
  have o := ((h.set 3 (.bool false)).set 7 (.string ⟨#[]⟩))
  have hk := (((Kept.refl B none w).setCell 3 (.bool false)).setCell 7 (.string ⟨#[]⟩))
  have c3 := h.cell 3 rfl
  have f3 := h.free 3
  have c7 := h.cell 7 rfl
  have f7 := h.free 7
  go_enter Tryz.func94, Tryz.ntmps94
  go_wp2
  go_end0
  exact ⟨rfl, o, hk⟩

theorem putSecC (B : Nat) (f : FieldsL) (w : World) (h : ObjAt w B (encF f)) :
    Calls Tryz.prog 95 #[.pointer (some ⟨B, 0, none⟩)] w (PutIs B ((encF f).set 8 (.bool true)) w) := by
  have o := (h.set 8 (.bool true))
  have hk := ((Kept.refl B none w).setCell 8 (.bool true))
  have c8 := h.cell 8 rfl
  have f8 := h.free 8
  go_enter Tryz.func95, Tryz.ntmps95
  go_wp2
  go_end0
  exact ⟨rfl, o, hk⟩

theorem putHttpC (B : Nat) (f : FieldsL) (w : World) (h : ObjAt w B (encF f)) :
    Calls Tryz.prog 96 #[.pointer (some ⟨B, 0, none⟩)] w (PutIs B ((encF f).set 9 (.bool true)) w) := by
  have o := (h.set 9 (.bool true))
  have hk := ((Kept.refl B none w).setCell 9 (.bool true))
  have c9 := h.cell 9 rfl
  have f9 := h.free 9
  go_enter Tryz.func96, Tryz.ntmps96
  go_wp2
  go_end0
  exact ⟨rfl, o, hk⟩

theorem putNoneC (B : Nat) (f : FieldsL) (w : World) (h : ObjAt w B (encF f)) :
    Calls Tryz.prog 97 #[.pointer (some ⟨B, 0, none⟩)] w (PutIs B (encF f) w) := by
  have o := h
  have hk := (Kept.refl B none w)
  go_enter Tryz.func97, Tryz.ntmps97
  go_wp2
  go_end0
  exact ⟨rfl, o, hk⟩

end Go.Proofs.YthefieemngmnjaaGreatDoor

/- Contracts of layer 13: which closure puts what an attribute says. -/
namespace Go.Proofs.YthefieemngmnjaaGreatDoor
open Go.RowKit
set_option linter.unusedVariables false

theorem saidExpC (x1 x2 : List UInt8) (n : Int) (hp : parseL x2 = (n, true)) (w : World) (hs1 : x1.length ≤ 100000) (hs2 : x2.length ≤ 100000) (hy : x1.map low = nExpires) (hT : DTab w) :
    Calls Tryz.prog 51 #[.agg #[.string (str x1), .string (str x2)]] w fun e w' => (∃ b, e = .returned (.func (.func 88) #[] #[.pointer (some ⟨b, 0, none⟩)]) ∧ w.heap.size ≤ b ∧ b < w'.heap.size ∧ w'.cell? ⟨b, 0, none⟩ = some (.int .i64 n)) ∧ Below w.heap.size w w' := by
  have HX := fun w => lowerC x1 x1.length w rfl (by unfold maxLen; omega)
  have HD := fun w hT => parseC x2 x2.length w rfl (by omega) hT
  rw [hp] at HD
  simp only [if_true] at HD
  unfold GivesStr at HX
  rw [hy] at HX
  unfold nExpires at HX
  clear hy
  have hk := str_toList
  have hb := below_alloc w (.cells #[.string (str x1), .string (str x2)] 47)
  have o := ObjAt.new w #[.string (str x1), .string (str x2)] 47
  have c0 := o.cell 0 rfl
  have c1 := o.cell 1 rfl
  go_enter Tryz.func51, Tryz.ntmps51
  go_wp2_with (first
    | (go_at_call 77; (with_reducible refine (HX _).mono ?_); rintro e w2 ⟨rfl, hx⟩; have o := o.below hx o.lt; have hb := hb.trans (hx.mono hb.size); clear hx; have c0 := o.cell 0 rfl; have c1 := o.cell 1 rfl)
    | (go_at_call 87; (with_reducible refine (HD _ (hT.below hb)).mono ?_); rintro e w3 ⟨rfl, hx⟩; have o := o.below hx o.lt; have hb := hb.trans (hx.mono hb.size); clear hx; have c0 := o.cell 0 rfl; have c1 := o.cell 1 rfl))
  go_ret
  exact ⟨⟨_, rfl, hb.size, by simp, (ObjAt.new _ #[.int .i64 n] 3).cell 0 rfl⟩, hb.alloc hb.size _⟩

theorem saidExpNoC (x1 x2 : List UInt8) (n : Int) (hp : parseL x2 = (n, false)) (w : World) (hs1 : x1.length ≤ 100000) (hs2 : x2.length ≤ 100000) (hy : x1.map low = nExpires) (hT : DTab w) :
    Calls Tryz.prog 51 #[.agg #[.string (str x1), .string (str x2)]] w fun e w' => e = .returned (.func (.func 97) #[] #[]) ∧ Below w.heap.size w w' := by
  have HX := fun w => lowerC x1 x1.length w rfl (by unfold maxLen; omega)
  have HD := fun w hT => parseC x2 x2.length w rfl (by omega) hT
  rw [hp] at HD
  simp only [Bool.false_eq_true, if_false] at HD
  unfold GivesStr at HX
  rw [hy] at HX
  unfold nExpires at HX
  clear hy
  have hk := str_toList
  have hb := below_alloc w (.cells #[.string (str x1), .string (str x2)] 47)
  have o := ObjAt.new w #[.string (str x1), .string (str x2)] 47
  have c0 := o.cell 0 rfl
  have c1 := o.cell 1 rfl
  go_enter Tryz.func51, Tryz.ntmps51
  go_wp2_with (first
    | (go_at_call 77; (with_reducible refine (HX _).mono ?_); rintro e w2 ⟨rfl, hx⟩; have o := o.below hx o.lt; have hb := hb.trans (hx.mono hb.size); clear hx; have c0 := o.cell 0 rfl; have c1 := o.cell 1 rfl)
    | (go_at_call 87; (with_reducible refine (HD _ (hT.below hb)).mono ?_); rintro e w3 ⟨rfl, hx⟩; have o := o.below hx o.lt; have hb := hb.trans (hx.mono hb.size); clear hx; have c0 := o.cell 0 rfl; have c1 := o.cell 1 rfl))
  go_ret
  exact ⟨rfl, hb.alloc hb.size _⟩

theorem saidAgeC (x1 x2 : List UInt8) (n : Int) (hp : numL x2 = (n, true)) (w : World) (hs1 : x1.length ≤ 100000) (hs2 : x2.length ≤ 100000) (h0 : x1.map low ≠ nExpires) (hy : x1.map low = nAge) (hT : DTab w) :
    Calls Tryz.prog 51 #[.agg #[.string (str x1), .string (str x2)]] w fun e w' => (∃ b, e = .returned (.func (.func 90) #[] #[.pointer (some ⟨b, 0, none⟩)]) ∧ w.heap.size ≤ b ∧ b < w'.heap.size ∧ w'.cell? ⟨b, 0, none⟩ = some (.int .i64 n)) ∧ Below w.heap.size w w' := by
  have e0 : (x1.map low == [101, 120, 112, 105, 114, 101, 115]) = false := beq_eq_false_iff_ne.2 h0
  clear h0
  have HX := fun w => lowerC x1 x1.length w rfl (by unfold maxLen; omega)
  have HN := fun w => numberC x2 x2.length w rfl (by unfold maxLen; omega)
  rw [hp] at HN
  unfold GivesStr at HX
  rw [hy] at HX
  unfold nAge at HX
  clear hy
  have hk := str_toList
  have hb := below_alloc w (.cells #[.string (str x1), .string (str x2)] 47)
  have o := ObjAt.new w #[.string (str x1), .string (str x2)] 47
  have c0 := o.cell 0 rfl
  have c1 := o.cell 1 rfl
  go_enter Tryz.func51, Tryz.ntmps51
  go_wp2_with (first
    | (go_at_call 77; (with_reducible refine (HX _).mono ?_); rintro e w2 ⟨rfl, hx⟩; have o := o.below hx o.lt; have hb := hb.trans (hx.mono hb.size); clear hx; have c0 := o.cell 0 rfl; have c1 := o.cell 1 rfl)
    | (go_at_call 89; (with_reducible refine (HN _).mono ?_); rintro e w3 ⟨rfl, rfl⟩))
  go_ret
  exact ⟨⟨_, rfl, hb.size, by simp, (ObjAt.new _ #[.int .i64 n] 3).cell 0 rfl⟩, hb.alloc hb.size _⟩

theorem saidAgeNoC (x1 x2 : List UInt8) (n : Int) (hp : numL x2 = (n, false)) (w : World) (hs1 : x1.length ≤ 100000) (hs2 : x2.length ≤ 100000) (h0 : x1.map low ≠ nExpires) (hy : x1.map low = nAge) (hT : DTab w) :
    Calls Tryz.prog 51 #[.agg #[.string (str x1), .string (str x2)]] w fun e w' => e = .returned (.func (.func 97) #[] #[]) ∧ Below w.heap.size w w' := by
  have e0 : (x1.map low == [101, 120, 112, 105, 114, 101, 115]) = false := beq_eq_false_iff_ne.2 h0
  clear h0
  have HX := fun w => lowerC x1 x1.length w rfl (by unfold maxLen; omega)
  have HN := fun w => numberC x2 x2.length w rfl (by unfold maxLen; omega)
  rw [hp] at HN
  unfold GivesStr at HX
  rw [hy] at HX
  unfold nAge at HX
  clear hy
  have hk := str_toList
  have hb := below_alloc w (.cells #[.string (str x1), .string (str x2)] 47)
  have o := ObjAt.new w #[.string (str x1), .string (str x2)] 47
  have c0 := o.cell 0 rfl
  have c1 := o.cell 1 rfl
  go_enter Tryz.func51, Tryz.ntmps51
  go_wp2_with (first
    | (go_at_call 77; (with_reducible refine (HX _).mono ?_); rintro e w2 ⟨rfl, hx⟩; have o := o.below hx o.lt; have hb := hb.trans (hx.mono hb.size); clear hx; have c0 := o.cell 0 rfl; have c1 := o.cell 1 rfl)
    | (go_at_call 89; (with_reducible refine (HN _).mono ?_); rintro e w3 ⟨rfl, rfl⟩))
  go_ret
  exact ⟨rfl, hb.alloc hb.size _⟩

theorem saidDomC (x1 x2 : List UInt8) (hne : x2 ≠ []) (w : World) (hs1 : x1.length ≤ 100000) (hs2 : x2.length ≤ 100000) (h0 : x1.map low ≠ nExpires) (h1 : x1.map low ≠ nAge) (hy : x1.map low = nDomain) (hT : DTab w) :
    Calls Tryz.prog 51 #[.agg #[.string (str x1), .string (str x2)]] w fun e w' => (∃ b, e = .returned (.func (.func 92) #[] #[.pointer (some ⟨b, 0, none⟩)]) ∧ w.heap.size ≤ b ∧ b < w'.heap.size ∧ w'.cell? ⟨b, 0, none⟩ = some (.string (str (domL x2)))) ∧ Below w.heap.size w w' := by
  have e0 : (x1.map low == [101, 120, 112, 105, 114, 101, 115]) = false := beq_eq_false_iff_ne.2 h0
  have e1 : (x1.map low == [109, 97, 120, 45, 97, 103, 101]) = false := beq_eq_false_iff_ne.2 h1
  clear h0 h1
  have HX := fun w => lowerC x1 x1.length w rfl (by unfold maxLen; omega)
  have HP := fun w => attrDotC x2 w
  have HV := fun w => lowerC (undot x2) (undot x2).length w rfl (by have := undot_le x2; unfold maxLen; omega)
  rw [undot_low] at HV
  unfold GivesStr at HV
  have hve : (x2 == []) = false := beq_eq_false_iff_ne.2 hne
  generalize domL x2 = z at *
  unfold GivesStr at HX
  rw [hy] at HX
  unfold nDomain at HX
  clear hy
  have hk := str_toList
  have hb := below_alloc w (.cells #[.string (str x1), .string (str x2)] 47)
  have o := ObjAt.new w #[.string (str x1), .string (str x2)] 47
  have c0 := o.cell 0 rfl
  have c1 := o.cell 1 rfl
  go_enter Tryz.func51, Tryz.ntmps51
  go_wp2_with (first
    | (go_at_call 77; (with_reducible refine (HX _).mono ?_); rintro e w2 ⟨rfl, hx⟩; have o := o.below hx o.lt; have hb := hb.trans (hx.mono hb.size); clear hx; have c0 := o.cell 0 rfl; have c1 := o.cell 1 rfl)
    | (go_at_call 91; (with_reducible refine (HP _).mono ?_); rintro e w3 ⟨rfl, rfl⟩)
    | (go_at_call 77; (with_reducible refine (HV _).mono ?_); rintro e w4 ⟨rfl, hx⟩; have o := o.below hx o.lt; have hb := hb.trans (hx.mono hb.size); clear hx; have c0 := o.cell 0 rfl; have c1 := o.cell 1 rfl))
  go_ret
  exact ⟨⟨_, rfl, hb.size, by simp, (ObjAt.new _ #[.string (str z)] 9).cell 0 rfl⟩, hb.alloc hb.size _⟩

theorem saidDomNoC (x1 : List UInt8) (w : World) (hs1 : x1.length ≤ 100000) (h0 : x1.map low ≠ nExpires) (h1 : x1.map low ≠ nAge) (hy : x1.map low = nDomain) (hT : DTab w) :
    Calls Tryz.prog 51 #[.agg #[.string (str x1), .string (str [])]] w fun e w' => e = .returned (.func (.func 97) #[] #[]) ∧ Below w.heap.size w w' := by
  have e0 : (x1.map low == [101, 120, 112, 105, 114, 101, 115]) = false := beq_eq_false_iff_ne.2 h0
  have e1 : (x1.map low == [109, 97, 120, 45, 97, 103, 101]) = false := beq_eq_false_iff_ne.2 h1
  clear h0 h1
  have HX := fun w => lowerC x1 x1.length w rfl (by unfold maxLen; omega)
  unfold GivesStr at HX
  rw [hy] at HX
  unfold nDomain at HX
  clear hy
  rw [show (str [] : ByteArray) = ⟨#[]⟩ from rfl]
  have hk := str_toList
  have hb := below_alloc w (.cells #[.string (str x1), .string ⟨#[]⟩] 47)
  have o := ObjAt.new w #[.string (str x1), .string ⟨#[]⟩] 47
  have c0 := o.cell 0 rfl
  have c1 := o.cell 1 rfl
  go_enter Tryz.func51, Tryz.ntmps51
  go_wp2_with (first
    | (go_at_call 77; (with_reducible refine (HX _).mono ?_); rintro e w2 ⟨rfl, hx⟩; have o := o.below hx o.lt; have hb := hb.trans (hx.mono hb.size); clear hx; have c0 := o.cell 0 rfl; have c1 := o.cell 1 rfl))
  go_ret
  exact ⟨rfl, hb⟩

theorem saidPathC (x1 x2 : List UInt8) (hp : pathB x2 = true) (w : World) (hs1 : x1.length ≤ 100000) (hs2 : x2.length ≤ 100000) (h0 : x1.map low ≠ nExpires) (h1 : x1.map low ≠ nAge) (h2 : x1.map low ≠ nDomain) (hy : x1.map low = nPath) (hT : DTab w) :
    Calls Tryz.prog 51 #[.agg #[.string (str x1), .string (str x2)]] w fun e w' => (∃ b, e = .returned (.func (.func 93) #[] #[.pointer (some ⟨b, 0, none⟩)]) ∧ w.heap.size ≤ b ∧ b < w'.heap.size ∧ w'.cell? ⟨b, 1, none⟩ = some (.string (str x2))) ∧ Below w.heap.size w w' := by
  have e0 : (x1.map low == [101, 120, 112, 105, 114, 101, 115]) = false := beq_eq_false_iff_ne.2 h0
  have e1 : (x1.map low == [109, 97, 120, 45, 97, 103, 101]) = false := beq_eq_false_iff_ne.2 h1
  have e2 : (x1.map low == [100, 111, 109, 97, 105, 110]) = false := beq_eq_false_iff_ne.2 h2
  clear h0 h1 h2
  have HX := fun w => lowerC x1 x1.length w rfl (by unfold maxLen; omega)
  have HH := fun w => attrSlashC x2 w
  rw [hp] at HH
  unfold GivesStr at HX
  rw [hy] at HX
  unfold nPath at HX
  clear hy
  have hk := str_toList
  have hb := below_alloc w (.cells #[.string (str x1), .string (str x2)] 47)
  have o := ObjAt.new w #[.string (str x1), .string (str x2)] 47
  have c0 := o.cell 0 rfl
  have c1 := o.cell 1 rfl
  go_enter Tryz.func51, Tryz.ntmps51
  go_wp2_with (first
    | (go_at_call 77; (with_reducible refine (HX _).mono ?_); rintro e w2 ⟨rfl, hx⟩; have o := o.below hx o.lt; have hb := hb.trans (hx.mono hb.size); clear hx; have c0 := o.cell 0 rfl; have c1 := o.cell 1 rfl)
    | (go_at_call 44; (with_reducible refine (HH _).mono ?_); rintro e w3 ⟨rfl, rfl⟩))
  go_ret
  exact ⟨⟨_, rfl, Nat.le_refl _, o.lt, c1⟩, hb⟩

theorem saidPathNoC (x1 x2 : List UInt8) (hp : pathB x2 = false) (w : World) (hs1 : x1.length ≤ 100000) (hs2 : x2.length ≤ 100000) (h0 : x1.map low ≠ nExpires) (h1 : x1.map low ≠ nAge) (h2 : x1.map low ≠ nDomain) (hy : x1.map low = nPath) (hT : DTab w) :
    Calls Tryz.prog 51 #[.agg #[.string (str x1), .string (str x2)]] w fun e w' => e = .returned (.func (.func 94) #[] #[]) ∧ Below w.heap.size w w' := by
  have e0 : (x1.map low == [101, 120, 112, 105, 114, 101, 115]) = false := beq_eq_false_iff_ne.2 h0
  have e1 : (x1.map low == [109, 97, 120, 45, 97, 103, 101]) = false := beq_eq_false_iff_ne.2 h1
  have e2 : (x1.map low == [100, 111, 109, 97, 105, 110]) = false := beq_eq_false_iff_ne.2 h2
  clear h0 h1 h2
  have HX := fun w => lowerC x1 x1.length w rfl (by unfold maxLen; omega)
  have HH := fun w => attrSlashC x2 w
  rw [hp] at HH
  unfold GivesStr at HX
  rw [hy] at HX
  unfold nPath at HX
  clear hy
  have hk := str_toList
  have hb := below_alloc w (.cells #[.string (str x1), .string (str x2)] 47)
  have o := ObjAt.new w #[.string (str x1), .string (str x2)] 47
  have c0 := o.cell 0 rfl
  have c1 := o.cell 1 rfl
  go_enter Tryz.func51, Tryz.ntmps51
  go_wp2_with (first
    | (go_at_call 77; (with_reducible refine (HX _).mono ?_); rintro e w2 ⟨rfl, hx⟩; have o := o.below hx o.lt; have hb := hb.trans (hx.mono hb.size); clear hx; have c0 := o.cell 0 rfl; have c1 := o.cell 1 rfl)
    | (go_at_call 44; (with_reducible refine (HH _).mono ?_); rintro e w3 ⟨rfl, rfl⟩))
  go_ret
  exact ⟨rfl, hb⟩

theorem saidSecC (x1 x2 : List UInt8) (w : World) (hs1 : x1.length ≤ 100000) (hs2 : x2.length ≤ 100000) (h0 : x1.map low ≠ nExpires) (h1 : x1.map low ≠ nAge) (h2 : x1.map low ≠ nDomain) (h3 : x1.map low ≠ nPath) (hy : x1.map low = nSecure) (hT : DTab w) :
    Calls Tryz.prog 51 #[.agg #[.string (str x1), .string (str x2)]] w fun e w' => e = .returned (.func (.func 95) #[] #[]) ∧ Below w.heap.size w w' := by
  have e0 : (x1.map low == [101, 120, 112, 105, 114, 101, 115]) = false := beq_eq_false_iff_ne.2 h0
  have e1 : (x1.map low == [109, 97, 120, 45, 97, 103, 101]) = false := beq_eq_false_iff_ne.2 h1
  have e2 : (x1.map low == [100, 111, 109, 97, 105, 110]) = false := beq_eq_false_iff_ne.2 h2
  have e3 : (x1.map low == [112, 97, 116, 104]) = false := beq_eq_false_iff_ne.2 h3
  clear h0 h1 h2 h3
  have HX := fun w => lowerC x1 x1.length w rfl (by unfold maxLen; omega)
  unfold GivesStr at HX
  rw [hy] at HX
  unfold nSecure at HX
  clear hy
  have hk := str_toList
  have hb := below_alloc w (.cells #[.string (str x1), .string (str x2)] 47)
  have o := ObjAt.new w #[.string (str x1), .string (str x2)] 47
  have c0 := o.cell 0 rfl
  have c1 := o.cell 1 rfl
  go_enter Tryz.func51, Tryz.ntmps51
  go_wp2_with (first
    | (go_at_call 77; (with_reducible refine (HX _).mono ?_); rintro e w2 ⟨rfl, hx⟩; have o := o.below hx o.lt; have hb := hb.trans (hx.mono hb.size); clear hx; have c0 := o.cell 0 rfl; have c1 := o.cell 1 rfl))
  go_ret
  exact ⟨rfl, hb⟩

theorem saidHttpC (x1 x2 : List UInt8) (w : World) (hs1 : x1.length ≤ 100000) (hs2 : x2.length ≤ 100000) (h0 : x1.map low ≠ nExpires) (h1 : x1.map low ≠ nAge) (h2 : x1.map low ≠ nDomain) (h3 : x1.map low ≠ nPath) (h4 : x1.map low ≠ nSecure) (hy : x1.map low = nHttp) (hT : DTab w) :
    Calls Tryz.prog 51 #[.agg #[.string (str x1), .string (str x2)]] w fun e w' => e = .returned (.func (.func 96) #[] #[]) ∧ Below w.heap.size w w' := by
  have e0 : (x1.map low == [101, 120, 112, 105, 114, 101, 115]) = false := beq_eq_false_iff_ne.2 h0
  have e1 : (x1.map low == [109, 97, 120, 45, 97, 103, 101]) = false := beq_eq_false_iff_ne.2 h1
  have e2 : (x1.map low == [100, 111, 109, 97, 105, 110]) = false := beq_eq_false_iff_ne.2 h2
  have e3 : (x1.map low == [112, 97, 116, 104]) = false := beq_eq_false_iff_ne.2 h3
  have e4 : (x1.map low == [115, 101, 99, 117, 114, 101]) = false := beq_eq_false_iff_ne.2 h4
  clear h0 h1 h2 h3 h4
  have HX := fun w => lowerC x1 x1.length w rfl (by unfold maxLen; omega)
  unfold GivesStr at HX
  rw [hy] at HX
  unfold nHttp at HX
  clear hy
  have hk := str_toList
  have hb := below_alloc w (.cells #[.string (str x1), .string (str x2)] 47)
  have o := ObjAt.new w #[.string (str x1), .string (str x2)] 47
  have c0 := o.cell 0 rfl
  have c1 := o.cell 1 rfl
  go_enter Tryz.func51, Tryz.ntmps51
  go_wp2_with (first
    | (go_at_call 77; (with_reducible refine (HX _).mono ?_); rintro e w2 ⟨rfl, hx⟩; have o := o.below hx o.lt; have hb := hb.trans (hx.mono hb.size); clear hx; have c0 := o.cell 0 rfl; have c1 := o.cell 1 rfl))
  go_ret
  exact ⟨rfl, hb⟩

theorem saidNoneC (x1 x2 : List UInt8) (w : World) (hs1 : x1.length ≤ 100000) (hs2 : x2.length ≤ 100000) (h0 : x1.map low ≠ nExpires) (h1 : x1.map low ≠ nAge) (h2 : x1.map low ≠ nDomain) (h3 : x1.map low ≠ nPath) (h4 : x1.map low ≠ nSecure) (h5 : x1.map low ≠ nHttp) (hT : DTab w) :
    Calls Tryz.prog 51 #[.agg #[.string (str x1), .string (str x2)]] w fun e w' => e = .returned (.func (.func 97) #[] #[]) ∧ Below w.heap.size w w' := by
  have e0 : (x1.map low == [101, 120, 112, 105, 114, 101, 115]) = false := beq_eq_false_iff_ne.2 h0
  have e1 : (x1.map low == [109, 97, 120, 45, 97, 103, 101]) = false := beq_eq_false_iff_ne.2 h1
  have e2 : (x1.map low == [100, 111, 109, 97, 105, 110]) = false := beq_eq_false_iff_ne.2 h2
  have e3 : (x1.map low == [112, 97, 116, 104]) = false := beq_eq_false_iff_ne.2 h3
  have e4 : (x1.map low == [115, 101, 99, 117, 114, 101]) = false := beq_eq_false_iff_ne.2 h4
  have e5 : (x1.map low == [104, 116, 116, 112, 111, 110, 108, 121]) = false := beq_eq_false_iff_ne.2 h5
  clear h0 h1 h2 h3 h4 h5
  have HX := fun w => lowerC x1 x1.length w rfl (by unfold maxLen; omega)
  unfold GivesStr at HX
  generalize x1.map low = y at *
  have hk := str_toList
  have hb := below_alloc w (.cells #[.string (str x1), .string (str x2)] 47)
  have o := ObjAt.new w #[.string (str x1), .string (str x2)] 47
  have c0 := o.cell 0 rfl
  have c1 := o.cell 1 rfl
  go_enter Tryz.func51, Tryz.ntmps51
  go_wp2_with (first
    | (go_at_call 77; (with_reducible refine (HX _).mono ?_); rintro e w2 ⟨rfl, hx⟩; have o := o.below hx o.lt; have hb := hb.trans (hx.mono hb.size); clear hx; have c0 := o.cell 0 rfl; have c1 := o.cell 1 rfl))
  go_ret
  exact ⟨rfl, hb⟩

end Go.Proofs.YthefieemngmnjaaGreatDoor

/- Contracts of the reference of layer 13: when what is said ends. -/
namespace Go.Proofs.YthefieemngmnjaaGreatDoor
open Go.RowKit
set_option linter.unusedVariables false

set_option maxHeartbeats 4000000 in
set_option maxRecDepth 100000 in
theorem refExpiryC (hexp hage hdom hpath : Bool) (ex ag : Int) (dm pa : List UInt8) (se ht : Bool) (now : Int) (w : World) (ha : -9223372036854775808 ≤ ag ∧ ag ≤ 9223372036854775807) :
    Calls Tryz.prog 31 #[.agg #[.bool hexp, .bool hage, .bool hdom, .bool hpath, .int .i64 ex, .int .i64 ag, .string (str dm), .string (str pa), .bool se, .bool ht], .int .i64 now] w fun e w' => e = .returned (.tuple #[.int .i64 (expiryA ⟨hexp, hage, hdom, hpath, ex, ag, dm, pa, se, ht⟩ now).1, .bool (expiryA ⟨hexp, hage, hdom, hpath, ex, ag, dm, pa, se, ht⟩ now).2]) ∧ Below w.heap.size w w' := by
  have hb := below_alloc w (.cells #[.bool hexp, .bool hage, .bool hdom, .bool hpath, .int .i64 ex, .int .i64 ag, .string (str dm), .string (str pa), .bool se, .bool ht] 64)
  obtain ⟨ha1, ha2⟩ := ha
  by_cases h1 : now < 0
  · have k1 : clampA now = 0 := by unfold clampA; rw [if_pos h1]
    cases hage with
    | true =>
      by_cases h3 : ag ≤ 0
      · have h3' : ag ≤ 0 := h3
        rw [show expiryA ⟨hexp, true, hdom, hpath, ex, ag, dm, pa, se, ht⟩ now = (-1099511627776, true) by unfold expiryA; rw [if_pos rfl, if_pos h3]]
        go_enter Tryz.func31, Tryz.ntmps31
        go_wp2
        go_ret2
        exact ⟨rfl, hb⟩
      by_cases h4 : 1099511627776 - (0 : Int) < ag
      · rw [show expiryA ⟨hexp, true, hdom, hpath, ex, ag, dm, pa, se, ht⟩ now = (1099511627776, true) by unfold expiryA; rw [if_pos rfl, if_neg h3, k1, if_pos h4]]
        go_enter Tryz.func31, Tryz.ntmps31
        go_wp2
        go_ret2
        exact ⟨rfl, hb⟩
      have h5 : (0 : Int) ≤ 0 + ag := by omega
      have h6 : (0 : Int) + ag ≤ 1099511627776 := by omega
      rw [show expiryA ⟨hexp, true, hdom, hpath, ex, ag, dm, pa, se, ht⟩ now = (0 + ag, true) by unfold expiryA; rw [if_pos rfl, if_neg h3, k1, if_neg h4]]
      go_enter Tryz.func31, Tryz.ntmps31
      go_wp2
      go_ret2
      exact ⟨rfl, hb⟩
    | false =>
      cases hexp with
      | true =>
        rw [show expiryA ⟨true, false, hdom, hpath, ex, ag, dm, pa, se, ht⟩ now = (ex, true) by simp [expiryA]]
        go_enter Tryz.func31, Tryz.ntmps31
        go_wp2
        go_ret2
        exact ⟨rfl, hb⟩
      | false =>
        rw [show expiryA ⟨false, false, hdom, hpath, ex, ag, dm, pa, se, ht⟩ now = (1099511627776, false) by simp [expiryA]]
        go_enter Tryz.func31, Tryz.ntmps31
        go_wp2
        go_ret2
        exact ⟨rfl, hb⟩
  by_cases h2 : 1099511627776 < now
  · have k1 : clampA now = 1099511627776 := by unfold clampA; rw [if_neg h1, if_pos h2]
    cases hage with
    | true =>
      by_cases h3 : ag ≤ 0
      · have h3' : ag ≤ 0 := h3
        rw [show expiryA ⟨hexp, true, hdom, hpath, ex, ag, dm, pa, se, ht⟩ now = (-1099511627776, true) by unfold expiryA; rw [if_pos rfl, if_pos h3]]
        go_enter Tryz.func31, Tryz.ntmps31
        go_wp2
        go_ret2
        exact ⟨rfl, hb⟩
      by_cases h4 : 1099511627776 - (1099511627776 : Int) < ag
      · rw [show expiryA ⟨hexp, true, hdom, hpath, ex, ag, dm, pa, se, ht⟩ now = (1099511627776, true) by unfold expiryA; rw [if_pos rfl, if_neg h3, k1, if_pos h4]]
        go_enter Tryz.func31, Tryz.ntmps31
        go_wp2
        go_ret2
        exact ⟨rfl, hb⟩
      exact absurd h4 (by omega)
    | false =>
      cases hexp with
      | true =>
        rw [show expiryA ⟨true, false, hdom, hpath, ex, ag, dm, pa, se, ht⟩ now = (ex, true) by simp [expiryA]]
        go_enter Tryz.func31, Tryz.ntmps31
        go_wp2
        go_ret2
        exact ⟨rfl, hb⟩
      | false =>
        rw [show expiryA ⟨false, false, hdom, hpath, ex, ag, dm, pa, se, ht⟩ now = (1099511627776, false) by simp [expiryA]]
        go_enter Tryz.func31, Tryz.ntmps31
        go_wp2
        go_ret2
        exact ⟨rfl, hb⟩
  have k1 : clampA now = now := by unfold clampA; rw [if_neg h1, if_neg h2]
  cases hage with
  | true =>
    by_cases h3 : ag ≤ 0
    · have h3' : ag ≤ 0 := h3
      rw [show expiryA ⟨hexp, true, hdom, hpath, ex, ag, dm, pa, se, ht⟩ now = (-1099511627776, true) by unfold expiryA; rw [if_pos rfl, if_pos h3]]
      go_enter Tryz.func31, Tryz.ntmps31
      go_wp2
      go_ret2
      exact ⟨rfl, hb⟩
    by_cases h4 : 1099511627776 - (now : Int) < ag
    · rw [show expiryA ⟨hexp, true, hdom, hpath, ex, ag, dm, pa, se, ht⟩ now = (1099511627776, true) by unfold expiryA; rw [if_pos rfl, if_neg h3, k1, if_pos h4]]
      go_enter Tryz.func31, Tryz.ntmps31
      go_wp2
      go_ret2
      exact ⟨rfl, hb⟩
    have h5 : (0 : Int) ≤ now + ag := by omega
    have h6 : (now : Int) + ag ≤ 1099511627776 := by omega
    rw [show expiryA ⟨hexp, true, hdom, hpath, ex, ag, dm, pa, se, ht⟩ now = (now + ag, true) by unfold expiryA; rw [if_pos rfl, if_neg h3, k1, if_neg h4]]
    go_enter Tryz.func31, Tryz.ntmps31
    go_wp2
    go_ret2
    exact ⟨rfl, hb⟩
  | false =>
    cases hexp with
    | true =>
      rw [show expiryA ⟨true, false, hdom, hpath, ex, ag, dm, pa, se, ht⟩ now = (ex, true) by simp [expiryA]]
      go_enter Tryz.func31, Tryz.ntmps31
      go_wp2
      go_ret2
      exact ⟨rfl, hb⟩
    | false =>
      rw [show expiryA ⟨false, false, hdom, hpath, ex, ag, dm, pa, se, ht⟩ now = (1099511627776, false) by simp [expiryA]]
      go_enter Tryz.func31, Tryz.ntmps31
      go_wp2
      go_ret2
      exact ⟨rfl, hb⟩
end Go.Proofs.YthefieemngmnjaaGreatDoor

/- Contracts of layer 13: when what is said ends. -/
namespace Go.Proofs.YthefieemngmnjaaGreatDoor
open Go.RowKit
set_option linter.unusedVariables false

set_option maxHeartbeats 4000000 in
set_option maxRecDepth 100000 in
theorem attrsExpiryC (hexp hage hdom hpath : Bool) (ex ag : Int) (dm pa : List UInt8) (se ht : Bool) (now : Int) (w : World) (ha : -9223372036854775808 ≤ ag ∧ ag ≤ 9223372036854775807) :
    Calls Tryz.prog 24 #[.agg #[.bool hexp, .bool hage, .bool hdom, .bool hpath, .int .i64 ex, .int .i64 ag, .string (str dm), .string (str pa), .bool se, .bool ht], .int .i64 now] w fun e w' => e = .returned (.tuple #[.int .i64 (expiryA ⟨hexp, hage, hdom, hpath, ex, ag, dm, pa, se, ht⟩ now).1, .bool (expiryA ⟨hexp, hage, hdom, hpath, ex, ag, dm, pa, se, ht⟩ now).2]) ∧ Below w.heap.size w w' := by
  have hb := below_alloc w (.cells #[.bool hexp, .bool hage, .bool hdom, .bool hpath, .int .i64 ex, .int .i64 ag, .string (str dm), .string (str pa), .bool se, .bool ht] 52)
  obtain ⟨ha1, ha2⟩ := ha
  cases hage with
  | false =>
    cases hexp with
    | true =>
      rw [show expiryA ⟨true, false, hdom, hpath, ex, ag, dm, pa, se, ht⟩ now = (ex, true) by simp [expiryA]]
      go_enter Tryz.func24, Tryz.ntmps24
      go_wp2
      go_ret2
      exact ⟨rfl, hb⟩
    | false =>
      rw [show expiryA ⟨false, false, hdom, hpath, ex, ag, dm, pa, se, ht⟩ now = (1099511627776, false) by simp [expiryA]]
      go_enter Tryz.func24, Tryz.ntmps24
      go_wp2
      go_ret2
      exact ⟨rfl, hb⟩
  | true =>
    by_cases h3 : ag ≤ 0
    · have h3' : ag ≤ 0 := h3
      have h3n : ¬ ag > 0 := by omega
      rw [show expiryA ⟨hexp, true, hdom, hpath, ex, ag, dm, pa, se, ht⟩ now = (-1099511627776, true) by unfold expiryA; rw [if_pos rfl, if_pos h3]]
      go_enter Tryz.func24, Tryz.ntmps24
      go_wp2
      go_ret2
      exact ⟨rfl, hb⟩
    have h3y : ag > 0 := by omega
    rw [show expiryA ⟨hexp, true, hdom, hpath, ex, ag, dm, pa, se, ht⟩ now = (min (max now 0) 1099511627776 + min ag (1099511627776 - min (max now 0) 1099511627776), true) by
      unfold expiryA clampA
      rw [if_pos rfl, if_neg h3]
      dsimp only
      (repeat' split) <;> simp only [Prod.mk.injEq, and_true] <;> omega]
    go_enter Tryz.func24, Tryz.ntmps24
    go_wp2
    go_ret2
    exact ⟨rfl, hb⟩
end Go.Proofs.YthefieemngmnjaaGreatDoor
