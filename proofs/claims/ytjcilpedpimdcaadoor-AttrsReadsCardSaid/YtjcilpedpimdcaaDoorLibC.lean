/- Contracts and plain words that the laws' proofs stand on, put together. -/
import Derived.Test.YtjcilpedpimdcaaDoorAttrsRef
import Derived.Test.YtjcilpedpimdcaaDoorLibA
import Derived.Test.YtjcilpedpimdcaaDoorLibB
import Derived.Deep.RegionLaw
/- Contracts of layer 13: what puts into fields what an attribute says. -/
namespace Go.Proofs.YtjcilpedpimdcaaDoor
open Go.RowKit
set_option linter.unusedVariables false

/-- The text without one point in front. -/
def undot (l : List UInt8) : List UInt8 := if (l.getD 0 0 == 46) = true then l.drop 1 else l
theorem undot_low (l : List UInt8) : (undot l).map low = domL l := by
  unfold undot domL
  cases (l.getD 0 0 == 46) with
  | true => rw [if_pos rfl, if_pos rfl, List.map_drop]
  | false => rw [if_neg (by decide), if_neg (by decide)]
theorem undot_le (l : List UInt8) : (undot l).length ≤ l.length := by
  unfold undot
  split
  · rw [List.length_drop]; omega
  · exact Nat.le_refl _
theorem undot_is (l : List UInt8) : Lib.trimPrefix l [46] = undot l := by
  cases l with
  | nil => rfl
  | cons x xs =>
    by_cases h : x = 46
    · subst h; rfl
    · have e2 : (x == (46 : UInt8)) = false := beq_eq_false_iff_ne.2 h
      simp [Lib.trimPrefix, Lib.hasPrefix, undot, e2]
      exact fun c => h c.symm
theorem attrDotC (l : List UInt8) (w : World) :
    Calls Tryd.prog 23 #[.string (str l), .string ⟨#[46]⟩] w fun e w' => e = .returned (.string (str (undot l))) ∧ w = w' := by
  refine (Tryd.strings_TrimPrefix (str l) ⟨#[46]⟩ w).mono ?_
  rintro e w' ⟨rfl, rfl⟩
  rw [str_data, ← undot_is]
  exact ⟨rfl, rfl⟩
theorem path_head (l : List UInt8) : Lib.hasPrefix l [47] = pathB l := by
  cases l with
  | nil => rfl
  | cons x t =>
    show ((47 : UInt8) == x && true) = (!((x :: t) == []) && (x == 47))
    rw [Bool.and_true, show ((x :: t) == []) = false from rfl, Bool.not_false, Bool.true_and, Bool.eq_iff_iff, beq_iff_eq, beq_iff_eq]
    exact eq_comm
theorem attrSlashC (l : List UInt8) (w : World) :
    Calls Tryd.prog 25 #[.string (str l), .string ⟨#[47]⟩] w fun e w' => e = .returned (.bool (pathB l)) ∧ w = w' := by
  refine (Tryd.strings_HasPrefix (str l) ⟨#[47]⟩ w).mono ?_
  rintro e w' ⟨rfl, rfl⟩
  rw [str_data, ← path_head]
  exact ⟨rfl, rfl⟩

/-- What a closure leaves that puts into the block B. -/
def PutIs (B : Nat) (vs : List Value) (w : World) (e : Ending) (w' : World) : Prop := e = .returned (.tuple #[]) ∧ ObjAt w' B vs ∧ Kept B none w w'

theorem putExpC (B : Nat) (f : FieldsL) (b : Nat) (n : Int) (w : World) (h : ObjAt w B (encF f)) (hb : b ≠ B) (hc : w.cell? ⟨b, 0, none⟩ = some (.int .i64 n)) :
    Calls Tryd.prog 20 #[.pointer (some ⟨B, 0, none⟩), .pointer (some ⟨b, 0, none⟩)] w (PutIs B (((encF f).set 0 (.bool true)).set 4 (.int .i64 n)) w) := by
  have o := ((h.set 0 (.bool true)).set 4 (.int .i64 n))
  have hk := (((Kept.refl B none w).setCell 0 (.bool true)).setCell 4 (.int .i64 n))
  have c0 := h.cell 0 rfl
  have f0 := h.free 0
  have c4 := h.cell 4 rfl
  have f4 := h.free 4
  go_enter Tryd.func20, Tryd.ntmps20
  go_wp2
  go_region
  go_wp2
  go_end0
  exact ⟨rfl, o.drew, hk.trans (Near.refl _ _) (Kept.of (below_drew _ _))⟩

theorem putAgeC (B : Nat) (f : FieldsL) (b : Nat) (n : Int) (w : World) (h : ObjAt w B (encF f)) (hb : b ≠ B) (hc : w.cell? ⟨b, 0, none⟩ = some (.int .i64 n)) :
    Calls Tryd.prog 22 #[.pointer (some ⟨B, 0, none⟩), .pointer (some ⟨b, 0, none⟩)] w (PutIs B (((encF f).set 1 (.bool true)).set 5 (.int .i64 n)) w) := by
  have o := ((h.set 1 (.bool true)).set 5 (.int .i64 n))
  have hk := (((Kept.refl B none w).setCell 1 (.bool true)).setCell 5 (.int .i64 n))
  have c1 := h.cell 1 rfl
  have f1 := h.free 1
  have c5 := h.cell 5 rfl
  have f5 := h.free 5
  go_enter Tryd.func22, Tryd.ntmps22
  go_wp2
  go_region
  go_wp2
  go_end0
  exact ⟨rfl, o.drew, hk.trans (Near.refl _ _) (Kept.of (below_drew _ _))⟩

theorem putDomC (B : Nat) (f : FieldsL) (b : Nat) (l : List UInt8) (w : World) (h : ObjAt w B (encF f)) (hb : b ≠ B) (hc : w.cell? ⟨b, 0, none⟩ = some (.string (str l))) :
    Calls Tryd.prog 24 #[.pointer (some ⟨B, 0, none⟩), .pointer (some ⟨b, 0, none⟩)] w (PutIs B (((encF f).set 2 (.bool true)).set 6 (.string (str l))) w) := by
  have o := ((h.set 2 (.bool true)).set 6 (.string (str l)))
  have hk := (((Kept.refl B none w).setCell 2 (.bool true)).setCell 6 (.string (str l)))
  have c2 := h.cell 2 rfl
  have f2 := h.free 2
  have c6 := h.cell 6 rfl
  have f6 := h.free 6
  go_enter Tryd.func24, Tryd.ntmps24
  go_wp2
  go_region
  go_wp2
  go_end0
  exact ⟨rfl, o.drew, hk.trans (Near.refl _ _) (Kept.of (below_drew _ _))⟩

theorem putPathC (B : Nat) (f : FieldsL) (b : Nat) (l : List UInt8) (w : World) (h : ObjAt w B (encF f)) (hb : b ≠ B) (hc : w.cell? ⟨b, 1, none⟩ = some (.string (str l))) :
    Calls Tryd.prog 26 #[.pointer (some ⟨B, 0, none⟩), .pointer (some ⟨b, 0, none⟩)] w (PutIs B (((encF f).set 3 (.bool true)).set 7 (.string (str l))) w) := by
  have o := ((h.set 3 (.bool true)).set 7 (.string (str l)))
  have hk := (((Kept.refl B none w).setCell 3 (.bool true)).setCell 7 (.string (str l)))
  have c3 := h.cell 3 rfl
  have f3 := h.free 3
  have c7 := h.cell 7 rfl
  have f7 := h.free 7
  go_enter Tryd.func26, Tryd.ntmps26
  go_wp2
  go_region
  go_wp2
  go_end0
  exact ⟨rfl, o.drew, hk.trans (Near.refl _ _) (Kept.of (below_drew _ _))⟩

theorem putNoPathC (B : Nat) (f : FieldsL) (w : World) (h : ObjAt w B (encF f)) :
    Calls Tryd.prog 27 #[.pointer (some ⟨B, 0, none⟩)] w (PutIs B (((encF f).set 3 (.bool false)).set 7 (.string ⟨#[]⟩)) w) := by
  have o := ((h.set 3 (.bool false)).set 7 (.string ⟨#[]⟩))
  have hk := (((Kept.refl B none w).setCell 3 (.bool false)).setCell 7 (.string ⟨#[]⟩))
  have c3 := h.cell 3 rfl
  have f3 := h.free 3
  have c7 := h.cell 7 rfl
  have f7 := h.free 7
  go_enter Tryd.func27, Tryd.ntmps27
  go_wp2
  go_end0
  exact ⟨rfl, o, hk⟩

theorem putSecC (B : Nat) (f : FieldsL) (w : World) (h : ObjAt w B (encF f)) :
    Calls Tryd.prog 28 #[.pointer (some ⟨B, 0, none⟩)] w (PutIs B ((encF f).set 8 (.bool true)) w) := by
  have o := (h.set 8 (.bool true))
  have hk := ((Kept.refl B none w).setCell 8 (.bool true))
  have c8 := h.cell 8 rfl
  have f8 := h.free 8
  go_enter Tryd.func28, Tryd.ntmps28
  go_wp2
  go_end0
  exact ⟨rfl, o, hk⟩

theorem putHttpC (B : Nat) (f : FieldsL) (w : World) (h : ObjAt w B (encF f)) :
    Calls Tryd.prog 29 #[.pointer (some ⟨B, 0, none⟩)] w (PutIs B ((encF f).set 9 (.bool true)) w) := by
  have o := (h.set 9 (.bool true))
  have hk := ((Kept.refl B none w).setCell 9 (.bool true))
  have c9 := h.cell 9 rfl
  have f9 := h.free 9
  go_enter Tryd.func29, Tryd.ntmps29
  go_wp2
  go_end0
  exact ⟨rfl, o, hk⟩

theorem putNoneC (B : Nat) (f : FieldsL) (w : World) (h : ObjAt w B (encF f)) :
    Calls Tryd.prog 30 #[.pointer (some ⟨B, 0, none⟩)] w (PutIs B (encF f) w) := by
  have o := h
  have hk := (Kept.refl B none w)
  go_enter Tryd.func30, Tryd.ntmps30
  go_wp2
  go_end0
  exact ⟨rfl, o, hk⟩

end Go.Proofs.YtjcilpedpimdcaaDoor

/- Contracts of layer 13: which closure puts what an attribute says. -/
namespace Go.Proofs.YtjcilpedpimdcaaDoor
open Go.RowKit
set_option linter.unusedVariables false

theorem saidExpC (x1 x2 : List UInt8) (n : Int) (hp : parseL x2 = (n, true)) (w : World) (hs1 : x1.length ≤ 100000) (hs2 : x2.length ≤ 100000) (hy : x1.map low = nExpires) (hT : DTab w) :
    Calls Tryd.prog 15 #[.agg #[.string (str x1), .string (str x2)]] w fun e w' => (∃ b, e = .returned (.func (.func 20) #[] #[.pointer (some ⟨b, 0, none⟩)]) ∧ w.heap.size ≤ b ∧ b < w'.heap.size ∧ w'.cell? ⟨b, 0, none⟩ = some (.int .i64 n)) ∧ Below w.heap.size w w' := by
  have HX := fun w => lowerC x1 x1.length w rfl (by unfold maxLen; omega)
  have HD := fun w hT => parseC x2 x2.length w rfl (by omega) hT
  rw [hp] at HD
  simp only [if_true] at HD
  unfold GivesStr at HX
  rw [hy] at HX
  unfold nExpires at HX
  clear hy
  have hk := str_toList
  have hb := below_alloc w (.cells #[.string (str x1), .string (str x2)] 39)
  have o := ObjAt.new w #[.string (str x1), .string (str x2)] 39
  have c0 := o.cell 0 rfl
  have c1 := o.cell 1 rfl
  go_enter Tryd.func15, Tryd.ntmps15
  go_wp2_with (first
    | (go_at_call 18; (with_reducible refine (HX _).mono ?_); rintro e w2 ⟨rfl, hx⟩; have o := o.below hx o.lt; have hb := hb.trans (hx.mono hb.size); clear hx; have c0 := o.cell 0 rfl; have c1 := o.cell 1 rfl)
    | (go_at_call 19; (with_reducible refine (HD _ (hT.below hb)).mono ?_); rintro e w3 ⟨rfl, hx⟩; have o := o.below hx o.lt; have hb := hb.trans (hx.mono hb.size); clear hx; have c0 := o.cell 0 rfl; have c1 := o.cell 1 rfl))
  go_ret
  exact ⟨⟨_, rfl, hb.size, by simp, (ObjAt.new _ #[.int .i64 n] 3).cell 0 rfl⟩, hb.alloc hb.size _⟩

theorem saidExpNoC (x1 x2 : List UInt8) (n : Int) (hp : parseL x2 = (n, false)) (w : World) (hs1 : x1.length ≤ 100000) (hs2 : x2.length ≤ 100000) (hy : x1.map low = nExpires) (hT : DTab w) :
    Calls Tryd.prog 15 #[.agg #[.string (str x1), .string (str x2)]] w fun e w' => e = .returned (.func (.func 30) #[] #[]) ∧ Below w.heap.size w w' := by
  have HX := fun w => lowerC x1 x1.length w rfl (by unfold maxLen; omega)
  have HD := fun w hT => parseC x2 x2.length w rfl (by omega) hT
  rw [hp] at HD
  simp only [Bool.false_eq_true, if_false] at HD
  unfold GivesStr at HX
  rw [hy] at HX
  unfold nExpires at HX
  clear hy
  have hk := str_toList
  have hb := below_alloc w (.cells #[.string (str x1), .string (str x2)] 39)
  have o := ObjAt.new w #[.string (str x1), .string (str x2)] 39
  have c0 := o.cell 0 rfl
  have c1 := o.cell 1 rfl
  go_enter Tryd.func15, Tryd.ntmps15
  go_wp2_with (first
    | (go_at_call 18; (with_reducible refine (HX _).mono ?_); rintro e w2 ⟨rfl, hx⟩; have o := o.below hx o.lt; have hb := hb.trans (hx.mono hb.size); clear hx; have c0 := o.cell 0 rfl; have c1 := o.cell 1 rfl)
    | (go_at_call 19; (with_reducible refine (HD _ (hT.below hb)).mono ?_); rintro e w3 ⟨rfl, hx⟩; have o := o.below hx o.lt; have hb := hb.trans (hx.mono hb.size); clear hx; have c0 := o.cell 0 rfl; have c1 := o.cell 1 rfl))
  go_ret
  exact ⟨rfl, hb.alloc hb.size _⟩

theorem saidAgeC (x1 x2 : List UInt8) (n : Int) (hp : numL x2 = (n, true)) (w : World) (hs1 : x1.length ≤ 100000) (hs2 : x2.length ≤ 100000) (h0 : x1.map low ≠ nExpires) (hy : x1.map low = nAge) (hT : DTab w) :
    Calls Tryd.prog 15 #[.agg #[.string (str x1), .string (str x2)]] w fun e w' => (∃ b, e = .returned (.func (.func 22) #[] #[.pointer (some ⟨b, 0, none⟩)]) ∧ w.heap.size ≤ b ∧ b < w'.heap.size ∧ w'.cell? ⟨b, 0, none⟩ = some (.int .i64 n)) ∧ Below w.heap.size w w' := by
  have e0 : (x1.map low == [101, 120, 112, 105, 114, 101, 115]) = false := beq_eq_false_iff_ne.2 h0
  clear h0
  have HX := fun w => lowerC x1 x1.length w rfl (by unfold maxLen; omega)
  have HN := fun w => numberC x2 x2.length w rfl (by unfold maxLen; omega)
  rw [hp] at HN
  unfold GivesStr at HX
  rw [hy] at HX
  unfold nAge at HX
  clear hy
  have hk := str_toList
  have hb := below_alloc w (.cells #[.string (str x1), .string (str x2)] 39)
  have o := ObjAt.new w #[.string (str x1), .string (str x2)] 39
  have c0 := o.cell 0 rfl
  have c1 := o.cell 1 rfl
  go_enter Tryd.func15, Tryd.ntmps15
  go_wp2_with (first
    | (go_at_call 18; (with_reducible refine (HX _).mono ?_); rintro e w2 ⟨rfl, hx⟩; have o := o.below hx o.lt; have hb := hb.trans (hx.mono hb.size); clear hx; have c0 := o.cell 0 rfl; have c1 := o.cell 1 rfl)
    | (go_at_call 21; (with_reducible refine (HN _).mono ?_); rintro e w3 ⟨rfl, rfl⟩))
  go_ret
  exact ⟨⟨_, rfl, hb.size, by simp, (ObjAt.new _ #[.int .i64 n] 3).cell 0 rfl⟩, hb.alloc hb.size _⟩

theorem saidAgeNoC (x1 x2 : List UInt8) (n : Int) (hp : numL x2 = (n, false)) (w : World) (hs1 : x1.length ≤ 100000) (hs2 : x2.length ≤ 100000) (h0 : x1.map low ≠ nExpires) (hy : x1.map low = nAge) (hT : DTab w) :
    Calls Tryd.prog 15 #[.agg #[.string (str x1), .string (str x2)]] w fun e w' => e = .returned (.func (.func 30) #[] #[]) ∧ Below w.heap.size w w' := by
  have e0 : (x1.map low == [101, 120, 112, 105, 114, 101, 115]) = false := beq_eq_false_iff_ne.2 h0
  clear h0
  have HX := fun w => lowerC x1 x1.length w rfl (by unfold maxLen; omega)
  have HN := fun w => numberC x2 x2.length w rfl (by unfold maxLen; omega)
  rw [hp] at HN
  unfold GivesStr at HX
  rw [hy] at HX
  unfold nAge at HX
  clear hy
  have hk := str_toList
  have hb := below_alloc w (.cells #[.string (str x1), .string (str x2)] 39)
  have o := ObjAt.new w #[.string (str x1), .string (str x2)] 39
  have c0 := o.cell 0 rfl
  have c1 := o.cell 1 rfl
  go_enter Tryd.func15, Tryd.ntmps15
  go_wp2_with (first
    | (go_at_call 18; (with_reducible refine (HX _).mono ?_); rintro e w2 ⟨rfl, hx⟩; have o := o.below hx o.lt; have hb := hb.trans (hx.mono hb.size); clear hx; have c0 := o.cell 0 rfl; have c1 := o.cell 1 rfl)
    | (go_at_call 21; (with_reducible refine (HN _).mono ?_); rintro e w3 ⟨rfl, rfl⟩))
  go_ret
  exact ⟨rfl, hb.alloc hb.size _⟩

theorem saidDomC (x1 x2 : List UInt8) (hne : x2 ≠ []) (w : World) (hs1 : x1.length ≤ 100000) (hs2 : x2.length ≤ 100000) (h0 : x1.map low ≠ nExpires) (h1 : x1.map low ≠ nAge) (hy : x1.map low = nDomain) (hT : DTab w) :
    Calls Tryd.prog 15 #[.agg #[.string (str x1), .string (str x2)]] w fun e w' => (∃ b, e = .returned (.func (.func 24) #[] #[.pointer (some ⟨b, 0, none⟩)]) ∧ w.heap.size ≤ b ∧ b < w'.heap.size ∧ w'.cell? ⟨b, 0, none⟩ = some (.string (str (domL x2)))) ∧ Below w.heap.size w w' := by
  have e0 : (x1.map low == [101, 120, 112, 105, 114, 101, 115]) = false := beq_eq_false_iff_ne.2 h0
  have e1 : (x1.map low == [109, 97, 120, 45, 97, 103, 101]) = false := beq_eq_false_iff_ne.2 h1
  clear h0 h1
  have HX := fun w => lowerC x1 x1.length w rfl (by unfold maxLen; omega)
  have HP := fun w => attrDotC x2 w
  have HV := fun w => lowerC (undot x2) (undot x2).length w rfl (by have := undot_le x2; unfold maxLen; omega)
  rw [undot_low] at HV
  unfold GivesStr at HV
  have hve : (x2 == []) = false := beq_eq_false_iff_ne.2 hne
  generalize domL x2 = z at *
  unfold GivesStr at HX
  rw [hy] at HX
  unfold nDomain at HX
  clear hy
  have hk := str_toList
  have hb := below_alloc w (.cells #[.string (str x1), .string (str x2)] 39)
  have o := ObjAt.new w #[.string (str x1), .string (str x2)] 39
  have c0 := o.cell 0 rfl
  have c1 := o.cell 1 rfl
  go_enter Tryd.func15, Tryd.ntmps15
  go_wp2_with (first
    | (go_at_call 18; (with_reducible refine (HX _).mono ?_); rintro e w2 ⟨rfl, hx⟩; have o := o.below hx o.lt; have hb := hb.trans (hx.mono hb.size); clear hx; have c0 := o.cell 0 rfl; have c1 := o.cell 1 rfl)
    | (go_at_call 23; (with_reducible refine (HP _).mono ?_); rintro e w3 ⟨rfl, rfl⟩)
    | (go_at_call 18; (with_reducible refine (HV _).mono ?_); rintro e w4 ⟨rfl, hx⟩; have o := o.below hx o.lt; have hb := hb.trans (hx.mono hb.size); clear hx; have c0 := o.cell 0 rfl; have c1 := o.cell 1 rfl))
  go_ret
  exact ⟨⟨_, rfl, hb.size, by simp, (ObjAt.new _ #[.string (str z)] 9).cell 0 rfl⟩, hb.alloc hb.size _⟩

theorem saidDomNoC (x1 : List UInt8) (w : World) (hs1 : x1.length ≤ 100000) (h0 : x1.map low ≠ nExpires) (h1 : x1.map low ≠ nAge) (hy : x1.map low = nDomain) (hT : DTab w) :
    Calls Tryd.prog 15 #[.agg #[.string (str x1), .string (str [])]] w fun e w' => e = .returned (.func (.func 30) #[] #[]) ∧ Below w.heap.size w w' := by
  have e0 : (x1.map low == [101, 120, 112, 105, 114, 101, 115]) = false := beq_eq_false_iff_ne.2 h0
  have e1 : (x1.map low == [109, 97, 120, 45, 97, 103, 101]) = false := beq_eq_false_iff_ne.2 h1
  clear h0 h1
  have HX := fun w => lowerC x1 x1.length w rfl (by unfold maxLen; omega)
  unfold GivesStr at HX
  rw [hy] at HX
  unfold nDomain at HX
  clear hy
  rw [show (str [] : ByteArray) = ⟨#[]⟩ from rfl]
  have hk := str_toList
  have hb := below_alloc w (.cells #[.string (str x1), .string ⟨#[]⟩] 39)
  have o := ObjAt.new w #[.string (str x1), .string ⟨#[]⟩] 39
  have c0 := o.cell 0 rfl
  have c1 := o.cell 1 rfl
  go_enter Tryd.func15, Tryd.ntmps15
  go_wp2_with (first
    | (go_at_call 18; (with_reducible refine (HX _).mono ?_); rintro e w2 ⟨rfl, hx⟩; have o := o.below hx o.lt; have hb := hb.trans (hx.mono hb.size); clear hx; have c0 := o.cell 0 rfl; have c1 := o.cell 1 rfl))
  go_ret
  exact ⟨rfl, hb⟩

theorem saidPathC (x1 x2 : List UInt8) (hp : pathB x2 = true) (w : World) (hs1 : x1.length ≤ 100000) (hs2 : x2.length ≤ 100000) (h0 : x1.map low ≠ nExpires) (h1 : x1.map low ≠ nAge) (h2 : x1.map low ≠ nDomain) (hy : x1.map low = nPath) (hT : DTab w) :
    Calls Tryd.prog 15 #[.agg #[.string (str x1), .string (str x2)]] w fun e w' => (∃ b, e = .returned (.func (.func 26) #[] #[.pointer (some ⟨b, 0, none⟩)]) ∧ w.heap.size ≤ b ∧ b < w'.heap.size ∧ w'.cell? ⟨b, 1, none⟩ = some (.string (str x2))) ∧ Below w.heap.size w w' := by
  have e0 : (x1.map low == [101, 120, 112, 105, 114, 101, 115]) = false := beq_eq_false_iff_ne.2 h0
  have e1 : (x1.map low == [109, 97, 120, 45, 97, 103, 101]) = false := beq_eq_false_iff_ne.2 h1
  have e2 : (x1.map low == [100, 111, 109, 97, 105, 110]) = false := beq_eq_false_iff_ne.2 h2
  clear h0 h1 h2
  have HX := fun w => lowerC x1 x1.length w rfl (by unfold maxLen; omega)
  have HH := fun w => attrSlashC x2 w
  rw [hp] at HH
  unfold GivesStr at HX
  rw [hy] at HX
  unfold nPath at HX
  clear hy
  have hk := str_toList
  have hb := below_alloc w (.cells #[.string (str x1), .string (str x2)] 39)
  have o := ObjAt.new w #[.string (str x1), .string (str x2)] 39
  have c0 := o.cell 0 rfl
  have c1 := o.cell 1 rfl
  go_enter Tryd.func15, Tryd.ntmps15
  go_wp2_with (first
    | (go_at_call 18; (with_reducible refine (HX _).mono ?_); rintro e w2 ⟨rfl, hx⟩; have o := o.below hx o.lt; have hb := hb.trans (hx.mono hb.size); clear hx; have c0 := o.cell 0 rfl; have c1 := o.cell 1 rfl)
    | (go_at_call 25; (with_reducible refine (HH _).mono ?_); rintro e w3 ⟨rfl, rfl⟩))
  go_ret
  exact ⟨⟨_, rfl, Nat.le_refl _, o.lt, c1⟩, hb⟩

theorem saidPathNoC (x1 x2 : List UInt8) (hp : pathB x2 = false) (w : World) (hs1 : x1.length ≤ 100000) (hs2 : x2.length ≤ 100000) (h0 : x1.map low ≠ nExpires) (h1 : x1.map low ≠ nAge) (h2 : x1.map low ≠ nDomain) (hy : x1.map low = nPath) (hT : DTab w) :
    Calls Tryd.prog 15 #[.agg #[.string (str x1), .string (str x2)]] w fun e w' => e = .returned (.func (.func 27) #[] #[]) ∧ Below w.heap.size w w' := by
  have e0 : (x1.map low == [101, 120, 112, 105, 114, 101, 115]) = false := beq_eq_false_iff_ne.2 h0
  have e1 : (x1.map low == [109, 97, 120, 45, 97, 103, 101]) = false := beq_eq_false_iff_ne.2 h1
  have e2 : (x1.map low == [100, 111, 109, 97, 105, 110]) = false := beq_eq_false_iff_ne.2 h2
  clear h0 h1 h2
  have HX := fun w => lowerC x1 x1.length w rfl (by unfold maxLen; omega)
  have HH := fun w => attrSlashC x2 w
  rw [hp] at HH
  unfold GivesStr at HX
  rw [hy] at HX
  unfold nPath at HX
  clear hy
  have hk := str_toList
  have hb := below_alloc w (.cells #[.string (str x1), .string (str x2)] 39)
  have o := ObjAt.new w #[.string (str x1), .string (str x2)] 39
  have c0 := o.cell 0 rfl
  have c1 := o.cell 1 rfl
  go_enter Tryd.func15, Tryd.ntmps15
  go_wp2_with (first
    | (go_at_call 18; (with_reducible refine (HX _).mono ?_); rintro e w2 ⟨rfl, hx⟩; have o := o.below hx o.lt; have hb := hb.trans (hx.mono hb.size); clear hx; have c0 := o.cell 0 rfl; have c1 := o.cell 1 rfl)
    | (go_at_call 25; (with_reducible refine (HH _).mono ?_); rintro e w3 ⟨rfl, rfl⟩))
  go_ret
  exact ⟨rfl, hb⟩

theorem saidSecC (x1 x2 : List UInt8) (w : World) (hs1 : x1.length ≤ 100000) (hs2 : x2.length ≤ 100000) (h0 : x1.map low ≠ nExpires) (h1 : x1.map low ≠ nAge) (h2 : x1.map low ≠ nDomain) (h3 : x1.map low ≠ nPath) (hy : x1.map low = nSecure) (hT : DTab w) :
    Calls Tryd.prog 15 #[.agg #[.string (str x1), .string (str x2)]] w fun e w' => e = .returned (.func (.func 28) #[] #[]) ∧ Below w.heap.size w w' := by
  have e0 : (x1.map low == [101, 120, 112, 105, 114, 101, 115]) = false := beq_eq_false_iff_ne.2 h0
  have e1 : (x1.map low == [109, 97, 120, 45, 97, 103, 101]) = false := beq_eq_false_iff_ne.2 h1
  have e2 : (x1.map low == [100, 111, 109, 97, 105, 110]) = false := beq_eq_false_iff_ne.2 h2
  have e3 : (x1.map low == [112, 97, 116, 104]) = false := beq_eq_false_iff_ne.2 h3
  clear h0 h1 h2 h3
  have HX := fun w => lowerC x1 x1.length w rfl (by unfold maxLen; omega)
  unfold GivesStr at HX
  rw [hy] at HX
  unfold nSecure at HX
  clear hy
  have hk := str_toList
  have hb := below_alloc w (.cells #[.string (str x1), .string (str x2)] 39)
  have o := ObjAt.new w #[.string (str x1), .string (str x2)] 39
  have c0 := o.cell 0 rfl
  have c1 := o.cell 1 rfl
  go_enter Tryd.func15, Tryd.ntmps15
  go_wp2_with (first
    | (go_at_call 18; (with_reducible refine (HX _).mono ?_); rintro e w2 ⟨rfl, hx⟩; have o := o.below hx o.lt; have hb := hb.trans (hx.mono hb.size); clear hx; have c0 := o.cell 0 rfl; have c1 := o.cell 1 rfl))
  go_ret
  exact ⟨rfl, hb⟩

theorem saidHttpC (x1 x2 : List UInt8) (w : World) (hs1 : x1.length ≤ 100000) (hs2 : x2.length ≤ 100000) (h0 : x1.map low ≠ nExpires) (h1 : x1.map low ≠ nAge) (h2 : x1.map low ≠ nDomain) (h3 : x1.map low ≠ nPath) (h4 : x1.map low ≠ nSecure) (hy : x1.map low = nHttp) (hT : DTab w) :
    Calls Tryd.prog 15 #[.agg #[.string (str x1), .string (str x2)]] w fun e w' => e = .returned (.func (.func 29) #[] #[]) ∧ Below w.heap.size w w' := by
  have e0 : (x1.map low == [101, 120, 112, 105, 114, 101, 115]) = false := beq_eq_false_iff_ne.2 h0
  have e1 : (x1.map low == [109, 97, 120, 45, 97, 103, 101]) = false := beq_eq_false_iff_ne.2 h1
  have e2 : (x1.map low == [100, 111, 109, 97, 105, 110]) = false := beq_eq_false_iff_ne.2 h2
  have e3 : (x1.map low == [112, 97, 116, 104]) = false := beq_eq_false_iff_ne.2 h3
  have e4 : (x1.map low == [115, 101, 99, 117, 114, 101]) = false := beq_eq_false_iff_ne.2 h4
  clear h0 h1 h2 h3 h4
  have HX := fun w => lowerC x1 x1.length w rfl (by unfold maxLen; omega)
  unfold GivesStr at HX
  rw [hy] at HX
  unfold nHttp at HX
  clear hy
  have hk := str_toList
  have hb := below_alloc w (.cells #[.string (str x1), .string (str x2)] 39)
  have o := ObjAt.new w #[.string (str x1), .string (str x2)] 39
  have c0 := o.cell 0 rfl
  have c1 := o.cell 1 rfl
  go_enter Tryd.func15, Tryd.ntmps15
  go_wp2_with (first
    | (go_at_call 18; (with_reducible refine (HX _).mono ?_); rintro e w2 ⟨rfl, hx⟩; have o := o.below hx o.lt; have hb := hb.trans (hx.mono hb.size); clear hx; have c0 := o.cell 0 rfl; have c1 := o.cell 1 rfl))
  go_ret
  exact ⟨rfl, hb⟩

theorem saidNoneC (x1 x2 : List UInt8) (w : World) (hs1 : x1.length ≤ 100000) (hs2 : x2.length ≤ 100000) (h0 : x1.map low ≠ nExpires) (h1 : x1.map low ≠ nAge) (h2 : x1.map low ≠ nDomain) (h3 : x1.map low ≠ nPath) (h4 : x1.map low ≠ nSecure) (h5 : x1.map low ≠ nHttp) (hT : DTab w) :
    Calls Tryd.prog 15 #[.agg #[.string (str x1), .string (str x2)]] w fun e w' => e = .returned (.func (.func 30) #[] #[]) ∧ Below w.heap.size w w' := by
  have e0 : (x1.map low == [101, 120, 112, 105, 114, 101, 115]) = false := beq_eq_false_iff_ne.2 h0
  have e1 : (x1.map low == [109, 97, 120, 45, 97, 103, 101]) = false := beq_eq_false_iff_ne.2 h1
  have e2 : (x1.map low == [100, 111, 109, 97, 105, 110]) = false := beq_eq_false_iff_ne.2 h2
  have e3 : (x1.map low == [112, 97, 116, 104]) = false := beq_eq_false_iff_ne.2 h3
  have e4 : (x1.map low == [115, 101, 99, 117, 114, 101]) = false := beq_eq_false_iff_ne.2 h4
  have e5 : (x1.map low == [104, 116, 116, 112, 111, 110, 108, 121]) = false := beq_eq_false_iff_ne.2 h5
  clear h0 h1 h2 h3 h4 h5
  have HX := fun w => lowerC x1 x1.length w rfl (by unfold maxLen; omega)
  unfold GivesStr at HX
  generalize x1.map low = y at *
  have hk := str_toList
  have hb := below_alloc w (.cells #[.string (str x1), .string (str x2)] 39)
  have o := ObjAt.new w #[.string (str x1), .string (str x2)] 39
  have c0 := o.cell 0 rfl
  have c1 := o.cell 1 rfl
  go_enter Tryd.func15, Tryd.ntmps15
  go_wp2_with (first
    | (go_at_call 18; (with_reducible refine (HX _).mono ?_); rintro e w2 ⟨rfl, hx⟩; have o := o.below hx o.lt; have hb := hb.trans (hx.mono hb.size); clear hx; have c0 := o.cell 0 rfl; have c1 := o.cell 1 rfl))
  go_ret
  exact ⟨rfl, hb⟩

end Go.Proofs.YtjcilpedpimdcaaDoor

/- Contracts of layer 13: what attributes say, when it ends. -/
namespace Go.Proofs.YtjcilpedpimdcaaDoor
open Go.RowKit
set_option linter.unusedVariables false

theorem ObjAt.kept {p b : Nat} {vs : List Value} {w w' : World} (h : ObjAt w b vs) (hk : Kept p none w w') (hne : b ≠ p) : ObjAt w' b vs := by
  obtain ⟨e, he⟩ := h.heap
  exact ⟨e, by rw [hk.block b h.lt hne (Apart.none b)]; exact he⟩

set_option maxHeartbeats 4000000 in
set_option maxRecDepth 100000 in
theorem attrsReadC (a : Option Addr) (n c : Nat) (L : List (List UInt8 × List UInt8)) (w : World) (hL : RowOf encP 2 w a n c L) (hS : ∀ x ∈ L, x.1.length ≤ 100000 ∧ x.2.length ≤ 100000) (hT : DTab w) :
    Calls Tryd.prog 9 #[.slice a n c] w fun e w' => e = .returned (valF (readA L)) ∧ Below w.heap.size w w' := by
  have HL := Lib.hid hL
  have Hn : Hid (L.length = n) := hL.leq
  have hcm := hL.capm
  have hcl := hL.cle
  unfold maxLen at hcm
  have hk := str_toList
  have hb0 := below_alloc w (.cells #[.bool false, .bool false, .bool false, .bool false, .int .i64 0, .int .i64 0, .string ⟨#[]⟩, .string ⟨#[]⟩, .bool false, .bool false] 27)
  have o0 := ObjAt.new w #[.bool false, .bool false, .bool false, .bool false, .int .i64 0, .int .i64 0, .string ⟨#[]⟩, .string ⟨#[]⟩, .bool false, .bool false] 27
  have hs1 : (w.alloc (.cells #[.bool false, .bool false, .bool false, .bool false, .int .i64 0, .int .i64 0, .string ⟨#[]⟩, .string ⟨#[]⟩, .bool false, .bool false] 27)).heap.size = w.heap.size + 1 := by simp
  have hb1 := hb0.alloc (by omega) (.cells #[.bool false, .bool false, .bool false, .bool false, .int .i64 0, .int .i64 0, .string ⟨#[]⟩, .string ⟨#[]⟩, .bool false, .bool false] 27)
  have o1 := ObjAt.new (w.alloc (.cells #[.bool false, .bool false, .bool false, .bool false, .int .i64 0, .int .i64 0, .string ⟨#[]⟩, .string ⟨#[]⟩, .bool false, .bool false] 27)) #[.bool false, .bool false, .bool false, .bool false, .int .i64 0, .int .i64 0, .string ⟨#[]⟩, .string ⟨#[]⟩, .bool false, .bool false] 27
  have o2 := o0.below (below_alloc (w.alloc (.cells #[.bool false, .bool false, .bool false, .bool false, .int .i64 0, .int .i64 0, .string ⟨#[]⟩, .string ⟨#[]⟩, .bool false, .bool false] 27)) (.cells #[.bool false, .bool false, .bool false, .bool false, .int .i64 0, .int .i64 0, .string ⟨#[]⟩, .string ⟨#[]⟩, .bool false, .bool false] 27)) o0.lt
  rw [hs1] at o1
  clear hL hb0 hs1 o0
  go_enter Tryd.func9, Tryd.ntmps9
  go_wp2
  go_loopw [9] (fun i wr => ∃ k : Nat, k ≤ n ∧ i = .int .i64 (k : Int) ∧ ObjAt wr (w.heap.size + 1) (encF (readA (L.take k))) ∧ ObjAt wr w.heap.size #[.bool false, .bool false, .bool false, .bool false, .int .i64 0, .int .i64 0, .string ⟨#[]⟩, .string ⟨#[]⟩, .bool false, .bool false].toList ∧ Below w.heap.size w wr) (fun i _ => n - (intOf i).toNat)
  case atStart => exact ⟨0, Nat.zero_le _, rfl, o1, o2, hb1⟩
  case round =>
    clear hb1 o1 o2
    obtain ⟨k, hk2, rfl, o1, o0, hb⟩ := hrel
    by_cases hlt : k < n
    · have hlt' : (k : Int) < (n : Int) := by omega
      obtain ⟨x1, x2, g, off, hx, rfl, c0, c1⟩ := pair_at (HL.out.below hb) k hlt
      have hst := readA_take hx
      have hsx := hS (x1, x2) (by obtain ⟨h, e⟩ := List.getElem?_eq_some_iff.1 hx; exact e ▸ List.getElem_mem h)
      dsimp only at hsx
      unfold stepA at hst
      dsimp only at hst
      have H2 := Lib.hid hst
      clear hst hx
      generalize readA (L.take k) = f at *
      have o1 := o1.below (below_alloc wr (.cells #[.string (str x1), .string (str x2)] 39)) o1.lt
      have o0 := o0.below (below_alloc wr (.cells #[.string (str x1), .string (str x2)] 39)) o0.lt
      have hb := hb.alloc hb.size (.cells #[.string (str x1), .string (str x2)] 39)
      have op := ObjAt.new wr #[.string (str x1), .string (str x2)] 39
      have p0 := op.cell 0 rfl
      have p1 := op.cell 1 rfl
      clear op
      by_cases h0 : x1.map low = nExpires
      · rw [h0] at H2
        rcases hp : parseL x2 with ⟨pv, pq⟩
        cases pq with
        | true =>
          have H3 : Hid (readA (L.take (k + 1)) = { f with hexp := true, exp := pv }) := by
            unfold Hid
            rw [H2.out]
            unfold sayA
            rw [if_pos rfl, hp, if_pos rfl]
          have HS := fun w hT => saidExpC x1 x2 pv hp w hsx.1 hsx.2 h0 hT
          clear H2
          go_wp2_with (first
            | (go_at_call 15; (with_reducible refine (HS _ (hT.below hb)).mono ?_); rintro e w2 ⟨⟨b, rfl, hlo, hhi, hc⟩, hx⟩; have hne : b ≠ w.heap.size + 1 := (by have := o1.lt; omega); have o1 := o1.below hx o1.lt; have o0 := o0.below hx o0.lt; have hb := hb.trans (hx.mono hb.size); have HP := putExpC (w.heap.size + 1) f b pv w2 o1 hne hc; clear hx)
            | (go_at_call 20; (with_reducible refine HP.mono ?_); rintro e w3 ⟨rfl, o1, hk⟩; have o0 := o0.kept hk (by omega); have hb := hb.trans (hk.below (Nat.le_succ _) (fun x h => by cases h) hb.size); clear hk))
          go_roundw
          case rel => exact ⟨k + 1, by omega, by go_num, by rw [H3.out]; exact o1, o0, hb⟩
          case measure => simp [intOf]; omega
        | false =>
          have H3 : Hid (readA (L.take (k + 1)) = f) := by
            unfold Hid
            rw [H2.out]
            unfold sayA
            rw [if_pos rfl, hp, if_neg (by show ¬ (false = true); decide)]
          have HS := fun w hT => saidExpNoC x1 x2 pv hp w hsx.1 hsx.2 h0 hT
          clear H2
          go_wp2_with (first
            | (go_at_call 15; (with_reducible refine (HS _ (hT.below hb)).mono ?_); rintro e w2 ⟨rfl, hx⟩; have o1 := o1.below hx o1.lt; have o0 := o0.below hx o0.lt; have hb := hb.trans (hx.mono hb.size); have HP := putNoneC (w.heap.size + 1) f w2 o1; clear hx)
            | (go_at_call 30; (with_reducible refine HP.mono ?_); rintro e w3 ⟨rfl, o1, hk⟩; have o0 := o0.kept hk (by omega); have hb := hb.trans (hk.below (Nat.le_succ _) (fun x h => by cases h) hb.size); clear hk))
          go_roundw
          case rel => exact ⟨k + 1, by omega, by go_num, by rw [H3.out]; exact o1, o0, hb⟩
          case measure => simp [intOf]; omega
      by_cases h1 : x1.map low = nAge
      · rw [h1] at H2
        rcases hp : numL x2 with ⟨pv, pq⟩
        cases pq with
        | true =>
          have H3 : Hid (readA (L.take (k + 1)) = { f with hage := true, age := pv }) := by
            unfold Hid
            rw [H2.out]
            unfold sayA
            rw [if_neg (by decide), if_pos rfl, hp, if_pos rfl]
          have HS := fun w hT => saidAgeC x1 x2 pv hp w hsx.1 hsx.2 h0 h1 hT
          clear H2
          go_wp2_with (first
            | (go_at_call 15; (with_reducible refine (HS _ (hT.below hb)).mono ?_); rintro e w2 ⟨⟨b, rfl, hlo, hhi, hc⟩, hx⟩; have hne : b ≠ w.heap.size + 1 := (by have := o1.lt; omega); have o1 := o1.below hx o1.lt; have o0 := o0.below hx o0.lt; have hb := hb.trans (hx.mono hb.size); have HP := putAgeC (w.heap.size + 1) f b pv w2 o1 hne hc; clear hx)
            | (go_at_call 22; (with_reducible refine HP.mono ?_); rintro e w3 ⟨rfl, o1, hk⟩; have o0 := o0.kept hk (by omega); have hb := hb.trans (hk.below (Nat.le_succ _) (fun x h => by cases h) hb.size); clear hk))
          go_roundw
          case rel => exact ⟨k + 1, by omega, by go_num, by rw [H3.out]; exact o1, o0, hb⟩
          case measure => simp [intOf]; omega
        | false =>
          have H3 : Hid (readA (L.take (k + 1)) = f) := by
            unfold Hid
            rw [H2.out]
            unfold sayA
            rw [if_neg (by decide), if_pos rfl, hp, if_neg (by show ¬ (false = true); decide)]
          have HS := fun w hT => saidAgeNoC x1 x2 pv hp w hsx.1 hsx.2 h0 h1 hT
          clear H2
          go_wp2_with (first
            | (go_at_call 15; (with_reducible refine (HS _ (hT.below hb)).mono ?_); rintro e w2 ⟨rfl, hx⟩; have o1 := o1.below hx o1.lt; have o0 := o0.below hx o0.lt; have hb := hb.trans (hx.mono hb.size); have HP := putNoneC (w.heap.size + 1) f w2 o1; clear hx)
            | (go_at_call 30; (with_reducible refine HP.mono ?_); rintro e w3 ⟨rfl, o1, hk⟩; have o0 := o0.kept hk (by omega); have hb := hb.trans (hk.below (Nat.le_succ _) (fun x h => by cases h) hb.size); clear hk))
          go_roundw
          case rel => exact ⟨k + 1, by omega, by go_num, by rw [H3.out]; exact o1, o0, hb⟩
          case measure => simp [intOf]; omega
      by_cases h2 : x1.map low = nDomain
      · rw [h2] at H2
        by_cases hv : x2 = []
        · subst hv
          have H3 : Hid (readA (L.take (k + 1)) = f) := by
            unfold Hid
            rw [H2.out]
            unfold sayA
            rw [if_neg (by decide), if_neg (by decide), if_pos rfl, if_pos rfl]
          have HS := fun w hT => saidDomNoC x1 w hsx.1 h0 h1 h2 hT
          clear H2
          go_wp2_with (first
            | (go_at_call 15; (with_reducible refine (HS _ (hT.below hb)).mono ?_); rintro e w2 ⟨rfl, hx⟩; have o1 := o1.below hx o1.lt; have o0 := o0.below hx o0.lt; have hb := hb.trans (hx.mono hb.size); have HP := putNoneC (w.heap.size + 1) f w2 o1; clear hx)
            | (go_at_call 30; (with_reducible refine HP.mono ?_); rintro e w3 ⟨rfl, o1, hk⟩; have o0 := o0.kept hk (by omega); have hb := hb.trans (hk.below (Nat.le_succ _) (fun x h => by cases h) hb.size); clear hk))
          go_roundw
          case rel => exact ⟨k + 1, by omega, by go_num, by rw [H3.out]; exact o1, o0, hb⟩
          case measure => simp [intOf]; omega
        · skip
          have H3 : Hid (readA (L.take (k + 1)) = { f with hdom := true, dom := domL x2 }) := by
            unfold Hid
            rw [H2.out]
            unfold sayA
            rw [if_neg (by decide), if_neg (by decide), if_pos rfl, if_neg hv]
          have HS := fun w hT => saidDomC x1 x2 hv w hsx.1 hsx.2 h0 h1 h2 hT
          clear H2
          go_wp2_with (first
            | (go_at_call 15; (with_reducible refine (HS _ (hT.below hb)).mono ?_); rintro e w2 ⟨⟨b, rfl, hlo, hhi, hc⟩, hx⟩; have hne : b ≠ w.heap.size + 1 := (by have := o1.lt; omega); have o1 := o1.below hx o1.lt; have o0 := o0.below hx o0.lt; have hb := hb.trans (hx.mono hb.size); have HP := putDomC (w.heap.size + 1) f b (domL x2) w2 o1 hne hc; clear hx)
            | (go_at_call 24; (with_reducible refine HP.mono ?_); rintro e w3 ⟨rfl, o1, hk⟩; have o0 := o0.kept hk (by omega); have hb := hb.trans (hk.below (Nat.le_succ _) (fun x h => by cases h) hb.size); clear hk))
          go_roundw
          case rel => exact ⟨k + 1, by omega, by go_num, by rw [H3.out]; exact o1, o0, hb⟩
          case measure => simp [intOf]; omega
      by_cases h3 : x1.map low = nPath
      · rw [h3] at H2
        cases hp : pathB x2 with
        | true =>
          have H3 : Hid (readA (L.take (k + 1)) = { f with hpath := true, path := x2 }) := by
            unfold Hid
            rw [H2.out]
            unfold sayA
            rw [if_neg (by decide), if_neg (by decide), if_neg (by decide), if_pos rfl, hp, if_pos rfl]
          have HS := fun w hT => saidPathC x1 x2 hp w hsx.1 hsx.2 h0 h1 h2 h3 hT
          clear H2
          go_wp2_with (first
            | (go_at_call 15; (with_reducible refine (HS _ (hT.below hb)).mono ?_); rintro e w2 ⟨⟨b, rfl, hlo, hhi, hc⟩, hx⟩; have hne : b ≠ w.heap.size + 1 := (by have := o1.lt; omega); have o1 := o1.below hx o1.lt; have o0 := o0.below hx o0.lt; have hb := hb.trans (hx.mono hb.size); have HP := putPathC (w.heap.size + 1) f b x2 w2 o1 hne hc; clear hx)
            | (go_at_call 26; (with_reducible refine HP.mono ?_); rintro e w3 ⟨rfl, o1, hk⟩; have o0 := o0.kept hk (by omega); have hb := hb.trans (hk.below (Nat.le_succ _) (fun x h => by cases h) hb.size); clear hk))
          go_roundw
          case rel => exact ⟨k + 1, by omega, by go_num, by rw [H3.out]; exact o1, o0, hb⟩
          case measure => simp [intOf]; omega
        | false =>
          have H3 : Hid (readA (L.take (k + 1)) = { f with hpath := false, path := [] }) := by
            unfold Hid
            rw [H2.out]
            unfold sayA
            rw [if_neg (by decide), if_neg (by decide), if_neg (by decide), if_pos rfl, hp, if_neg (by show ¬ (false = true); decide)]
          have HS := fun w hT => saidPathNoC x1 x2 hp w hsx.1 hsx.2 h0 h1 h2 h3 hT
          clear H2
          go_wp2_with (first
            | (go_at_call 15; (with_reducible refine (HS _ (hT.below hb)).mono ?_); rintro e w2 ⟨rfl, hx⟩; have o1 := o1.below hx o1.lt; have o0 := o0.below hx o0.lt; have hb := hb.trans (hx.mono hb.size); have HP := putNoPathC (w.heap.size + 1) f w2 o1; clear hx)
            | (go_at_call 27; (with_reducible refine HP.mono ?_); rintro e w3 ⟨rfl, o1, hk⟩; have o0 := o0.kept hk (by omega); have hb := hb.trans (hk.below (Nat.le_succ _) (fun x h => by cases h) hb.size); clear hk))
          go_roundw
          case rel => exact ⟨k + 1, by omega, by go_num, by rw [H3.out]; exact o1, o0, hb⟩
          case measure => simp [intOf]; omega
      by_cases h4 : x1.map low = nSecure
      · rw [h4] at H2
        have H3 : Hid (readA (L.take (k + 1)) = { f with sec := true }) := by
          unfold Hid
          rw [H2.out]
          unfold sayA
          rw [if_neg (by decide), if_neg (by decide), if_neg (by decide), if_neg (by decide), if_pos rfl]
        have HS := fun w hT => saidSecC x1 x2 w hsx.1 hsx.2 h0 h1 h2 h3 h4 hT
        clear H2
        go_wp2_with (first
          | (go_at_call 15; (with_reducible refine (HS _ (hT.below hb)).mono ?_); rintro e w2 ⟨rfl, hx⟩; have o1 := o1.below hx o1.lt; have o0 := o0.below hx o0.lt; have hb := hb.trans (hx.mono hb.size); have HP := putSecC (w.heap.size + 1) f w2 o1; clear hx)
          | (go_at_call 28; (with_reducible refine HP.mono ?_); rintro e w3 ⟨rfl, o1, hk⟩; have o0 := o0.kept hk (by omega); have hb := hb.trans (hk.below (Nat.le_succ _) (fun x h => by cases h) hb.size); clear hk))
        go_roundw
        case rel => exact ⟨k + 1, by omega, by go_num, by rw [H3.out]; exact o1, o0, hb⟩
        case measure => simp [intOf]; omega
      by_cases h5 : x1.map low = nHttp
      · rw [h5] at H2
        have H3 : Hid (readA (L.take (k + 1)) = { f with http := true }) := by
          unfold Hid
          rw [H2.out]
          unfold sayA
          rw [if_neg (by decide), if_neg (by decide), if_neg (by decide), if_neg (by decide), if_neg (by decide), if_pos rfl]
        have HS := fun w hT => saidHttpC x1 x2 w hsx.1 hsx.2 h0 h1 h2 h3 h4 h5 hT
        clear H2
        go_wp2_with (first
          | (go_at_call 15; (with_reducible refine (HS _ (hT.below hb)).mono ?_); rintro e w2 ⟨rfl, hx⟩; have o1 := o1.below hx o1.lt; have o0 := o0.below hx o0.lt; have hb := hb.trans (hx.mono hb.size); have HP := putHttpC (w.heap.size + 1) f w2 o1; clear hx)
          | (go_at_call 29; (with_reducible refine HP.mono ?_); rintro e w3 ⟨rfl, o1, hk⟩; have o0 := o0.kept hk (by omega); have hb := hb.trans (hk.below (Nat.le_succ _) (fun x h => by cases h) hb.size); clear hk))
        go_roundw
        case rel => exact ⟨k + 1, by omega, by go_num, by rw [H3.out]; exact o1, o0, hb⟩
        case measure => simp [intOf]; omega
      have H3 : Hid (readA (L.take (k + 1)) = f) := by
        unfold Hid
        rw [H2.out]
        unfold sayA
        rw [if_neg h0, if_neg h1, if_neg h2, if_neg h3, if_neg h4, if_neg h5]
      have HS := fun w hT => saidNoneC x1 x2 w hsx.1 hsx.2 h0 h1 h2 h3 h4 h5 hT
      clear H2
      go_wp2_with (first
        | (go_at_call 15; (with_reducible refine (HS _ (hT.below hb)).mono ?_); rintro e w2 ⟨rfl, hx⟩; have o1 := o1.below hx o1.lt; have o0 := o0.below hx o0.lt; have hb := hb.trans (hx.mono hb.size); have HP := putNoneC (w.heap.size + 1) f w2 o1; clear hx)
        | (go_at_call 30; (with_reducible refine HP.mono ?_); rintro e w3 ⟨rfl, o1, hk⟩; have o0 := o0.kept hk (by omega); have hb := hb.trans (hk.below (Nat.le_succ _) (fun x h => by cases h) hb.size); clear hk))
      go_roundw
      case rel => exact ⟨k + 1, by omega, by go_num, by rw [H3.out]; exact o1, o0, hb⟩
      case measure => simp [intOf]; omega
    · obtain rfl : k = n := by omega
      have e : Hid (L.take k = L) := by unfold Hid; rw [List.take_of_length_le (by rw [Hn.out]; exact Nat.le_refl _)]
      generalize hf : readA (L.take k) = f at *
      have hf2 : Hid (readA L = f) := by unfold Hid; rw [← hf, e.out]
      clear hf
      have c0 := o1.cell 0 rfl
      have d0 := o0.cell 0 rfl
      have g0 := o0.free 0
      have c1 := o1.cell 1 rfl
      have d1 := o0.cell 1 rfl
      have g1 := o0.free 1
      have c2 := o1.cell 2 rfl
      have d2 := o0.cell 2 rfl
      have g2 := o0.free 2
      have c3 := o1.cell 3 rfl
      have d3 := o0.cell 3 rfl
      have g3 := o0.free 3
      have c4 := o1.cell 4 rfl
      have d4 := o0.cell 4 rfl
      have g4 := o0.free 4
      have c5 := o1.cell 5 rfl
      have d5 := o0.cell 5 rfl
      have g5 := o0.free 5
      have c6 := o1.cell 6 rfl
      have d6 := o0.cell 6 rfl
      have g6 := o0.free 6
      have c7 := o1.cell 7 rfl
      have d7 := o0.cell 7 rfl
      have g7 := o0.free 7
      have c8 := o1.cell 8 rfl
      have d8 := o0.cell 8 rfl
      have g8 := o0.free 8
      have c9 := o1.cell 9 rfl
      have d9 := o0.cell 9 rfl
      have g9 := o0.free 9
      go_wp2
      have o9 := ((((((((((o0.set 0 (.bool f.hexp)).set 1 (.bool f.hage)).set 2 (.bool f.hdom)).set 3 (.bool f.hpath)).set 4 (.int .i64 f.exp)).set 5 (.int .i64 f.age)).set 6 (.string (str f.dom))).set 7 (.string (str f.path))).set 8 (.bool f.sec)).set 9 (.bool f.http))
      have r0 := o9.cell 0 rfl
      have r1 := o9.cell 1 rfl
      have r2 := o9.cell 2 rfl
      have r3 := o9.cell 3 rfl
      have r4 := o9.cell 4 rfl
      have r5 := o9.cell 5 rfl
      have r6 := o9.cell 6 rfl
      have r7 := o9.cell 7 rfl
      have r8 := o9.cell 8 rfl
      have r9 := o9.cell 9 rfl
      exact bodyPost_ret (v := valF f) (by simp [results, Tryd.results9, go_sem, valF, r0, r1, r2, r3, r4, r5, r6, r7, r8, r9]) rfl ⟨by rw [hf2.out], ((((((((((hb.setCell (p := ⟨w.heap.size, 0, none⟩) (Nat.le_refl _) (.bool f.hexp)).setCell (p := ⟨w.heap.size, 1, none⟩) (Nat.le_refl _) (.bool f.hage)).setCell (p := ⟨w.heap.size, 2, none⟩) (Nat.le_refl _) (.bool f.hdom)).setCell (p := ⟨w.heap.size, 3, none⟩) (Nat.le_refl _) (.bool f.hpath)).setCell (p := ⟨w.heap.size, 4, none⟩) (Nat.le_refl _) (.int .i64 f.exp)).setCell (p := ⟨w.heap.size, 5, none⟩) (Nat.le_refl _) (.int .i64 f.age)).setCell (p := ⟨w.heap.size, 6, none⟩) (Nat.le_refl _) (.string (str f.dom))).setCell (p := ⟨w.heap.size, 7, none⟩) (Nat.le_refl _) (.string (str f.path))).setCell (p := ⟨w.heap.size, 8, none⟩) (Nat.le_refl _) (.bool f.sec)).setCell (p := ⟨w.heap.size, 9, none⟩) (Nat.le_refl _) (.bool f.http))⟩
end Go.Proofs.YtjcilpedpimdcaaDoor

/- Layer 13's laws: light attributes, the example, what attributes say, when it ends. -/
namespace Go.Proofs.YtjcilpedpimdcaaDoor
open Go.RowKit
set_option linter.unusedVariables false

/-- Attributes are few and short. -/
def lightQ (L : List (List UInt8 × List UInt8)) : Bool := decide (L.length ≤ 40) && L.all fun x => decide (x.1.length ≤ 300) && decide (x.2.length ≤ 300)

set_option maxRecDepth 100000 in
theorem light13C (a : Option Addr) (n c : Nat) (L : List (List UInt8 × List UInt8)) (w : World) (hL : RowOf encP 2 w a n c L) (hS : ∀ x ∈ L, x.1.length ≤ maxLen ∧ x.2.length ≤ maxLen) :
    Calls Tryd.prog 7 #[.slice a n c] w fun e w' => e = .returned (.bool (lightQ L)) ∧ w = w' := by
  have HL := Lib.hid hL
  have Hn : Hid (L.length = n) := hL.leq
  have hcm := hL.capm
  have hcl := hL.cle
  unfold maxLen at hcm
  have h40 := hL.leq
  unfold lightQ
  rw [h40]
  clear hL h40
  by_cases h1 : n ≤ 40
  · have h1' : ¬ (40 : Int) < (n : Int) := by omega
    rw [decide_eq_true h1, Bool.true_and]
    go_enter Tryd.func7, Tryd.ntmps7
    go_wp2
    go_loopw [3] (fun i wr => ∃ k : Nat, k ≤ n ∧ i = .int .i64 (k : Int) ∧ Hid (∀ j x, j < k → L[j]? = some x → x.1.length ≤ 300 ∧ x.2.length ≤ 300) ∧ w = wr) (fun i _ => n - (intOf i).toNat)
    case atStart => exact ⟨0, Nat.zero_le _, rfl, fun j x hj => absurd hj (Nat.not_lt_zero _), rfl⟩
    case round =>
      obtain ⟨k, hk, rfl, hall, rfl⟩ := hrel
      by_cases hlt : k < n
      · have hlt' : (k : Int) < (n : Int) := by omega
        obtain ⟨x1, x2, g, off, hx, rfl, c0, c1⟩ := pair_at HL.out k hlt
        have hmem : (x1, x2) ∈ L := by
          obtain ⟨h, e⟩ := List.getElem?_eq_some_iff.1 hx
          exact e ▸ List.getElem_mem h
        obtain ⟨m1, hm1⟩ : ∃ m, x1.length = m := ⟨_, rfl⟩
        obtain ⟨m2, hm2⟩ : ∃ m, x2.length = m := ⟨_, rfl⟩
        have z1 : (str x1).size = m1 := by rw [str_size, hm1]
        have z2 : (str x2).size = m2 := by rw [str_size, hm2]
        have hsx := hS _ hmem
        dsimp only at hsx
        rw [hm1, hm2] at hsx
        unfold maxLen at hsx
        have hno : Hid (¬ (m1 ≤ 300 ∧ m2 ≤ 300) → (L.all fun x => decide (x.1.length ≤ 300) && decide (x.2.length ≤ 300)) = false) := fun h => by
          rw [List.all_eq_false]
          refine ⟨_, hmem, ?_⟩
          dsimp only
          rw [hm1, hm2]
          simp only [Bool.and_eq_true, decide_eq_true_iff]
          exact h
        have hyes : Hid (m1 ≤ 300 ∧ m2 ≤ 300 → ∀ j x, j < k + 1 → L[j]? = some x → x.1.length ≤ 300 ∧ x.2.length ≤ 300) := fun h j x hj e => by
          by_cases hjk : j = k
          · subst hjk
            rw [hx] at e
            cases e
            rw [hm1, hm2]
            exact h
          · exact hall.out j x (by omega) e
        clear hx hmem hm1 hm2
        by_cases q1 : m1 ≤ 300
        · have q1' : ¬ (300 : Int) < (m1 : Int) := by omega
          by_cases q2 : m2 ≤ 300
          · have q2' : ¬ (300 : Int) < (m2 : Int) := by omega
            have h3 := Lib.hid (hyes.out ⟨q1, q2⟩)
            clear hno hyes
            go_wp2
            go_roundw
            case rel => exact ⟨k + 1, by omega, by go_num, h3, by first | rfl | trivial⟩
            case measure => simp [intOf]; omega
          · have q2' : (300 : Int) < (m2 : Int) := by omega
            have h3 := Lib.hid (hno.out fun h => q2 h.2)
            clear hno hyes
            go_wp2
            go_ret
            exact ⟨by rw [h3.out]; rfl, rfl⟩
        · have q1' : (300 : Int) < (m1 : Int) := by omega
          have h3 := Lib.hid (hno.out fun h => q1 h.1)
          clear hno hyes
          go_wp2
          go_ret
          exact ⟨by rw [h3.out]; rfl, rfl⟩
      · obtain rfl : k = n := by omega
        have h3 : Hid ((L.all fun x => decide (x.1.length ≤ 300) && decide (x.2.length ≤ 300)) = true) := by
          unfold Hid
          rw [List.all_eq_true]
          intro x hx
          obtain ⟨j, hj, rfl⟩ := List.getElem_of_mem hx
          have := hall.out j _ (by rw [← Hn.out]; exact hj) (List.getElem?_eq_getElem hj)
          simp only [Bool.and_eq_true, decide_eq_true_iff]
          exact this
        go_wp2
        go_ret
        exact ⟨by rw [h3.out]; rfl, rfl⟩
  · have h1' : (40 : Int) < (n : Int) := by omega
    rw [decide_eq_false h1, Bool.false_and]
    go_enter Tryd.func7, Tryd.ntmps7
    go_wp2
    go_ret
    exact ⟨rfl, rfl⟩
theorem lightQ_is {L : List (List UInt8 × List UInt8)} (h : lightQ L = true) : L.length ≤ 40 ∧ ∀ x ∈ L, x.1.length ≤ 300 ∧ x.2.length ≤ 300 := by
  unfold lightQ at h
  rw [Bool.and_eq_true, decide_eq_true_iff, List.all_eq_true] at h
  refine ⟨h.1, fun x hx => ?_⟩
  have := h.2 x hx
  rwa [Bool.and_eq_true, decide_eq_true_iff, decide_eq_true_iff] at this

def attrs13 : List (List UInt8 × List UInt8) := [([77, 97, 120, 45, 65, 103, 101], [54, 48]), ([100, 111, 109, 97, 105, 110], [46, 83, 104, 111, 112, 46, 84, 101, 115, 116])]

theorem read13 : valF (readA attrs13) = .agg #[.bool false, .bool true, .bool true, .bool false, .int .i64 0, .int .i64 60, .string ⟨#[115, 104, 111, 112, 46, 116, 101, 115, 116]⟩, .string ⟨#[]⟩, .bool false, .bool false] := by kernel_rfl

theorem eqRefFields (f : FieldsL) (w : World) : Sem.run Tryd.prog (Op.equalIn 10000 26 (valF f) (valF f)) w = Result.ok true w := by
  have hk := str_toList
  unfold valF
  simp [go_sem, hk]

theorem eqFields (f : FieldsL) (w : World) : Sem.run Tryd.prog (Op.equalIn 10000 27 (valF f) (valF f)) w = Result.ok true w := by
  have hk := str_toList
  unfold valF
  simp [go_sem, hk]

set_option maxHeartbeats 1000000 in
set_option maxRecDepth 100000 in
theorem awake13C (w : World) (hT : DTab w) : Calls Tryd.prog 8 #[] w fun e w' => e = .returned (.bool true) ∧ Below w.heap.size w w' := by
  have hb0 := below_alloc w (.cells #[.string ⟨#[77, 97, 120, 45, 65, 103, 101]⟩, .string ⟨#[54, 48]⟩, .string ⟨#[100, 111, 109, 97, 105, 110]⟩, .string ⟨#[46, 83, 104, 111, 112, 46, 84, 101, 115, 116]⟩] 39)
  have hr0 := (OwnZ.new encP_len attrs13 #[.string ⟨#[77, 97, 120, 45, 65, 103, 101]⟩, .string ⟨#[54, 48]⟩, .string ⟨#[100, 111, 109, 97, 105, 110]⟩, .string ⟨#[46, 83, 104, 111, 112, 46, 84, 101, 115, 116]⟩] rfl 2 rfl (by unfold maxLen; omega) 39 w).row encP_len
  have HR := attrsReadC _ 2 2 attrs13 _ hr0 (by decide) (hT.below hb0)
  rw [read13] at HR
  have HE : ∀ v, Calls Tryd.prog 12 #[.agg #[.bool false, .bool true, .bool true, .bool false, .int .i64 0, .int .i64 60, .string ⟨#[115, 104, 111, 112, 46, 116, 101, 115, 116]⟩, .string ⟨#[]⟩, .bool false, .bool false], .int .i64 5] v fun e w' => e = .returned (.tuple #[.int .i64 65, .bool true]) ∧ Below v.heap.size v w' := fun v =>
    attrsExpiryC false true true false 0 60 [115, 104, 111, 112, 46, 116, 101, 115, 116] [] false false 5 v (by omega)
  clear hr0
  go_enter Tryd.func8, Tryd.ntmps8
  go_wp2_with (first
    | (go_at_call 9; (with_reducible refine HR.mono ?_); rintro e w1 ⟨rfl, hx⟩; have hb1 := hb0.trans (hx.mono hb0.size); have o1 := ObjAt.new w1 #[.bool false, .bool true, .bool true, .bool false, .int .i64 0, .int .i64 60, .string ⟨#[115, 104, 111, 112, 46, 116, 101, 115, 116]⟩, .string ⟨#[]⟩, .bool false, .bool false] 27; have hb2 := hb1.alloc hb1.size (.cells #[.bool false, .bool true, .bool true, .bool false, .int .i64 0, .int .i64 60, .string ⟨#[115, 104, 111, 112, 46, 116, 101, 115, 116]⟩, .string ⟨#[]⟩, .bool false, .bool false] 27); clear hx)
    | (go_at_call 12; (with_reducible refine (HE _).mono ?_); rintro e w2 ⟨rfl, hx⟩; have o2 := o1.below hx o1.lt; have hb3 := hb2.trans (hx.mono hb2.size); have c1 := o2.cell 1 rfl; have c5 := o2.cell 5 rfl; have c6 := o2.cell 6 rfl; clear hx))
  go_ret
  exact ⟨rfl, hb3⟩

set_option maxHeartbeats 1000000 in
set_option maxRecDepth 100000 in
theorem attrsReads_walk (a : Option Addr) (n c : Nat) (L : List (List UInt8 × List UInt8)) (w : World) (hL : RowOf encP 2 w a n c L) (hS : ∀ x ∈ L, x.1.length ≤ maxLen ∧ x.2.length ≤ maxLen) (hT : DTab w) :
    Calls Tryd.prog 3 #[.slice a n c] w fun e w' => e = .returned (.bool true) ∧ Below w.heap.size w w' := by
  have hb := Below.refl w.heap.size w
  have HL := light13C a n c L w hL hS
  cases hlt : lightQ L with
  | false =>
    rw [hlt] at HL
    clear hL hS
    go_enter Tryd.func3, Tryd.ntmps3
    go_wp2_with (first
      | (go_at_call 7; (with_reducible refine HL.mono ?_); rintro e w1 ⟨rfl, rfl⟩)
      | (go_at_call 8; (with_reducible refine (awake13C _ hT).mono ?_); rintro e w1 ⟨rfl, hx⟩))
    go_ret
    exact ⟨rfl, hx⟩
  | true =>
    rw [hlt] at HL
    obtain ⟨hl1, hl2⟩ := lightQ_is hlt
    have hn40 : n ≤ 100000 := by rw [← hL.leq]; omega
    have hS1 : ∀ x ∈ L, x.1.length ≤ 100000 ∧ x.2.length ≤ 100000 := fun x hx => by have := hl2 x hx; omega
    have HO := ownC a n c L w hL hn40
    have HP := fun b d v (h : RowOf encP 2 v b n d L) t => attrsReadC b n d L v h hS1 t
    have HR := fun v (h : RowOf encP 2 v a n c L) => refReadC a n c L v h hS1
    have hE := eqRefFields (readA L)
    generalize readA L = f at *
    unfold valF at HP HR hE
    obtain ⟨a0, a1, a2, a3, a4, a5, a6, a7, a8, a9⟩ := f
    dsimp only at HP HR hE
    clear hl1 hl2 hS hlt hS1
    go_enter Tryd.func3, Tryd.ntmps3
    go_wp2_with (first
      | (go_at_call 7; (with_reducible refine HL.mono ?_); rintro e w1 ⟨rfl, rfl⟩)
      | (go_at_call 10; (with_reducible refine HO.mono ?_); rintro e w1 ⟨b, d, rfl, hO, hx⟩; have hr := hO.row encP_len; have hL := hL.below hx; have hT := hT.below hx; have hb := hb.trans hx; clear hx)
      | (go_at_call 9; (with_reducible refine (HP _ _ _ hr hT).mono ?_); rintro e w2 ⟨rfl, hx⟩; have hL := hL.below hx; have hT := hT.below hx; have hb := hb.trans (hx.mono hb.size); clear hx)
      | (go_at_call 11; (with_reducible refine (HR _ hL).mono ?_); rintro e w3 ⟨rfl, hx⟩; have hT := hT.below hx; have hb := hb.trans (hx.mono hb.size); clear hx)
      | (go_at_call 8; (with_reducible refine (awake13C _ hT).mono ?_); rintro e w4 ⟨rfl, hx⟩; have hb := hb.trans (hx.mono hb.size); clear hx))
    go_ret
    exact ⟨rfl, hb⟩
end Go.Proofs.YtjcilpedpimdcaaDoor

/- How fields as an argument are opened. -/
namespace Go.Proofs.YtjcilpedpimdcaaDoor
open Go.ChangeShapes Go.WideShapes Go.ChangeAt Go.RowKit
set_option linter.unusedVariables false

theorem open_fields {H : Type} {enc : TypeId × Value → H} {w : World} {r : Reach} {b0 : Nat} {v : Value} {d : DataW H} {p : List MemPlace} (hv : Value.okWide Tryd.prog w r b0 26 v) (h : DataW.Trod enc Tryd.prog w 0 (fun _ => true) true 26 v d p) :
    ∃ (h0 h1 h2 h3 : Bool) (ex ag : Int) (dm pa : List UInt8) (se ht : Bool), v = .agg #[.bool h0, .bool h1, .bool h2, .bool h3, .int .i64 ex, .int .i64 ag, .string (str dm), .string (str pa), .bool se, .bool ht] ∧ (Lit.int .i64 ag).wf = true := by
  obtain ⟨cs, rfl, hl⟩ := open_flat 3 [.flag, .flag, .flag, .flag, .num .i64, .num .i64, .text, .text, .flag, .flag] Tryd.underlying26 (by kernel_rfl) hv h
  obtain ⟨l⟩ := cs
  have q0 : leavesOk [.flag, .flag, .flag, .flag, .num .i64, .num .i64, .text, .text, .flag, .flag] l := hl
  clear hl
  obtain ⟨v0, l0, e0, ⟨h0, rfl⟩, q1⟩ := leaves_cons q0
  obtain ⟨v1, l1, e1, ⟨h1, rfl⟩, q2⟩ := leaves_cons q1
  obtain ⟨v2, l2, e2, ⟨h2, rfl⟩, q3⟩ := leaves_cons q2
  obtain ⟨v3, l3, e3, ⟨h3, rfl⟩, q4⟩ := leaves_cons q3
  obtain ⟨v4, l4, e4, ⟨ex, rfl, -⟩, q5⟩ := leaves_cons q4
  obtain ⟨v5, l5, e5, ⟨ag, rfl, hw⟩, q6⟩ := leaves_cons q5
  obtain ⟨v6, l6, e6, ⟨dm, rfl, -⟩, q7⟩ := leaves_cons q6
  obtain ⟨v7, l7, e7, ⟨pa, rfl, -⟩, q8⟩ := leaves_cons q7
  obtain ⟨v8, l8, e8, ⟨se, rfl⟩, q9⟩ := leaves_cons q8
  obtain ⟨v9, l9, e9, ⟨ht, rfl⟩, q10⟩ := leaves_cons q9
  have e10 := leaves_nil q10
  subst e10 e9 e8 e7 e6 e5 e4 e3 e2 e1 e0
  exact ⟨h0, h1, h2, h3, ex, ag, dm, pa, se, ht, rfl, hw⟩
end Go.Proofs.YtjcilpedpimdcaaDoor

/- Layer 13's laws, walked: when it ends; said twice; in small letters. -/
namespace Go.Proofs.YtjcilpedpimdcaaDoor
open Go.RowKit
set_option linter.unusedVariables false

set_option maxHeartbeats 1000000 in
set_option maxRecDepth 100000 in
theorem attrsExpire_walk (h0 h1 h2 h3 : Bool) (ex ag : Int) (dm pa : List UInt8) (se ht : Bool) (now : Int) (w : World) (ha : (Lit.int .i64 ag).wf = true) (hn : (Lit.int .i64 now).wf = true) (hT : DTab w) :
    Calls Tryd.prog 4 #[.agg #[.bool h0, .bool h1, .bool h2, .bool h3, .int .i64 ex, .int .i64 ag, .string (str dm), .string (str pa), .bool se, .bool ht], .int .i64 now] w fun e w' => e = .returned (.bool true) ∧ Below w.heap.size w w' := by
  have ha2 : -9223372036854775808 ≤ ag ∧ ag ≤ 9223372036854775807 := wfI64 ha
  have hb0 := below_alloc w (.cells #[.bool h0, .bool h1, .bool h2, .bool h3, .int .i64 ex, .int .i64 ag, .string (str dm), .string (str pa), .bool se, .bool ht] 26)
  have o0 := ObjAt.new w #[.bool h0, .bool h1, .bool h2, .bool h3, .int .i64 ex, .int .i64 ag, .string (str dm), .string (str pa), .bool se, .bool ht] 26
  have HP := fun v => attrsExpiryC h0 h1 h2 h3 ex ag dm pa se ht now v ha2
  have HR := fun v => refExpiryC h0 h1 h2 h3 ex ag dm pa se ht now v ha2
  have hT := hT.below hb0
  generalize expiryA ⟨h0, h1, h2, h3, ex, ag, dm, pa, se, ht⟩ now = r at *
  obtain ⟨r1, r2⟩ := r
  dsimp only at *
  have hrr : (r2 == r2) = true := by simp
  clear ha hn ha2
  go_enter Tryd.func4, Tryd.ntmps4
  go_wp2_with (first
    | (go_at_call 12; (with_reducible refine (HP _).mono ?_); rintro e w1 ⟨rfl, hx⟩; have o1 := o0.below hx o0.lt; have hT := hT.below hx; have hb1 := hb0.trans (hx.mono hb0.size); have c0 := o1.cell 0 rfl; have c1 := o1.cell 1 rfl; have c2 := o1.cell 2 rfl; have c3 := o1.cell 3 rfl; have c4 := o1.cell 4 rfl; have c5 := o1.cell 5 rfl; have c6 := o1.cell 6 rfl; have c7 := o1.cell 7 rfl; have c8 := o1.cell 8 rfl; have c9 := o1.cell 9 rfl; clear hx)
    | (go_at_call 13; (with_reducible refine (HR _).mono ?_); rintro e w2 ⟨rfl, hx⟩; have hT := hT.below hx; have hb2 := hb1.trans (hx.mono hb1.size); clear hx)
    | (go_at_call 8; (with_reducible refine (awake13C _ hT).mono ?_); rintro e w3 ⟨rfl, hx⟩; have hb3 := hb2.trans (hx.mono hb2.size); clear hx))
  go_ret
  exact ⟨rfl, hb3⟩

set_option maxHeartbeats 1000000 in
set_option maxRecDepth 100000 in
theorem attrsLast_walk (a : Option Addr) (n c : Nat) (L : List (List UInt8 × List UInt8)) (w : World) (hL : RowOf encP 2 w a n c L) (hS : ∀ x ∈ L, x.1.length ≤ maxLen ∧ x.2.length ≤ maxLen) (hT : DTab w) :
    Calls Tryd.prog 5 #[.slice a n c] w fun e w' => e = .returned (.bool true) ∧ Below w.heap.size w w' := by
  have HL := light13C a n c L w hL hS
  cases hlt : lightQ L with
  | false =>
    rw [hlt] at HL
    clear hL hS
    go_enter Tryd.func5, Tryd.ntmps5
    go_wp2_with (first
      | (go_at_call 7; (with_reducible refine HL.mono ?_); rintro e w1 ⟨rfl, rfl⟩)
      | (go_at_call 8; (with_reducible refine (awake13C _ hT).mono ?_); rintro e w1 ⟨rfl, hx⟩))
    go_ret
    exact ⟨rfl, hx⟩
  | true =>
    rw [hlt] at HL
    obtain ⟨hl1, hl2⟩ := lightQ_is hlt
    have hn40 : n ≤ 40 := by rw [← hL.leq]; omega
    have hS1 : ∀ x ∈ L, x.1.length ≤ 100000 ∧ x.2.length ≤ 100000 := fun x hx => by have := hl2 x hx; omega
    have hS2 : ∀ x ∈ L ++ L, x.1.length ≤ 100000 ∧ x.2.length ≤ 100000 := fun x hx => (List.mem_append.1 hx).elim (hS1 x) (hS1 x)
    obtain ⟨i0, hi, hz0, hz1, hz2⟩ := info_parts infoRefPair
    have hb0 := below_alloc w (.cells #[] 38)
    have hO0 := OwnZ.lit encP 2 38 w
    have hL0 := hL.below hb0
    have HO := fun b d v m P (h : RowOf encP 2 v b m d P) (hm : m ≤ 100000) => ownC b m d P v h hm
    have HP1 := fun b d v (h : RowOf encP 2 v b (n + n) d (L ++ L)) t => attrsReadC b (n + n) d (L ++ L) v h hS2 t
    have HP2 := fun b d v (h : RowOf encP 2 v b n d L) t => attrsReadC b n d L v h hS1 t
    rw [read_twice] at HP1
    have hE := eqFields (readA L)
    generalize readA L = f at *
    unfold valF at HP1 HP2 hE
    obtain ⟨a0, a1, a2, a3, a4, a5, a6, a7, a8, a9⟩ := f
    dsimp only at HP1 HP2 hE
    clear hl1 hl2 hS hlt hS1 hS2
    go_enter Tryd.func5, Tryd.ntmps5
    go_wp2_with (first
      | (go_at_call 7; (with_reducible refine HL.mono ?_); rintro e w1 ⟨rfl, rfl⟩)
      | (at_builtin; refine wpList_append_rows encP_len (by decide) encP_one rfl (.tmp 8) (.tmp 9) 22 rfl 38 i0 (.agg #[.string ⟨#[]⟩, .string ⟨#[]⟩]) 32 Tryd.underlying22 hi hz0 hz1 hz2 rfl hO0 rfl hL0 rfl n (Nat.zero_add n) (by unfold maxLen; omega) (by omega) (by simp) ?_; intro a2 c2 w2 hO2 hb2 hg2 ha2; rw [List.nil_append] at hO2; have hL2 := hL.below ((hb0.trans hb2)); have hb2 := hb0.trans hb2)
      | (at_builtin; refine wpList_append_rows encP_len (by decide) encP_one rfl (.tmp 10) (.tmp 11) 22 rfl 38 i0 (.agg #[.string ⟨#[]⟩, .string ⟨#[]⟩]) 32 Tryd.underlying22 hi hz0 hz1 hz2 rfl hO2 rfl hL2 rfl (n + n) rfl (by unfold maxLen; omega) (by omega) hb2.size ?_; intro a3 c3 w3 hO3 hb3 hg3 ha3; have hL3 := hL.below (hb2.trans hb3); have hr3 := hO3.row encP_len; have hb3 := hb2.trans hb3; have hT := hT.below hb3)
      | (go_at_call 10; (with_reducible refine (HO _ _ _ _ _ hr3 (by omega)).mono ?_); rintro e w4 ⟨b4, d4, rfl, hO4, hx⟩; have hr4 := hO4.row encP_len; have hL4 := hL3.below hx; have hT4 := hT.below hx; have hb4 := hb3.trans (hx.mono hb3.size); clear hx)
      | (go_at_call 9; (with_reducible refine (HP1 _ _ _ hr4 hT4).mono ?_); rintro e w5 ⟨rfl, hx⟩; have hL5 := hL4.below hx; have hT5 := hT4.below hx; have hb5 := hb4.trans (hx.mono hb4.size); clear hx)
      | (go_at_call 10; (with_reducible refine (HO _ _ _ _ _ hL5 (by omega)).mono ?_); rintro e w6 ⟨b6, d6, rfl, hO6, hx⟩; have hr6 := hO6.row encP_len; have hT6 := hT5.below hx; have hb6 := hb5.trans (hx.mono hb5.size); clear hx)
      | (go_at_call 9; (with_reducible refine (HP2 _ _ _ hr6 hT6).mono ?_); rintro e w7 ⟨rfl, hx⟩; have hT7 := hT6.below hx; have hb7 := hb6.trans (hx.mono hb6.size); clear hx)
      | (go_at_call 8; (with_reducible refine (awake13C _ hT7).mono ?_); rintro e w8 ⟨rfl, hx⟩; have hb8 := hb7.trans (hx.mono hb7.size); clear hx))
    go_ret
    exact ⟨rfl, hb8⟩
end Go.Proofs.YtjcilpedpimdcaaDoor

/- Layer 13's laws, walked: names made small. -/
namespace Go.Proofs.YtjcilpedpimdcaaDoor
open Go.RowKit
set_option linter.unusedVariables false

def smallP (x : List UInt8 × List UInt8) : List UInt8 × List UInt8 := (x.1.map low, x.2)

set_option maxHeartbeats 2000000 in
set_option maxRecDepth 100000 in
theorem attrsLetters_walk (a : Option Addr) (n c : Nat) (L : List (List UInt8 × List UInt8)) (w : World) (hL : RowOf encP 2 w a n c L) (hS : ∀ x ∈ L, x.1.length ≤ maxLen ∧ x.2.length ≤ maxLen) (hT : DTab w) :
    Calls Tryd.prog 6 #[.slice a n c] w fun e w' => e = .returned (.bool true) ∧ Below w.heap.size w w' := by
  have HL := light13C a n c L w hL hS
  cases hlt : lightQ L with
  | false =>
    rw [hlt] at HL
    clear hL hS
    go_enter Tryd.func6, Tryd.ntmps6
    go_wp2_with (first
      | (go_at_call 7; (with_reducible refine HL.mono ?_); rintro e w1 ⟨rfl, rfl⟩)
      | (go_at_call 8; (with_reducible refine (awake13C _ hT).mono ?_); rintro e w1 ⟨rfl, hx⟩))
    go_ret
    exact ⟨rfl, hx⟩
  | true =>
    rw [hlt] at HL
    obtain ⟨hl1, hl2⟩ := lightQ_is hlt
    have hn40 : n ≤ 40 := by rw [← hL.leq]; omega
    have hcm := hL.capm
    have hcl := hL.cle
    unfold maxLen at hcm
    have HL2 := Lib.hid hL
    have Hn : Hid (L.length = n) := hL.leq
    have hS1 : ∀ x ∈ L, x.1.length ≤ 100000 ∧ x.2.length ≤ 100000 := fun x hx => by have := hl2 x hx; omega
    have hS2 : ∀ x ∈ L.map smallP, x.1.length ≤ 100000 ∧ x.2.length ≤ 100000 := fun x hx => by
      obtain ⟨y, hy, rfl⟩ := List.mem_map.1 hx
      have := hS1 y hy
      unfold smallP
      rw [List.length_map]
      exact this
    obtain ⟨i0, hi, hz0, hz1, hz2⟩ := info_parts infoRefPair
    have hb0 := below_alloc w (.cells #[] 38)
    have hO0 := OwnZ.lit encP 2 38 w
    have HO := fun b d v m P (h : RowOf encP 2 v b m d P) (hm : m ≤ 100000) => ownC b m d P v h hm
    have HP1 := fun b d v (h : RowOf encP 2 v b n d (L.map smallP)) t => attrsReadC b n d (L.map smallP) v h hS2 t
    have HP2 := fun b d v (h : RowOf encP 2 v b n d L) t => attrsReadC b n d L v h hS1 t
    have hrs : readA (L.map smallP) = readA L := read_small L
    rw [hrs] at HP1
    have hE := eqFields (readA L)
    generalize readA L = f at *
    unfold valF at HP1 HP2 hE
    obtain ⟨a0, a1, a2, a3, a4, a5, a6, a7, a8, a9⟩ := f
    dsimp only at HP1 HP2 hE
    clear hl1 hS hlt hL
    go_enter Tryd.func6, Tryd.ntmps6
    go_wp2_with (first
      | (go_at_call 7; (with_reducible refine HL.mono ?_); rintro e w1 ⟨rfl, rfl⟩))
    go_loopw [3, 4] (fun l i wr => ∃ (k : Nat) (b : Option Addr) (C : Nat), k ≤ n ∧ l = .slice b k C ∧ i = .int .i64 (k : Int) ∧ OwnZ encP 2 w.heap.size 38 b k C ((L.map smallP).take k) wr ∧ Below w.heap.size w wr) (fun _ i _ => n - (intOf i).toNat)
    case atStart => exact ⟨0, _, _, Nat.zero_le _, rfl, rfl, hO0, hb0⟩
    case round =>
      clear hO0 hb0
      obtain ⟨k, b, C, hk, rfl, rfl, hO, hB⟩ := hrel
      have hbs := hB.size
      by_cases hlt : k < n
      · have hlt' : (k : Int) < (n : Int) := by omega
        obtain ⟨x1, x2, g, off, hx, rfl, c0, c1⟩ := pair_at (HL2.out.below hB) k hlt
        have hst : Hid ((L.map smallP).take (k + 1) = (L.map smallP).take k ++ [(x1.map low, x2)]) := take_snoc' (by rw [List.getElem?_map, hx]; rfl)
        have hsx := hS1 (x1, x2) (by obtain ⟨h, e⟩ := List.getElem?_eq_some_iff.1 hx; exact e ▸ List.getElem_mem h)
        dsimp only at hsx
        have HX := fun w => refLowerC x1 x1.length w rfl (by unfold maxLen; omega)
        unfold GivesStr at HX
        clear hx
        generalize x1.map low = y at *
        have hdr : Below wr.heap.size wr wr.drew := (Below.refl _ wr).drew
        have e1 := (hdr.cell (cell_lt c1)).trans c1
        have hOd := hO.below hdr (Nat.le_refl _)
        have hBd := hB.trans (hdr.mono hB.size)
        go_wp2_with fail
        go_region_law (first
          | ((try go_simp); go_at_call 14; (refine (HX _).mono ?_); rintro e w2 ⟨rfl, hx⟩; have d1 := (hx.cell (cell_lt e1)).trans e1; have hO2 := hOd.below hx (Nat.le_refl _); have hB2 := hBd.trans (hx.mono hBd.size); clear hx)
          | (refine step_append_row1 encP_len (by decide) encP_one (by rfl) (.tmp 16) (.tmp 29) 22 (by rfl) 38 i0 (.agg #[.string ⟨#[]⟩, .string ⟨#[]⟩]) 32 Tryd.underlying22 hi hz0 hz1 hz2 rfl hO2 rfl (y, x2) rfl rfl (k + 1) rfl (by unfold maxLen; omega) (by omega) hB2.size ?_; intro a2 c2 w7 hO7 hb7 hg7 ha7))
        all_goals
          go_wp2
          go_roundw
          case rel => exact ⟨k + 1, a2, c2, by omega, rfl, by go_num, by rw [hst.out]; exact hO7, hB2.trans hb7⟩
          case measure => simp [intOf]; omega
      · obtain rfl : k = n := by omega
        have e : Hid ((L.map smallP).take k = L.map smallP) := by unfold Hid; rw [List.take_of_length_le (by rw [List.length_map, Hn.out]; exact Nat.le_refl _)]
        rw [e.out] at hO
        have hr3 := hO.row encP_len
        have hL3 := HL2.out.below hB
        have hT3 := hT.below hB
        go_wp2_with (first
          | (go_at_call 10; (with_reducible refine (HO _ _ _ _ _ hr3 (by omega)).mono ?_); rintro e w4 ⟨b4, d4, rfl, hO4, hx⟩; have hr4 := hO4.row encP_len; have hL4 := hL3.below hx; have hT4 := hT3.below hx; have hb4 := hB.trans (hx.mono hB.size); clear hx)
          | (go_at_call 9; (with_reducible refine (HP1 _ _ _ hr4 hT4).mono ?_); rintro e w5 ⟨rfl, hx⟩; have hL5 := hL4.below hx; have hT5 := hT4.below hx; have hb5 := hb4.trans (hx.mono hb4.size); clear hx)
          | (go_at_call 10; (with_reducible refine (HO _ _ _ _ _ hL5 (by omega)).mono ?_); rintro e w6 ⟨b6, d6, rfl, hO6, hx⟩; have hr6 := hO6.row encP_len; have hT6 := hT5.below hx; have hb6 := hb5.trans (hx.mono hb5.size); clear hx)
          | (go_at_call 9; (with_reducible refine (HP2 _ _ _ hr6 hT6).mono ?_); rintro e w7 ⟨rfl, hx⟩; have hT7 := hT6.below hx; have hb7 := hb6.trans (hx.mono hb6.size); clear hx)
          | (go_at_call 8; (with_reducible refine (awake13C _ hT7).mono ?_); rintro e w8 ⟨rfl, hx⟩; have hb8 := hb7.trans (hx.mono hb7.size); clear hx))
        go_ret
        exact ⟨rfl, hb8⟩
end Go.Proofs.YtjcilpedpimdcaaDoor
