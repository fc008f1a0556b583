/- Contracts and plain words that the laws' proofs stand on, put together. -/
import Derived.Test.YtelgaglnmcggkaaGreatDoorLibAH
import Derived.Test.YtelgaglnmcggkaaGreatDoorDotRef2
import Derived.Test.YtelgaglnmcggkaaGreatDoorLibAJ
import Derived.Test.YtelgaglnmcggkaaGreatDoorLibAA
import Derived.Deep.RegionHeld3
import Derived.BigQuiet
import Derived.DeepKeys4
import Derived.Maps.OwnOps
import Derived.Maps.OwnSet
import Derived.Maps.Views
import Derived.Maps.RangeWalk
import Derived.WalkSpells
/- Vectors in plain words: marks in order, how far each actor was heard. No program in it. -/
namespace Go.Proofs.YtelgaglnmcggkaaGreatDoor
open Go.RowKit
set_option linter.unusedVariables false

def sameA (x y : DotN) : Bool := x.dev == y.dev && x.inc == y.inc
def aheadD (x y : DotN) : Bool := aheadA x.dev x.inc y.dev y.inc
theorem sameA_iff {x y : DotN} : sameA x y = true ↔ x.dev = y.dev ∧ x.inc = y.inc := by unfold sameA; rw [Bool.and_eq_true, beq_iff_eq, beq_iff_eq]
theorem aheadD_iff {x y : DotN} : aheadD x y = true ↔ x.dev < y.dev ∨ (x.dev = y.dev ∧ x.inc < y.inc) := by
  unfold aheadD aheadA
  by_cases h : x.dev = y.dev
  · rw [if_neg (fun c => c h), decide_eq_true_iff]
    omega
  · rw [if_pos h, decide_eq_true_iff]
    omega
theorem aheadD_no {x y : DotN} : aheadD x y = false ↔ ¬ (x.dev < y.dev ∨ (x.dev = y.dev ∧ x.inc < y.inc)) := by rw [← aheadD_iff, Bool.not_eq_true]
theorem sameA_no {x y : DotN} : sameA x y = false ↔ ¬ (x.dev = y.dev ∧ x.inc = y.inc) := by rw [← sameA_iff, Bool.not_eq_true]

/-- Marks in order. -/
def OrdV (l : List DotN) : Prop := l.Pairwise fun x y => aheadD x y = true
structure OkV (l : List DotN) : Prop where
  ord : OrdV l
  right : ∀ x ∈ l, rightD x = true

theorem OrdV.sorted {l : List DotN} (h : OrdV l) : SortedD l := List.Pairwise.imp (fun {x y} h => by rw [lessD_iff]; rw [aheadD_iff] at h; omega) h

/-- An actor's number: 0, if there is none. -/
def getV : List DotN → Int → Int → Int
  | [], _, _ => 0
  | y :: t, d, i => if y.dev = d ∧ y.inc = i then y.seq else getV t d i
theorem getV_none {l : List DotN} {d i : Int} (h : ∀ y ∈ l, ¬ (y.dev = d ∧ y.inc = i)) : getV l d i = 0 := by
  induction l with
  | nil => rfl
  | cons y t ih =>
    unfold getV
    rw [if_neg (h y (List.mem_cons_self ..))]
    exact ih fun z hz => h z (List.mem_cons_of_mem _ hz)
theorem getV_app {a b : List DotN} {d i : Int} (h : ∀ y ∈ a, ¬ (y.dev = d ∧ y.inc = i)) : getV (a ++ b) d i = getV b d i := by
  induction a with
  | nil => rfl
  | cons y t ih =>
    rw [List.cons_append, getV, if_neg (h y (List.mem_cons_self ..))]
    exact ih fun z hz => h z (List.mem_cons_of_mem _ hz)
theorem getV_mem {l : List DotN} (h : OrdV l) {x : DotN} (hx : x ∈ l) : getV l x.dev x.inc = x.seq := by
  induction l with
  | nil => cases hx
  | cons y t ih =>
    obtain ⟨h1, h2⟩ := List.pairwise_cons.1 h
    unfold getV
    rcases List.mem_cons.1 hx with rfl | hx
    · rw [if_pos ⟨rfl, rfl⟩]
    · have := h1 x hx
      rw [aheadD_iff] at this
      rw [if_neg (by omega)]
      exact ih h2 hx
theorem getV_some {l : List DotN} {d i : Int} (h : getV l d i ≠ 0) : ∃ x ∈ l, x.dev = d ∧ x.inc = i ∧ x.seq = getV l d i := by
  induction l with
  | nil => exact absurd rfl h
  | cons y t ih =>
    unfold getV at h ⊢
    by_cases c : y.dev = d ∧ y.inc = i
    · rw [if_pos c]
      exact ⟨y, List.mem_cons_self .., c.1, c.2, rfl⟩
    · rw [if_neg c] at h ⊢
      obtain ⟨x, hx, e⟩ := ih h
      exact ⟨x, List.mem_cons_of_mem _ hx, e⟩
theorem getV_range {l : List DotN} (h : OkV l) (d i : Int) : 0 ≤ getV l d i ∧ getV l d i ≤ 4294967296 := by
  by_cases c : getV l d i = 0
  · rw [c]; omega
  · obtain ⟨x, hx, _, _, e⟩ := getV_some c
    have := right_range (h.right x hx)
    rw [← e]
    omega

/-- Marks are what their numbers say. -/
theorem okV_ext {l m : List DotN} (hl : OkV l) (hm : OkV m) (h : ∀ d i, getV l d i = getV m d i) : l = m := by
  have key : ∀ {a b : List DotN}, OkV a → OkV b → (∀ d i, getV a d i = getV b d i) → ∀ x ∈ a, x ∈ b := by
    intro a b ha hb hab x hx
    have e := getV_mem ha.ord hx
    have hr := right_range (ha.right x hx)
    have hne : getV b x.dev x.inc ≠ 0 := by rw [← hab, e]; omega
    obtain ⟨y, hy, e1, e2, e3⟩ := getV_some hne
    rw [← hab, e] at e3
    have : y = x := DotN.ext' e1 e2 e3
    rw [← this]
    exact hy
  exact sorted_unique hl.ord.sorted hm.ord.sorted fun x => ⟨key hl hm h x, key hm hl (fun d i => (h d i).symm) x⟩

def setStep (x : DotN) (s : List DotN × Bool) (y : DotN) : List DotN × Bool :=
  let s1 := if (!s.2 && !aheadD y x) = true then (s.1 ++ [x], true) else s
  if sameA y x = true then s1 else (s1.1 ++ [y], s1.2)
/-- Marks with another number of an actor. -/
def setV (l : List DotN) (x : DotN) : List DotN := if (l.foldl (setStep x) ([], false)).2 = true then (l.foldl (setStep x) ([], false)).1 else (l.foldl (setStep x) ([], false)).1 ++ [x]

theorem set_true (x : DotN) : ∀ (t o : List DotN), t.foldl (setStep x) (o, true) = (o ++ t.filter (fun y => !sameA y x), true)
  | [], o => by simp
  | y :: t, o => by
    rw [List.foldl_cons]
    cases h : sameA y x with
    | true =>
      have e : setStep x (o, true) y = (o, true) := by simp [setStep, h]
      rw [e, set_true x t o, List.filter_cons_of_neg (by simp [h])]
    | false =>
      have e : setStep x (o, true) y = (o ++ [y], true) := by simp [setStep, h]
      rw [e, set_true x t, List.filter_cons_of_pos (by simp [h])]
      simp

theorem set_is {l : List DotN} (hl : OrdV l) (x : DotN) : setV l x = l.filter (fun y => aheadD y x) ++ x :: l.filter (fun y => aheadD x y) := by
  have key : ∀ (l out : List DotN), OrdV l → (l.foldl (setStep x) (out, false) = (out ++ l, false) ∧ l.filter (fun y => aheadD y x) = l ∧ l.filter (fun y => aheadD x y) = []) ∨ l.foldl (setStep x) (out, false) = (out ++ l.filter (fun y => aheadD y x) ++ x :: l.filter (fun y => aheadD x y), true) := by
    intro l
    induction l with
    | nil => exact fun out _ => .inl ⟨by simp, rfl, rfl⟩
    | cons y t ih =>
      intro out h
      obtain ⟨h1, h2⟩ := List.pairwise_cons.1 h
      rw [List.foldl_cons]
      cases hy : aheadD y x with
      | true =>
        have hs : sameA y x = false := by rw [sameA_no]; rw [aheadD_iff] at hy; omega
        have hn : aheadD x y = false := by rw [aheadD_no]; rw [aheadD_iff] at hy; omega
        have e : setStep x (out, false) y = (out ++ [y], false) := by simp [setStep, hy, hs]
        rw [e, List.filter_cons_of_pos (p := fun y => aheadD y x) hy, List.filter_cons_of_neg (p := fun y => aheadD x y) (by rw [hn]; exact Bool.false_ne_true)]
        rcases ih (out ++ [y]) h2 with ⟨a, b, c⟩ | a
        · exact .inl ⟨by rw [a]; simp, by rw [b], c⟩
        · exact .inr (by rw [a]; simp)
      | false =>
        have hall : ∀ z ∈ t, aheadD x z = true ∧ aheadD z x = false ∧ sameA z x = false := by
          intro z hz
          have := h1 z hz
          rw [aheadD_iff] at this
          rw [aheadD_no] at hy
          refine ⟨?_, ?_, ?_⟩
          · rw [aheadD_iff]; omega
          · rw [aheadD_no]; omega
          · rw [sameA_no]; omega
        have f1 : t.filter (fun y => aheadD y x) = [] := by
          rw [List.filter_eq_nil_iff]
          intro z hz
          rw [(hall z hz).2.1]
          exact Bool.false_ne_true
        have f2 : t.filter (fun y => aheadD x y) = t := by
          rw [List.filter_eq_self]
          intro z hz
          exact (hall z hz).1
        have f3 : t.filter (fun y => !sameA y x) = t := by
          rw [List.filter_eq_self]
          intro z hz
          rw [(hall z hz).2.2]
          rfl
        right
        rw [List.filter_cons_of_neg (p := fun y => aheadD y x) (by rw [hy]; exact Bool.false_ne_true), f1]
        cases hs : sameA y x with
        | true =>
          have hn : aheadD x y = false := by rw [aheadD_no]; rw [sameA_iff] at hs; omega
          have e : setStep x (out, false) y = (out ++ [x], true) := by simp [setStep, hy, hs]
          rw [e, set_true, f3, List.filter_cons_of_neg (p := fun y => aheadD x y) (by rw [hn]; exact Bool.false_ne_true), f2]
          simp
        | false =>
          have hn : aheadD x y = true := by
            rw [aheadD_no] at hy
            rw [sameA_no] at hs
            rw [aheadD_iff]
            omega
          have e : setStep x (out, false) y = (out ++ [x] ++ [y], true) := by simp [setStep, hy, hs]
          rw [e, set_true, f3, List.filter_cons_of_pos (p := fun y => aheadD x y) hn, f2]
          simp
  unfold setV
  rcases key l [] hl with ⟨a, b, c⟩ | a
  · rw [a, b, c]
    simp
  · rw [a]
    simp

theorem set_ok {l : List DotN} (hl : OkV l) {x : DotN} (hx : rightD x = true) : OkV (setV l x) := by
  rw [set_is hl.ord]
  constructor
  · refine List.pairwise_append.2 ⟨hl.ord.filter _, List.pairwise_cons.2 ⟨fun y hy => (List.mem_filter.1 hy).2, hl.ord.filter _⟩, fun a ha b hb => ?_⟩
    have h1 := (List.mem_filter.1 ha).2
    rcases List.mem_cons.1 hb with rfl | hb
    · exact h1
    · have h2 := (List.mem_filter.1 hb).2
      rw [aheadD_iff] at *
      omega
  · intro y hy
    rcases List.mem_append.1 hy with h | h
    · exact hl.right y (List.mem_filter.1 h).1
    · rcases List.mem_cons.1 h with rfl | h
      · exact hx
      · exact hl.right y (List.mem_filter.1 h).1

theorem getV_filter {l : List DotN} (p : DotN → Bool) {d i : Int} (h : ∀ y ∈ l, y.dev = d → y.inc = i → p y = true) : getV (l.filter p) d i = getV l d i := by
  induction l with
  | nil => rfl
  | cons y t ih =>
    have ht := ih fun z hz => h z (List.mem_cons_of_mem _ hz)
    by_cases c : y.dev = d ∧ y.inc = i
    · rw [List.filter_cons_of_pos (h y (List.mem_cons_self ..) c.1 c.2), getV, getV, if_pos c, if_pos c]
    · cases hp : p y with
      | true => rw [List.filter_cons_of_pos hp, getV, getV, if_neg c, if_neg c, ht]
      | false => rw [List.filter_cons_of_neg (by rw [hp]; exact Bool.false_ne_true), getV, if_neg c, ht]

theorem getV_set {l : List DotN} (hl : OrdV l) (x : DotN) (d i : Int) : getV (setV l x) d i = if x.dev = d ∧ x.inc = i then x.seq else getV l d i := by
  rw [set_is hl]
  by_cases c : x.dev = d ∧ x.inc = i
  · rw [if_pos c, getV_app, getV, if_pos c]
    intro y hy e
    have := (List.mem_filter.1 hy).2
    rw [aheadD_iff] at this
    omega
  · rw [if_neg c]
    by_cases c2 : x.dev < d ∨ (x.dev = d ∧ x.inc < i)
    · rw [getV_app, getV, if_neg c]
      · exact getV_filter _ fun y _ e1 e2 => by rw [aheadD_iff]; omega
      · intro y hy e
        have := (List.mem_filter.1 hy).2
        rw [aheadD_iff] at this
        omega
    · have e1 : getV (l.filter fun y => aheadD y x) d i = getV l d i := getV_filter _ fun y _ e1 e2 => by rw [aheadD_iff]; omega
      rw [← e1]
      generalize (l.filter fun y => aheadD y x) = A
      have hB : getV (x :: l.filter fun y => aheadD x y) d i = 0 := by
        rw [getV, if_neg c]
        refine getV_none fun y hy e => ?_
        have := (List.mem_filter.1 hy).2
        rw [aheadD_iff] at this
        omega
      generalize (x :: l.filter fun y => aheadD x y) = B at *
      induction A with
      | nil => exact hB
      | cons y t ih =>
        rw [List.cons_append, getV, getV]
        split
        · rfl
        · exact ih

def raiseV (l : List DotN) (x : DotN) : List DotN × Bool := if rightD x = true ∧ getV l x.dev x.inc < x.seq then (setV l x, true) else (l, false)
def takeV (l : List DotN) (x : DotN) : List DotN × Bool := if rightD x = true ∧ getV l x.dev x.inc + 1 = x.seq then (setV l x, true) else (l, false)
def hasV (l : List DotN) (x : DotN) : Bool := rightD x && decide (x.seq ≤ getV l x.dev x.inc)
def joinV (l m : List DotN) : List DotN := m.foldl (fun l x => (raiseV l x).1) l
def meetStep (m : List DotN) (x : DotN) : List DotN := if 0 < min x.seq (getV m x.dev x.inc) then [⟨x.dev, x.inc, min x.seq (getV m x.dev x.inc)⟩] else []
def meetV (l m : List DotN) : List DotN := l.flatMap (meetStep m)
def coversV (l m : List DotN) : Bool := m.all fun x => decide (x.seq ≤ getV l x.dev x.inc)
def sumV (l : List DotN) : Int := (l.map (·.seq)).sum

theorem nil_ok : OkV [] := ⟨List.Pairwise.nil, fun x h => by cases h⟩
theorem raise_ok {l : List DotN} (hl : OkV l) (x : DotN) : OkV (raiseV l x).1 := by
  unfold raiseV
  split
  · rename_i h
    exact set_ok hl h.1
  · exact hl
theorem take_ok {l : List DotN} (hl : OkV l) (x : DotN) : OkV (takeV l x).1 := by
  unfold takeV
  split
  · rename_i h
    exact set_ok hl h.1
  · exact hl
theorem getV_raise {l : List DotN} (hl : OkV l) {x : DotN} (hx : rightD x = true) (d i : Int) : getV (raiseV l x).1 d i = if x.dev = d ∧ x.inc = i then max (getV l d i) x.seq else getV l d i := by
  unfold raiseV
  by_cases c : getV l x.dev x.inc < x.seq
  · rw [if_pos ⟨hx, c⟩, getV_set hl.ord]
    by_cases e : x.dev = d ∧ x.inc = i
    · rw [if_pos e, if_pos e]
      obtain ⟨rfl, rfl⟩ := e
      omega
    · rw [if_neg e, if_neg e]
  · rw [if_neg (fun h => c h.2)]
    by_cases e : x.dev = d ∧ x.inc = i
    · rw [if_pos e]
      obtain ⟨rfl, rfl⟩ := e
      show getV l x.dev x.inc = _
      omega
    · rw [if_neg e]

theorem join_all {m : List DotN} : ∀ {l : List DotN}, OkV l → OkV m → OkV (joinV l m) ∧ ∀ d i, getV (joinV l m) d i = max (getV l d i) (getV m d i) := by
  induction m with
  | nil =>
    intro l hl _
    refine ⟨hl, fun d i => ?_⟩
    have := getV_range hl d i
    show getV l d i = max (getV l d i) 0
    omega
  | cons x t ih =>
    intro l hl hm
    obtain ⟨h1, h2⟩ := List.pairwise_cons.1 hm.ord
    have hx := hm.right x (List.mem_cons_self ..)
    have ht : OkV t := ⟨h2, fun y hy => hm.right y (List.mem_cons_of_mem _ hy)⟩
    obtain ⟨a, b⟩ := ih (raise_ok hl x) ht
    refine ⟨a, fun d i => ?_⟩
    show getV (joinV (raiseV l x).1 t) d i = _
    rw [b, getV_raise hl hx, getV]
    by_cases e : x.dev = d ∧ x.inc = i
    · rw [if_pos e, if_pos e]
      have e0 : getV t d i = 0 := getV_none fun y hy c => by
        have := h1 y hy
        rw [aheadD_iff] at this
        omega
      have := right_range hx
      have := getV_range hl d i
      rw [e0]
      omega
    · rw [if_neg e, if_neg e]

end Go.Proofs.YtelgaglnmcggkaaGreatDoor

/- Vectors in plain words: which marks may be, and how they are packed. No program in it. -/
namespace Go.Proofs.YtelgaglnmcggkaaGreatDoor
open Go.RowKit
set_option linter.unusedVariables false

/-- Why marks may not be: 4 (ErrRange), 6 (ErrOrder), mark by mark. -/
def chkF : Option DotN → List DotN → Int
  | _, [] => 0
  | pr, y :: t => if rightD y = false then 4 else if (pr.map fun z => aheadD z y) = some false then 6 else chkF (some y) t
def checkV (l : List DotN) : Int := if 4096 < l.length then 3 else chkF none l

end Go.Proofs.YtelgaglnmcggkaaGreatDoor

/- Contracts of the reference of layer 17: an actor's number, marks with another one. -/
namespace Go.Proofs.YtelgaglnmcggkaaGreatDoor
open Go.RowKit
set_option linter.unusedVariables false

theorem infoMark : (Tryz.prog.info? 139).map (fun i => (i.zero, i.size, i.bytes)) = some (some (.agg #[.int .i64 0, .int .i64 0, .int .i64 0]), 3, 24) := by kernel_rfl
theorem eqMark (x y : DotN) (w : World) : Sem.run Tryz.prog (Op.equalIn 10000 139 (.agg #[.int .i64 x.dev, .int .i64 x.inc, .int .i64 x.seq]) (.agg #[.int .i64 y.dev, .int .i64 y.inc, .int .i64 y.seq])) w = Result.ok (sameD x y) w := by
  unfold sameD
  cases h1 : x.dev == y.dev <;> cases h2 : x.inc == y.inc <;> cases h3 : x.seq == y.seq <;> simp [go_sem, h1, h2, h3]
theorem sameA_val (x y : DotN) : (x.dev == y.dev && x.inc == y.inc) = sameA x y := rfl

/-- What lies there while marks are set: the actor, boxed; the marks that are new. -/
structure StS (w : World) (x : DotN) (b : Option Addr) (m C : Nat) (R : List DotN) (v : World) : Prop where
  o1 : ObjAt v w.heap.size [.int .i64 x.dev, .int .i64 x.inc]
  hZ : OwnZ encD 3 (w.heap.size + 1) 139 b m C R v
  hB : Below w.heap.size w v
theorem StS.below {w v v' : World} {x : DotN} {b : Option Addr} {m C : Nat} {R : List DotN} (h : StS w x b m C R v) (hx : Below v.heap.size v v') : StS w x b m C R v' :=
  ⟨h.o1.below hx h.o1.lt, h.hZ.below hx (Nat.le_refl _), h.hB.trans (hx.mono h.hB.size)⟩
theorem StS.drawn {w v : World} {x : DotN} {b : Option Addr} {m C : Nat} {R : List DotN} (h : StS w x b m C R v) (q : Nat) : StS w x b m C R (v.drewN q) := h.below (drawn_below (Below.refl _ _) q)
theorem StS.lt {w v : World} {x : DotN} {b : Option Addr} {m C : Nat} {R : List DotN} (h : StS w x b m C R v) : w.heap.size + 1 ≤ v.heap.size := h.o1.lt
theorem StS.grown {w v v' : World} {x : DotN} {b b' : Option Addr} {m C m' C' : Nat} {R R' : List DotN} (h : StS w x b m C R v) (hz : OwnZ encD 3 (w.heap.size + 1) 139 b' m' C' R' v') (hx : Below (w.heap.size + 1) v v') : StS w x b' m' C' R' v' :=
  ⟨h.o1.below hx (Nat.lt_succ_self _), hz, h.hB.trans (hx.mono (Nat.le_succ _))⟩

end Go.Proofs.YtelgaglnmcggkaaGreatDoor

/- Contracts of the reference of layer 17: raising, taking, having, holding against one another. -/
namespace Go.Proofs.YtelgaglnmcggkaaGreatDoor
open Go.RowKit
set_option linter.unusedVariables false

end Go.Proofs.YtelgaglnmcggkaaGreatDoor

/- Contracts of the reference of layer 17: the same marks; covering, joining, meeting. -/
namespace Go.Proofs.YtelgaglnmcggkaaGreatDoor
open Go.RowKit
set_option linter.unusedVariables false

end Go.Proofs.YtelgaglnmcggkaaGreatDoor

/- Contracts of the reference of layer 17: which marks may be; marks, packed. -/
namespace Go.Proofs.YtelgaglnmcggkaaGreatDoor
open Go.RowKit
set_option linter.unusedVariables false

end Go.Proofs.YtelgaglnmcggkaaGreatDoor

/- Vectors in plain words: in whatever order numbers are raised; how many marks there may be. No program in it. -/
namespace Go.Proofs.YtelgaglnmcggkaaGreatDoor
open Go.RowKit
set_option linter.unusedVariables false

theorem ahead_irrefl (x : DotN) : aheadD x x = false := by rw [aheadD_no]; omega
theorem OrdV.nodup {l : List DotN} (h : OrdV l) : l.Nodup := List.Pairwise.imp (fun {x y} hxy e => by subst e; rw [ahead_irrefl] at hxy; cases hxy) h

/-- How many marks there may be. -/
theorem ordV_most : ∀ (l : List DotN) (lo : Int), OrdV l → (∀ x ∈ l, rightD x = true) → (∀ x ∈ l, lo ≤ x.dev * 1048576 + x.inc - 1) → lo ≤ 67108864 → lo + (l.length : Int) ≤ 67108864
  | [], lo, _, _, _, h => by simpa using h
  | x :: t, lo, ho, hr, hl, h => by
    obtain ⟨h1, h2⟩ := List.pairwise_cons.1 ho
    have hx := right_range (hr x (List.mem_cons_self ..))
    have hlx := hl x (List.mem_cons_self ..)
    have := ordV_most t (x.dev * 1048576 + x.inc) h2 (fun y hy => hr y (List.mem_cons_of_mem _ hy)) (fun y hy => by
      have a := h1 y hy
      have hy := right_range (hr y (List.mem_cons_of_mem _ hy))
      rw [aheadD_iff] at a
      omega) (by omega)
    rw [List.length_cons]
    omega
theorem OkV.most {l : List DotN} (h : OkV l) : l.length ≤ 67108864 := by
  have := ordV_most l 0 h.ord h.right (fun x hx => by have := right_range (h.right x hx); omega) (by omega)
  omega

theorem set_count {l : List DotN} (h : OkV l) (x : DotN) : l.length + (if getV l x.dev x.inc = 0 then 1 else 0) ≤ (setV l x).length := by
  rw [set_is h.ord]
  have key : ∀ (l : List DotN), OkV l → l.length + (if getV l x.dev x.inc = 0 then 1 else 0) ≤ (l.filter (fun y => aheadD y x)).length + (l.filter (fun y => aheadD x y)).length + 1 := by
    intro l
    induction l with
    | nil => intro _; simp [getV]
    | cons y t ih =>
      intro h
      obtain ⟨h1, h2⟩ := List.pairwise_cons.1 h.ord
      have hy := right_range (h.right y (List.mem_cons_self ..))
      have := ih ⟨h2, fun z hz => h.right z (List.mem_cons_of_mem _ hz)⟩
      unfold getV
      by_cases c : y.dev = x.dev ∧ y.inc = x.inc
      · have e : getV t x.dev x.inc = 0 := getV_none fun z hz c2 => by
          have := h1 z hz
          rw [aheadD_iff] at this
          omega
        have a1 : aheadD y x = false := by rw [aheadD_no]; omega
        have a2 : aheadD x y = false := by rw [aheadD_no]; omega
        rw [if_pos c, if_neg (by omega), List.filter_cons_of_neg (by simp [a1]), List.filter_cons_of_neg (by simp [a2]), List.length_cons]
        rw [e, if_pos rfl] at this
        omega
      · rw [if_neg c, List.length_cons]
        by_cases a1 : aheadD y x = true
        · have e1 : (y :: t).filter (fun y => aheadD y x) = y :: t.filter (fun y => aheadD y x) := List.filter_cons_of_pos a1
          have : (t.filter (fun y => aheadD x y)).length ≤ ((y :: t).filter (fun y => aheadD x y)).length := by
            rw [List.filter_cons]; split
            · exact Nat.le_succ _
            · exact Nat.le_refl _
          rw [e1, List.length_cons]
          omega
        · have a2 : aheadD x y = true := by
            rw [Bool.not_eq_true, aheadD_no] at a1
            rw [aheadD_iff]
            omega
          have e1 : (y :: t).filter (fun y => aheadD y x) = t.filter (fun y => aheadD y x) := List.filter_cons_of_neg (by simpa using a1)
          have e2 : (y :: t).filter (fun y => aheadD x y) = y :: t.filter (fun y => aheadD x y) := List.filter_cons_of_pos a2
          rw [e1, e2, List.length_cons]
          omega
  have := key l h
  rw [List.length_append, List.length_cons]
  omega

end Go.Proofs.YtelgaglnmcggkaaGreatDoor

/- Actors as keys of maps. -/
namespace Go.Proofs.YtelgaglnmcggkaaGreatDoor
open Go.RowKit Go.WideMaps
set_option linter.unusedVariables false

theorem laidOutA : laidOutB Tryz.prog = true := by kernel_rfl
theorem lawActor : KeyLaw Tryz.prog 33 := deep_law_laid laidOutA (m := 4) (by omega) (of_decide_eq_true (by kernel_rfl)) (by kernel_rfl) (by kernel_rfl)
theorem keyedActor : Go.Maps.Keyed Tryz.prog 33 := Go.Maps.Keyed.of_law lawActor

/-- What an actor reads as, as a key. -/
def keyA (d i : Int) : Lit := .string (keyBytes [.int .i64 d, .int .i64 i])
theorem is64_wf {n : Int} : is64 n ↔ (Lit.int .i64 n).wf = true := by
  show (IntKind.i64.min ≤ n ∧ n ≤ IntKind.i64.max) ↔ _
  simp only [Lit.wf, Bool.and_eq_true, decide_eq_true_eq]

set_option maxRecDepth 100000 in
theorem key_actor {d i : Int} (hd : is64 d) (hi : is64 i) : keyOf Tryz.prog 33 (.agg #[.int .i64 d, .int .i64 i]) = some (keyA d i) := by
  have w1 := is64_wf.1 hd
  have w2 := is64_wf.1 hi
  have hk : Tryz.prog.keyType 33 = true := by kernel_rfl
  obtain ⟨m, hm⟩ : ∃ m, Tryz.prog.types.size = m + 1 := ⟨Tryz.prog.types.size - 1, by kernel_rfl⟩
  have hc2 : Tryz.prog.cellsOf 33 = 2 := by kernel_rfl
  have hc3 : Tryz.prog.cellsOf 3 = 1 := by kernel_rfl
  have hf : (Value.agg #[.int .i64 d, .int .i64 i]).formed Tryz.prog 33 = true := by simp [Value.formed, Tryz.underlying33, hc2]
  have hl : Tryz.prog.keyLits (Tryz.prog.types.size + 1) 33 [.int .i64 d, .int .i64 i] = some [.int .i64 d, .int .i64 i] := by
    rw [hm]
    simp [Program.keyLits, Tryz.underlying33, Tryz.underlying3, hc2, hc3, w1, w2]
  unfold keyOf
  rw [Tryz.underlying33]
  simp only [hk, hf]
  show Option.map _ (Tryz.prog.keyLits _ _ [.int .i64 d, .int .i64 i]) = _
  rw [hl]
  rfl

theorem keyA_inj {d i e j : Int} (hd : is64 d) (hi : is64 i) (he : is64 e) (hj : is64 j) (h : keyA d i = keyA e j) : d = e ∧ i = j := by
  have e := keyedActor.inj (key_actor hd hi) (h ▸ key_actor he hj)
  simpa only [Value.agg.injEq, Array.mk.injEq, List.cons.injEq, Value.int.injEq, true_and, and_true] using e

set_option maxRecDepth 100000 in
/-- What reads as an actor's key is an actor. -/
theorem key_actor_inv {key : Value} {kl : Lit} (h : keyOf Tryz.prog 33 key = some kl) : ∃ d i, is64 d ∧ is64 i ∧ key = .agg #[.int .i64 d, .int .i64 i] ∧ kl = keyA d i := by
  obtain ⟨m, hm⟩ : ∃ m, Tryz.prog.types.size = m + 1 := ⟨Tryz.prog.types.size - 1, by kernel_rfl⟩
  have hc2 : Tryz.prog.cellsOf 33 = 2 := by kernel_rfl
  have hc3 : Tryz.prog.cellsOf 3 = 1 := by kernel_rfl
  have h0 := h
  unfold keyOf at h
  rw [Tryz.underlying33] at h
  dsimp only at h
  split at h
  case isFalse => cases h
  case isTrue hh =>
    rw [Bool.and_eq_true] at hh
    have hf := hh.2
    cases key
    case agg cs =>
      obtain ⟨l⟩ := cs
      have hs : l.length = 2 := by simpa [Value.formed, Tryz.underlying33, hc2] using hf
      match l, hs with
      | [x, y], _ =>
        cases hl : Tryz.prog.keyLits (Tryz.prog.types.size + 1) 33 (Value.agg #[x, y]).cells.toList with
        | none => rw [hl] at h; cases h
        | some ls =>
          rw [hm] at hl
          have hxy : ∃ d i, is64 d ∧ is64 i ∧ x = .int .i64 d ∧ y = .int .i64 i := by
            simp only [is64_wf]
            clear h h0 hh hf
            cases x with
            | int q1 n1 =>
              by_cases a1 : q1 = .i64 ∧ (Lit.int .i64 n1).wf = true
              · cases y with
                | int q2 n2 =>
                  by_cases a2 : q2 = .i64 ∧ (Lit.int .i64 n2).wf = true
                  · exact ⟨n1, n2, a1.2, a2.2, by rw [a1.1], by rw [a2.1]⟩
                  · exfalso; simp [Program.keyLits, Value.cells, Tryz.underlying33, Tryz.underlying3, hc2, hc3, a1, a2] at hl
                | _ => exfalso; simp [Program.keyLits, Value.cells, Tryz.underlying33, Tryz.underlying3, hc2, hc3, a1] at hl
              · exfalso; simp [Program.keyLits, Value.cells, Tryz.underlying33, Tryz.underlying3, hc2, hc3, a1] at hl
            | _ => exfalso; simp [Program.keyLits, Value.cells, Tryz.underlying33, Tryz.underlying3, hc2, hc3] at hl
          obtain ⟨d, i, hd, hi, rfl, rfl⟩ := hxy
          refine ⟨d, i, hd, hi, rfl, ?_⟩
          rw [key_actor hd hi] at h0
          exact (Option.some.inj h0).symm
    all_goals simp [Value.formed, Tryz.underlying33] at hf
end Go.Proofs.YtelgaglnmcggkaaGreatDoor

/- A vector's numbers in a map: what it holds, and what a round over it has met. -/
namespace Go.Proofs.YtelgaglnmcggkaaGreatDoor
open Go.RowKit
set_option linter.unusedVariables false

/-- A map that holds the numbers of l, and nothing else. -/
structure VecD (D : DataW Unit) (l : List DotN) : Prop where
  size : Go.Maps.size D ≤ l.length
  num : ∀ d i, is64 d → is64 i → NumAt D (keyA d i) (getV l d i)
  has : ∀ d i, is64 d → is64 i → Go.Maps.has D (keyA d i) = !(getV l d i == 0)
theorem VecD.empty : VecD (.map []) [] := ⟨Nat.le_refl _, fun _ _ _ _ => NumAt.empty _, fun _ _ _ _ => rfl⟩

theorem right_fit {x : DotN} (h : rightD x = true) : is64 x.dev ∧ is64 x.inc := by
  have := right_range h
  unfold is64
  omega

theorem VecD.put {D : DataW Unit} {l : List DotN} (h : VecD D l) (hD : Go.Maps.Tidy D) (hl : OkV l) {x : DotN} (hx : rightD x = true) : VecD (D.put (keyA x.dev x.inc) (.lit (.int .i64 x.seq))) (setV l x) := by
  obtain ⟨f1, f2⟩ := right_fit hx
  have hk := keyedActor.key (key_actor f1 f2)
  have hr := right_range hx
  refine ⟨?_, fun d i hd hi => ?_, fun d i hd hi => ?_⟩
  · rw [Go.Maps.size_put hD]
    have h1 := set_count hl x
    have h2 := h.size
    have h3 := h.has x.dev x.inc f1 f2
    by_cases c : getV l x.dev x.inc = 0
    · rw [if_pos c] at h1
      split <;> omega
    · have e : (getV l x.dev x.inc == 0) = false := by simpa using c
      rw [e] at h3
      rw [if_pos (by rw [h3]; rfl)]
      rw [if_neg c] at h1
      omega
  · rw [getV_set hl.ord]
    by_cases c : x.dev = d ∧ x.inc = i
    · obtain ⟨rfl, rfl⟩ := c
      rw [if_pos ⟨rfl, rfl⟩]
      exact NumAt.put hD.isMap hk _
    · rw [if_neg c]
      exact (h.num d i hd hi).other (fun e => c (keyA_inj f1 f2 hd hi e.symm)) _
  · rw [getV_set hl.ord]
    by_cases c : x.dev = d ∧ x.inc = i
    · obtain ⟨rfl, rfl⟩ := c
      rw [if_pos ⟨rfl, rfl⟩, Go.Maps.has_put_same hD.isMap hk]
      have : (x.seq == 0) = false := by
        rw [beq_eq_false_iff_ne]
        omega
      rw [this]
      rfl
    · rw [if_neg c, Go.Maps.has_put_other (fun e => c (keyA_inj f1 f2 hd hi e.symm))]
      exact h.has d i hd hi

/-- What a round over the map has met: marks of l, each once; what is left is still to come. -/
structure MetV (l : List DotN) (left : Lit → Bool) (R : List DotN) : Prop where
  nodup : R.Nodup
  mem : ∀ x, x ∈ R ↔ x ∈ l ∧ left (keyA x.dev x.inc) = false

theorem MetV.start {D : DataW Unit} {l : List DotN} (h : VecD D l) (hl : OkV l) : MetV l (Go.Maps.has D) [] := by
  refine ⟨List.nodup_nil, fun x => Iff.intro (fun c => absurd c List.not_mem_nil) (fun c => ?_)⟩
  obtain ⟨c1, c2⟩ := c
  have hr := right_range (hl.right x c1)
  obtain ⟨f1, f2⟩ := right_fit (hl.right x c1)
  rw [h.has _ _ f1 f2, getV_mem hl.ord c1] at c2
  simp only [Bool.not_eq_false', beq_iff_eq] at c2
  omega

theorem MetV.step {D : DataW Unit} {l R : List DotN} {left : Lit → Bool} (h : MetV l left R) (hD : VecD D l) (hl : OkV l) {d i c : Int} (hd : is64 d) (hi : is64 i) (hlk : left (keyA d i) = true) (hat : ∀ zd, D.atKey (keyA d i) zd = .lit (.int .i64 c)) :
    (⟨d, i, c⟩ : DotN) ∈ l ∧ MetV l (fun z => left z && !z.sameKey (keyA d i)) (R ++ [⟨d, i, c⟩]) := by
  have hc : c = getV l d i := (show NumAt D (keyA d i) c from hat _).one (hD.num d i hd hi)
  have hh := Go.Maps.has_true_of_atKey hat
  rw [hD.has d i hd hi] at hh
  have hne : getV l d i ≠ 0 := by simpa using hh
  obtain ⟨y, hy, rfl, rfl, e⟩ := getV_some hne
  have ey : (⟨y.dev, y.inc, c⟩ : DotN) = y := DotN.ext' rfl rfl (by show c = y.seq; omega)
  rw [ey]
  refine ⟨hy, List.nodup_append.2 ⟨h.nodup, by simp, fun a ha b hb => ?_⟩, fun x => ?_⟩
  · rw [List.mem_singleton] at hb
    subst hb
    rintro rfl
    have := ((h.mem a).1 ha).2
    rw [hlk] at this
    cases this
  · rw [List.mem_append, h.mem, List.mem_singleton]
    have hk := keyedActor.key (key_actor hd hi)
    constructor
    · rintro (⟨a, b⟩ | rfl)
      · exact ⟨a, by rw [b]; rfl⟩
      · refine ⟨hy, ?_⟩
        rw [WideAt.sameKey_self hk]
        simp
    · rintro ⟨a, b⟩
      by_cases q : x = y
      · exact .inr q
      · refine .inl ⟨a, ?_⟩
        obtain ⟨f1, f2⟩ := right_fit (hl.right x a)
        have hq : keyA x.dev x.inc ≠ keyA y.dev y.inc := fun e2 => by
          obtain ⟨e3, e4⟩ := keyA_inj f1 f2 hd hi e2
          have g1 := getV_mem hl.ord a
          have g2 := getV_mem hl.ord hy
          rw [e3, e4, g2] at g1
          exact q (DotN.ext' e3 e4 g1.symm)
        rw [Go.Maps.sameKey_ne hq] at b
        simpa using b
theorem MetV.all {l R : List DotN} {left : Lit → Bool} (h : MetV l left R) (h0 : ∀ kl, left kl = false) : ∀ x, x ∈ R ↔ x ∈ l := fun x => by rw [h.mem, h0]; simp
theorem MetV.perm {l R : List DotN} {left : Lit → Bool} (h : MetV l left R) (hl : OkV l) (h0 : ∀ kl, left kl = false) : R.Perm l := (List.perm_ext_iff_of_nodup h.nodup hl.ord.nodup).2 (h.all h0)

/-- A round under way stays while other blocks are written. -/
theorem Keeps.ranges {F : Nat → Prop} {w w' : World} (h : Keeps F w w') {b r : Nat} (hb : ¬ F b) (hr : ¬ F r) : ∀ {H : Type} {P : Program} {k : TypeId} {R : Value → Option (DataW H × List MemPlace)} {n : Nat} {D : DataW H} {left : Lit → Bool} {cnt : Nat}, w.ranges P k R b r n D left cnt → w'.ranges P k R b r n D left cnt := by
  intro H P k R n D left cnt hm
  obtain ⟨es, clock, since, seen, c0, h1, h2, h3, h4, h5, h6⟩ := hm
  exact ⟨es, clock, since, seen, c0, (h.block b (Array.getElem?_eq_some_iff.1 h1).1 hb).trans h1, h2, h3, h4, (h.block r (Array.getElem?_eq_some_iff.1 h5).1 hr).trans h5, h6⟩
/-- A round that is drawn on writes the iterator alone. -/
theorem grown_below_at {w w' : World} {r B : Nat} (h : w.grownBy w' (some r)) (hB : B ≤ r) (hw : B ≤ w.heap.size) : Below B w w' := (Keeps.ofGrownBy h).below hw fun k _ e => by cases e; exact hB

theorem elemA {v : Value} {y : DataW Unit × List MemPlace} (h : plainElem Tryz.prog 3 v = some y) : ∃ c, v = .int .i64 c ∧ y = (.lit (.int .i64 c), []) ∧ (Lit.int .i64 c).wf = true := plainElem_int_inv Tryz.underlying3 h

/-- The step of a round over a map of actors' numbers. -/
theorem wpList_next_actors {P : Program} (hP : P = Tryz.prog) {w : World} {ops : Array Oper} {rest : List Oper} {o : Oper} {a : Act} {Q : Exit → Act → World → Prop} (hg : o.guard = none) (it : Operand) (hop : o.op = Op.next it false) (b r n : Nat) (D : DataW Unit) (left : Lit → Bool) (cnt : Nat)
    (hit : a.eval it = .pointer (some ⟨r, 0, none⟩)) (h : w.ranges P 33 (plainElem P 3) b r n D left cnt)
    (hDone : cnt = 0 → (∀ kl, left kl = false) → wpList P ops Q rest (a.put o.dst (.tuple #[.bool false])) w)
    (hMore : ∀ (d i c : Int) (w' : World) (cnt' : Nat), is64 d → is64 i → left (keyA d i) = true → (∀ zd, D.atKey (keyA d i) zd = .lit (.int .i64 c)) → w'.ranges P 33 (plainElem P 3) b r n D (fun z => left z && !z.sameKey (keyA d i)) cnt' → cnt' < cnt →
      w.grownBy w' (some r) → w'.heap.size = w.heap.size → (Instr.entry (.pointer (some ⟨r, 0, none⟩))).run P w' = .ok (.tuple #[.agg #[.int .i64 d, .int .i64 i], .int .i64 c]) w' → wpList P ops Q rest (a.put o.dst (.tuple #[.bool true, .agg #[.int .i64 d, .int .i64 i], .int .i64 c])) w') :
    wpList P ops Q (o :: rest) a w := by
  subst hP
  refine wpList_next_ranges (α := Int × Int) (β := Int) w hg it hop 33 keyedActor (plainElem Tryz.prog 3) (fun x => .agg #[.int .i64 x.1, .int .i64 x.2]) (Value.int .i64) (fun key kl hkey => ?_) (fun v y hv => ?_) b r n D left cnt hit h hDone (fun x c kl y w' cnt' hkey hlk hv hat hrg hlt hgr hsz hen => ?_)
  · obtain ⟨d, i, _, _, e, _⟩ := key_actor_inv hkey
    exact ⟨(d, i), e⟩
  · obtain ⟨c, e, _, _⟩ := elemA hv
    exact ⟨c, e⟩
  · obtain ⟨d, i, hd, hi, e, rfl⟩ := key_actor_inv hkey
    obtain ⟨c', e2, rfl, _⟩ := elemA hv
    simp only [Value.agg.injEq, Array.mk.injEq, List.cons.injEq, Value.int.injEq, true_and, and_true] at e
    cases e2
    obtain ⟨x1, x2⟩ := x
    obtain ⟨rfl, rfl⟩ := e
    exact hMore _ _ _ w' cnt' hd hi hlk hat hrg hlt hgr hsz hen

theorem zeroInt (w : World) : (zeroValue 3).run Tryz.prog w = .ok (.int .i64 0) w := by kernel_rfl
end Go.Proofs.YtelgaglnmcggkaaGreatDoor

/- A vector behind a pointer: what lies where; an actor's number. -/
namespace Go.Proofs.YtelgaglnmcggkaaGreatDoor
open Go.RowKit
set_option linter.unusedVariables false

/-- A vector's numbers: no map ahead of the first one; else a map of its own. -/
def NumsIs (w : World) (mv : Option Nat) (F : Nat → Prop) (l : List DotN) : Prop :=
  (mv = none ∧ l = []) ∨ ∃ B n D, mv = some B ∧ F B ∧ w.ownsMap Tryz.prog 33 (plainElem Tryz.prog 3) B n D ∧ VecD D l
/-- What the program's vector is in memory: a block of one cell, which holds the map. -/
def VecIs (w : World) (p : Nat) (F : Nat → Prop) (l : List DotN) : Prop := ∃ mv, ObjAt w p [.map mv] ∧ NumsIs w mv F l ∧ mv ≠ some p
/-- A vector behind a pointer: its block, all blocks that are its own (F), and its marks. -/
structure VecAt (w : World) (p : Nat) (F : Nat → Prop) (l : List DotN) : Prop where
  own : F p
  lt : ∀ k, F k → k < w.heap.size
  ok : OkV l
  is : VecIs w p F l
theorem NumsIs.keeps {F G : Nat → Prop} {w w' : World} {mv : Option Nat} {l : List DotN} (h : NumsIs w mv F l) (hk : Keeps G w w') (hd : ∀ k, F k → ¬ G k) : NumsIs w' mv F l := by
  rcases h with h | ⟨B, n, D, rfl, hB, hm, hD⟩
  · exact .inl h
  · exact .inr ⟨B, n, D, rfl, hB, hk.grownBy (hd B hB) hm, hD⟩
theorem VecAt.keeps {G : Nat → Prop} {w w' : World} {p : Nat} {F : Nat → Prop} {l : List DotN} (h : VecAt w p F l) (hk : Keeps G w w') (hd : ∀ k, F k → ¬ G k) : VecAt w' p F l := by
  obtain ⟨h1, h2, h3, mv, h4, h5, h6⟩ := h
  exact ⟨h1, fun k hF => Nat.lt_of_lt_of_le (h2 k hF) hk.size, h3, mv, h4.keeps hk (hd p h1), h5.keeps hk hd, h6⟩

/-- A call that changes a vector: it holds l then, and all else stays. -/
def Raised (p : Nat) (F : Nat → Prop) (l : List DotN) (v : Value) (w : World) (e : Ending) (w' : World) : Prop :=
  e = .returned v ∧ ∃ F', VecAt w' p F' l ∧ Keeps F w w' ∧ ∀ k, F' k → F k ∨ w.heap.size ≤ k
/-- A call that makes a vector. -/
def MadeV (l : List DotN) (w : World) (e : Ending) (w' : World) : Prop :=
  ∃ p F, e = .returned (.pointer (some ⟨p, 0, none⟩)) ∧ VecAt w' p F l ∧ (∀ k, F k → w.heap.size ≤ k) ∧ Below w.heap.size w w'

/-- A vector that is handed in to be read, a nil one too. -/
structure ArgV (w : World) (v : Value) (mv : Option Nat) (F : Nat → Prop) (l : List DotN) : Prop where
  ptr : (v = .pointer none ∧ mv = none) ∨ ∃ p k vs, v = .pointer (some ⟨p, k, none⟩) ∧ F p ∧ ObjAt w p vs ∧ vs[k]? = some (.map mv)
  nums : NumsIs w mv F l
  ok : OkV l
  lt : ∀ k, F k → k < w.heap.size
theorem VecAt.arg {w : World} {p : Nat} {F : Nat → Prop} {l : List DotN} (h : VecAt w p F l) : ∃ mv, ArgV w (.pointer (some ⟨p, 0, none⟩)) mv F l := by
  obtain ⟨h1, h2, h3, mv, h4, h5, h6⟩ := h
  exact ⟨mv, .inr ⟨p, 0, _, rfl, h1, h4, rfl⟩, h5, h3, h2⟩
theorem nilArg (w : World) : ArgV w (.pointer none) none (fun _ => False) [] := ⟨.inl ⟨rfl, rfl⟩, .inl ⟨rfl, rfl⟩, nil_ok, fun _ h => h.elim⟩
theorem ArgV.keeps {F G : Nat → Prop} {w w' : World} {v : Value} {mv : Option Nat} {l : List DotN} (h : ArgV w v mv F l) (hk : Keeps G w w') (hd : ∀ k, F k → ¬ G k) : ArgV w' v mv F l := by
  obtain ⟨h1, h2, h3, h4⟩ := h
  refine ⟨?_, h2.keeps hk hd, h3, fun k hF => Nat.lt_of_lt_of_le (h4 k hF) hk.size⟩
  rcases h1 with h1 | ⟨p, k, vs, rfl, hp, ho, hv⟩
  · exact .inl h1
  · exact .inr ⟨p, k, vs, rfl, hp, ho.keeps hk (hd p hp), hv⟩
theorem ArgV.below {F : Nat → Prop} {w w' : World} {v : Value} {mv : Option Nat} {l : List DotN} (h : ArgV w v mv F l) (hb : Below w.heap.size w w') : ArgV w' v mv F l :=
  h.keeps (Keeps.new (F := fun _ => False) hb) fun _ _ h => h

/-- A vector's own numbers; those of a nil one are none. -/
theorem vAllC {v : Value} {mv : Option Nat} {F : Nat → Prop} {l : List DotN} {w : World} (h : ArgV w v mv F l) :
    Calls Tryz.prog 95 #[v] w fun e w' => e = .returned (.map mv) ∧ w = w' := by
  rcases h.ptr with ⟨rfl, rfl⟩ | ⟨p, k, vs, rfl, _, ho, hv⟩
  · go_enter Tryz.func95, Tryz.ntmps95
    go_wp2
    go_ret
    exact ⟨rfl, rfl⟩
  · have c0 := ho.cell k hv
    clear h ho hv
    go_enter Tryz.func95, Tryz.ntmps95
    go_wp2
    go_ret
    exact ⟨rfl, rfl⟩

/-- An actor's number. -/
theorem vGetA {v : Value} {mv : Option Nat} {F : Nat → Prop} {l : List DotN} {w : World} (h : ArgV w v mv F l) (d i : Int) (hd : is64 d) (hi : is64 i) :
    Calls Tryz.prog 53 #[v, .agg #[.int .i64 d, .int .i64 i]] w fun e w' => e = .returned (.int .i64 (getV l d i)) ∧ Below w.heap.size w w' := by
  have o1 := ObjAt.new w #[.int .i64 d, .int .i64 i] 33
  have hb := below_alloc w (.cells #[.int .i64 d, .int .i64 i] 33)
  have u0 := o1.cell 0 rfl; have u1 := o1.cell 1 rfl
  have h1 := h.below hb
  have hlk : ∀ ww : World, ww.heap = (w.alloc (.cells #[.int .i64 d, .int .i64 i] 33)).heap → (Instr.lookup 83 (.map mv) (.agg #[.int .i64 d, .int .i64 i]) false).run Tryz.prog ww = .ok (.int .i64 (getV l d i)) ww := fun ww he => by
    rcases h1.nums with ⟨rfl, rfl⟩ | ⟨B, n, D, rfl, hB, hm, hD⟩
    · exact Go.Maps.look_nil false keyedActor Tryz.underlying83 (zeroInt _) (key_actor hd hi)
    · have hm2 : ww.ownsMap Tryz.prog 33 (plainElem Tryz.prog 3) B n D := by
        unfold World.ownsMap at hm ⊢
        rw [he]
        exact hm
      obtain ⟨c, hrun, hat, _⟩ := hm2.lookup_int keyedActor Tryz.underlying83 Tryz.underlying3 (zeroInt _) (key_actor hd hi)
      rw [(show NumAt D (keyA d i) c from hat).one (hD.num d i hd hi)] at hrun
      exact hrun
  have HA := vAllC (h1.keeps (w' := (w.alloc (.cells #[.int .i64 d, .int .i64 i] 33)).drew) (Keeps.new (F := fun _ => False) (Below.refl _ _).drew) (fun _ _ h => h))
  have hl1 := hlk _ rfl
  have hl2 := hlk (w.alloc (.cells #[.int .i64 d, .int .i64 i] 33)).drew rfl
  clear hlk h h1 o1
  go_enter Tryz.func53, Tryz.ntmps53
  go_wp2_with fail
  go_region_law ((try go_simp); go_at_call 95; (refine HA.mono ?_); rintro e w1 ⟨rfl, rfl⟩)
  all_goals (
    go_wp2
    go_ret
    exact ⟨rfl, hb.drew⟩)

/-! A vector that is a field of a struct: the cell at k of the block p, whose other cells are anyone's. -/
theorem NumsIs.own {F : Nat → Prop} {w : World} {mv : Option Nat} {l : List DotN} (h : NumsIs w mv F l) : NumsIs w mv (fun b => mv = some b) l := by
  rcases h with h | ⟨B, n, D, rfl, hB, hm, hD⟩
  · exact .inl h
  · exact .inr ⟨B, n, D, rfl, rfl, hm, hD⟩
theorem NumsIs.mono {F G : Nat → Prop} {w : World} {mv : Option Nat} {l : List DotN} (h : NumsIs w mv F l) (hs : ∀ b, F b → G b) : NumsIs w mv G l := by
  rcases h with h | ⟨B, n, D, rfl, hB, hm, hD⟩
  · exact .inl h
  · exact .inr ⟨B, n, D, rfl, hs B hB, hm, hD⟩
theorem NumsIs.lt {F : Nat → Prop} {w : World} {mv : Option Nat} {l : List DotN} (h : NumsIs w mv F l) : ∀ b, mv = some b → b < w.heap.size := by
  intro b e
  rcases h with ⟨rfl, _⟩ | ⟨B, n, D, rfl, hB, hm, hD⟩
  · cases e
  · cases e
    exact hm.lt
theorem obj_not_map {w : World} {p B : Nat} {vs : List Value} (h : ObjAt w p vs) {H : Type} {P : Program} {k : TypeId} {R : Value → Option (DataW H × List MemPlace)} {n : Nat} {D : DataW H} (hm : w.ownsMap P k R B n D) : B ≠ p := by
  rintro rfl
  obtain ⟨e, h1⟩ := h.heap
  obtain ⟨es, clock, h2, _⟩ := hm
  rw [h1] at h2
  cases h2
structure VecIn (w : World) (p k : Nat) (vs : List Value) (mv : Option Nat) (l : List DotN) : Prop where
  obj : ObjAt w p vs
  here : vs[k]? = some (.map mv)
  nums : NumsIs w mv (fun b => mv = some b) l
  ok : OkV l
theorem VecIn.not_obj {w : World} {p k : Nat} {vs : List Value} {mv : Option Nat} {l : List DotN} (h : VecIn w p k vs mv l) : mv ≠ some p := by
  rintro rfl
  rcases h.nums with ⟨c, _⟩ | ⟨B, n, D, e, hB, hm, hD⟩
  · cases c
  · cases e
    exact obj_not_map h.obj hm rfl
theorem VecIn.keeps {G : Nat → Prop} {w w' : World} {p k : Nat} {vs : List Value} {mv : Option Nat} {l : List DotN} (h : VecIn w p k vs mv l) (hk : Keeps G w w') (hp : ¬ G p) (hd : ∀ b, mv = some b → ¬ G b) : VecIn w' p k vs mv l :=
  ⟨h.obj.keeps hk hp, h.here, h.nums.keeps hk hd, h.ok⟩
theorem VecIn.below {w w' : World} {p k : Nat} {vs : List Value} {mv : Option Nat} {l : List DotN} (h : VecIn w p k vs mv l) (hb : Below w.heap.size w w') : VecIn w' p k vs mv l :=
  h.keeps (Keeps.new (F := fun _ => False) hb) (fun h => h) (fun _ _ h => h)
theorem VecIn.lt {w : World} {p k : Nat} {vs : List Value} {mv : Option Nat} {l : List DotN} (h : VecIn w p k vs mv l) : ∀ b, b = p ∨ mv = some b → b < w.heap.size := by
  rintro b (rfl | e)
  · exact h.obj.lt
  · exact h.nums.lt b e
theorem VecIn.arg {w : World} {p k : Nat} {vs : List Value} {mv : Option Nat} {l : List DotN} (h : VecIn w p k vs mv l) : ArgV w (.pointer (some ⟨p, k, none⟩)) mv (fun b => b = p ∨ mv = some b) l :=
  ⟨.inr ⟨p, k, vs, rfl, .inl rfl, h.obj, h.here⟩, h.nums.mono fun _ e => .inr e, h.ok, h.lt⟩
theorem VecAt.inn {w : World} {p : Nat} {F : Nat → Prop} {l : List DotN} (h : VecAt w p F l) : ∃ mv, VecIn w p 0 [.map mv] mv l ∧ ∀ b, mv = some b → F b := by
  obtain ⟨h1, h2, h3, mv, h4, h5, h6⟩ := h
  refine ⟨mv, ⟨h4, rfl, h5.own, h3⟩, fun b e => ?_⟩
  rcases h5 with ⟨rfl, _⟩ | ⟨B, n, D, rfl, hB, hm, hD⟩
  · cases e
  · cases e
    exact hB
theorem VecIn.back {w : World} {p : Nat} {mv : Option Nat} {l : List DotN} (h : VecIn w p 0 [.map mv] mv l) {F : Nat → Prop} (hp : F p) (hm : ∀ b, mv = some b → F b) (hl : ∀ b, F b → b < w.heap.size) : VecAt w p F l :=
  ⟨hp, hl, h.ok, mv, h.obj, h.nums.mono hm, h.not_obj⟩
theorem set_as {α : Type} {l : List α} {k : Nat} {v : α} (h : l[k]? = some v) : l.set k v = l := by
  apply List.ext_getElem?
  intro i
  by_cases e : k = i
  · subst e
    rw [List.getElem?_set_self (List.getElem?_eq_some_iff.1 h).1, h]
  · rw [List.getElem?_set_ne e]
/-- A call that changes a vector in a struct. -/
def RaisedI (p k : Nat) (vs : List Value) (mv : Option Nat) (l : List DotN) (v : Value) (w : World) (e : Ending) (w' : World) : Prop :=
  e = .returned v ∧ ∃ mv', VecIn w' p k (vs.set k (.map mv')) mv' l ∧ Keeps (fun b => b = p ∨ mv = some b) w w' ∧ (mv' = mv ∨ ∃ B, mv' = some B ∧ w.heap.size ≤ B)
theorem RaisedI.same {p k : Nat} {vs : List Value} {mv : Option Nat} {l : List DotN} {v : Value} {w w' : World} (h : VecIn w p k vs mv l) (hb : Below w.heap.size w w') : RaisedI p k vs mv l v w (.returned v) w' :=
  ⟨rfl, mv, by rw [set_as h.here]; exact h.below hb, Keeps.new hb, .inl rfl⟩
theorem RaisedI.back {p : Nat} {F : Nat → Prop} {mv : Option Nat} {l : List DotN} {v : Value} {w w' : World} {e : Ending} (h : RaisedI p 0 [.map mv] mv l v w e w') (hp : F p) (hm : ∀ b, mv = some b → F b) (hl : ∀ b, F b → b < w.heap.size) : Raised p F l v w e w' := by
  obtain ⟨h1, mv', h2, h3, h4⟩ := h
  refine ⟨h1, fun b => F b ∨ mv' = some b, h2.back (.inl hp) (fun _ e => .inr e) (fun b hb => ?_), h3.mono fun b _ hb => ?_, fun b hb => ?_⟩
  · rcases hb with hb | hb
    · exact Nat.lt_of_lt_of_le (hl b hb) h3.size
    · exact h2.lt b (.inr hb)
  · rcases hb with rfl | hb
    · exact hp
    · exact hm b hb
  · rcases hb with hb | hb
    · exact .inl hb
    · rcases h4 with rfl | ⟨B, rfl, hB⟩
      · exact .inl (hm b hb)
      · cases hb
        exact .inr hB
end Go.Proofs.YtelgaglnmcggkaaGreatDoor

/- A number raised in a vector. -/
namespace Go.Proofs.YtelgaglnmcggkaaGreatDoor
open Go.RowKit
set_option linter.unusedVariables false

theorem ownsMap_tight {H : Type} {P : Program} {k : TypeId} {R : Value → Option (DataW H × List MemPlace)} {w : World} {b n : Nat} {D : DataW H} (h : w.ownsMap P k R b n D) : w.ownsMap P k R b (Go.Maps.size D) D := by
  obtain ⟨es, clock, hb, F, hs, rfl⟩ := h
  exact ⟨es, clock, hb, F, Nat.le_of_eq (by rw [Go.Maps.size_eq, length_read]), rfl⟩

set_option maxRecDepth 100000 in
theorem vRaiseI (p k : Nat) (vs : List Value) (mv : Option Nat) (l : List DotN) (x : DotN) (w : World) (h : VecIn w p k vs mv l) (hx : FitD x) :
    Calls Tryz.prog 96 #[.pointer (some ⟨p, k, none⟩), .agg #[.int .i64 x.dev, .int .i64 x.inc], .int .i64 x.seq] w (RaisedI p k vs mv (raiseV l x).1 (.bool (raiseV l x).2) w) := by
  have ha := h.arg
  have hE := fun v ww (hb : Below w.heap.size w ww) => RaisedI.same (v := v) h hb
  have h6 := h.not_obj
  obtain ⟨h4, hk, h5, h3⟩ := h
  have hk9 := (List.getElem?_eq_some_iff.1 hk).1
  have hput := fun D (hD : VecD D l) hT (hr : rightD x = true) => hD.put hT h3 hr
  have hok := fun (hr : rightD x = true) => set_ok h3 hr
  have hmost := h3.most
  have hwf := is64_wf.1 hx.seq
  have hpl := h4.lt
  obtain ⟨dev, inc, seq⟩ := x
  obtain ⟨f1, f2, f3⟩ := hx
  dsimp only at *
  have hkey := key_actor f1 f2
  have o1 := ObjAt.new w #[.int .i64 dev, .int .i64 inc] 33
  have hb := below_alloc w (.cells #[.int .i64 dev, .int .i64 inc] 33)
  have u0 := o1.cell 0 rfl; have u1 := o1.cell 1 rfl
  have HR := fun v => dotRightC0 ⟨dev, inc, seq⟩ v
  have HG := fun v (hv : ArgV v (.pointer (some ⟨p, k, none⟩)) mv (fun b => b = p ∨ mv = some b) l) => vGetA hv dev inc f1 f2
  have ha1 := ha.below hb
  have q1 := h4.below hb hpl
  clear ha h4 f1 f2 f3
  unfold raiseV
  dsimp only
  cases hr : rightD ⟨dev, inc, seq⟩ with
  | false =>
    rw [hr] at HR
    rw [if_neg (fun c => absurd c.1 Bool.false_ne_true)]
    clear hr hput hok
    go_enter Tryz.func96, Tryz.ntmps96
    go_wp2_with (go_at_call 91; (with_reducible refine (HR _).mono ?_); rintro e w1 ⟨rfl, hx⟩; have hb := hb.trans (hx.mono hb.size))
    go_ret
    exact hE _ _ hb
  | true =>
    rw [hr] at HR
    have hput := fun D hD hT => hput D hD hT hr
    have hok := hok hr
    by_cases hc : getV l dev inc < seq
    · rw [if_pos ⟨rfl, hc⟩]
      have d1 : decide (seq ≤ getV l dev inc) = false := decide_eq_false (by omega)
      generalize setV l ⟨dev, inc, seq⟩ = l2 at *
      generalize getV l dev inc = G at *
      clear hc hr hE
      rcases h5 with ⟨rfl, rfl⟩ | ⟨B, n, D, rfl, hB, hm, hD⟩
      · have hmm := @run_makeMap Tryz.prog
        have kn := fun w r => Go.run_eql_map_nil (P := Tryz.prog) w 83 33 3 r Tryz.underlying83
        go_enter Tryz.func96, Tryz.ntmps96
        go_wp2_with (first
          | (go_at_call 91; (with_reducible refine (HR _).mono ?_); rintro e w2 ⟨rfl, hx⟩; have o2 := o1.below hx o1.lt; have ha2 := ha1.below hx; have q2 := q1.below hx q1.lt; have v0 := o2.cell 0 rfl; have v1 := o2.cell 1 rfl; have hb := hb.trans (hx.mono hb.size); clear hx)
          | (go_at_call 53; (with_reducible refine (HG _ ha2).mono ?_); rintro e w3 ⟨rfl, hx⟩; have o3 := o2.below hx o2.lt; have q3 := q2.below hx q2.lt; have x0 := o3.cell 0 rfl; have x1 := o3.cell 1 rfl; have y0 := q3.cell k hk; have b4 := below_alloc w3 (.map #[] 0); have q4 := q3.below b4 q3.lt; have y4 := q4.cell k hk; have g4 := q4.free k; have hb := hb.trans (hx.mono hb.size); clear hx))
        have q5 := q4.set k (.map (some w3.heap.size))
        have o5 := (o3.below b4 o3.lt).other (p := ⟨p, k, none⟩) (by show p ≠ w.heap.size; omega) (.map (some w3.heap.size))
        have hm5 := (World.ownsMap_made (H := Unit) w3 Tryz.prog 33 (plainElem Tryz.prog 3)).setCell (a := ⟨p, k, none⟩) (fun e => by have := q3.lt; have e2 : w3.heap.size = p := e; omega) (.map (some w3.heap.size))
        have k5 : Keeps (fun b => b = p ∨ (none : Option Nat) = some b) w ((w3.alloc (.map #[] 0)).setCell ⟨p, k, none⟩ (.map (some w3.heap.size))) := (Keeps.new (hb.trans (b4.mono hb.size))).setCell (.inl rfl) _
        have hs := hb.size
        generalize (w3.alloc (.map #[] 0)).setCell ⟨p, k, none⟩ (.map (some w3.heap.size)) = w5 at *
        have c0 := q5.cell k (List.getElem?_set_self hk9)
        have d0 := o5.cell 0 rfl; have d1' := o5.cell 1 rfl
        obtain ⟨w6, hrun, hm6, hg6⟩ := hm5.drew.update keyedActor Tryz.underlying83 (by unfold maxLen; omega) hkey (plainElem_int Tryz.underlying3 hwf)
        go_region
        all_goals (
          go_wp2
          go_ret)
        have kd : Keeps (fun b => b = p ∨ (none : Option Nat) = some b) w5 w5.drew := Keeps.new (Below.refl _ _).drew
        have k6 := Keeps.ofGrownBy hg6
        have hB6 := hm6.lt
        refine ⟨rfl, some w3.heap.size, ⟨(q5.drew).keeps k6 (fun e => by have := Option.some.inj e; omega), List.getElem?_set_self hk9, .inr ⟨_, _, _, rfl, rfl, hm6, hput _ VecD.empty ⟨[], rfl, List.Pairwise.nil⟩⟩, hok⟩, ?_, .inr ⟨_, rfl, by omega⟩⟩
        exact (k5.trans kd (fun _ _ h => h)).trans k6 (fun k hk e => by have := Option.some.inj e; omega)
      · have hne := obj_not_map q1 (hm.alloc _)
        have kn := fun w r => Go.run_eql_map_nil (P := Tryz.prog) w 83 33 3 r Tryz.underlying83
        have hsz := hD.size
        have hT := hm.tidy keyedActor
        have hm0 := ownsMap_tight hm
        go_enter Tryz.func96, Tryz.ntmps96
        go_wp2_with (first
          | (go_at_call 91; (with_reducible refine (HR _).mono ?_); rintro e w2 ⟨rfl, hx⟩; have o2 := o1.below hx o1.lt; have ha2 := ha1.below hx; have q2 := q1.below hx q1.lt; have v0 := o2.cell 0 rfl; have v1 := o2.cell 1 rfl; have hb := hb.trans (hx.mono hb.size); clear hx)
          | (go_at_call 53; (with_reducible refine (HG _ ha2).mono ?_); rintro e w3 ⟨rfl, hx⟩; have o3 := o2.below hx o2.lt; have q3 := q2.below hx q2.lt; have x0 := o3.cell 0 rfl; have x1 := o3.cell 1 rfl; have y0 := q3.cell k hk; have hb := hb.trans (hx.mono hb.size); clear hx))
        have k5 : Keeps (fun b => b = p ∨ some B = some b) w w3 := Keeps.new hb
        have hm5 := (Keeps.new (F := fun _ => False) hb).grownBy (b := B) (fun h => h) hm0
        obtain ⟨w6, hrun, hm6, hg6⟩ := hm5.drew.update keyedActor Tryz.underlying83 (by unfold maxLen; omega) hkey (plainElem_int Tryz.underlying3 hwf)
        go_region
        all_goals (
          go_wp2
          go_ret)
        have kd : Keeps (fun b => b = p ∨ some B = some b) w3 w3.drew := Keeps.new (Below.refl _ _).drew
        have k6 := Keeps.ofGrownBy hg6
        refine ⟨rfl, some B, ⟨by rw [set_as hk]; exact (q3.drew).keeps k6 (fun e => hne (Option.some.inj e)), by rw [set_as hk]; exact hk, .inr ⟨_, _, _, rfl, rfl, hm6, hput _ hD hT⟩, hok⟩, ?_, .inl rfl⟩
        exact (k5.trans kd (fun _ _ h => h)).trans k6 (fun b hb e => .inr e)
    · rw [if_neg (fun c => hc c.2)]
      have d1 : decide (seq ≤ getV l dev inc) = true := decide_eq_true (by omega)
      generalize getV l dev inc = G at *
      clear hc hput hok hr
      go_enter Tryz.func96, Tryz.ntmps96
      go_wp2_with (first
        | (go_at_call 91; (with_reducible refine (HR _).mono ?_); rintro e w2 ⟨rfl, hx⟩; have o2 := o1.below hx o1.lt; have ha2 := ha1.below hx; have v0 := o2.cell 0 rfl; have v1 := o2.cell 1 rfl; have hb := hb.trans (hx.mono hb.size); clear hx)
        | (go_at_call 53; (with_reducible refine (HG _ ha2).mono ?_); rintro e w3 ⟨rfl, hx⟩; have hb := hb.trans (hx.mono hb.size); clear hx))
      go_ret
      exact hE _ _ hb

end Go.Proofs.YtelgaglnmcggkaaGreatDoor

/- How marks and flags as arguments are opened. -/
namespace Go.Proofs.YtelgaglnmcggkaaGreatDoor
open Go.ChangeShapes Go.WideShapes Go.ChangeAt Go.RowKit
set_option linter.unusedVariables false

end Go.Proofs.YtelgaglnmcggkaaGreatDoor
