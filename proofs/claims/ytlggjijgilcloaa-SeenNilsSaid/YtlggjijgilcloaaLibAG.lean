/- Contracts and plain words that the laws' proofs stand on, put together. -/
import Derived.Test.YtlggjijgilcloaaLibAF
import Derived.Test.YtlggjijgilcloaaLibAA
import Derived.Deep.RegionHeld3
import Derived.BigQuiet
import Derived.DeepKeys4
import Derived.Maps.OwnOps
import Derived.Maps.OwnSet
import Derived.Maps.Views
import Derived.Maps.RangeWalk
import Derived.WalkSpells
import Derived.Test.YtlggjijgilcloaaShelf
import Derived.Shelf.SlSortCmp.WholeK
import Derived.Shelf.SlSortCmp.NoneTotal
/- Vectors in plain words: marks in order, how far each actor was heard. No program in it. -/
namespace Go.Proofs.Ytlggjijgilcloaa
open Go.RowKit
set_option linter.unusedVariables false

def sameA (x y : DotN) : Bool := x.dev == y.dev && x.inc == y.inc
def aheadD (x y : DotN) : Bool := aheadA x.dev x.inc y.dev y.inc
theorem sameA_iff {x y : DotN} : sameA x y = true ↔ x.dev = y.dev ∧ x.inc = y.inc := by unfold sameA; rw [Bool.and_eq_true, beq_iff_eq, beq_iff_eq]
theorem aheadD_iff {x y : DotN} : aheadD x y = true ↔ x.dev < y.dev ∨ (x.dev = y.dev ∧ x.inc < y.inc) := by
  unfold aheadD aheadA
  by_cases h : x.dev = y.dev
  · rw [if_neg (fun c => c h), decide_eq_true_iff]
    omega
  · rw [if_pos h, decide_eq_true_iff]
    omega
theorem aheadD_no {x y : DotN} : aheadD x y = false ↔ ¬ (x.dev < y.dev ∨ (x.dev = y.dev ∧ x.inc < y.inc)) := by rw [← aheadD_iff, Bool.not_eq_true]
theorem sameA_no {x y : DotN} : sameA x y = false ↔ ¬ (x.dev = y.dev ∧ x.inc = y.inc) := by rw [← sameA_iff, Bool.not_eq_true]

/-- Marks in order. -/
def OrdV (l : List DotN) : Prop := l.Pairwise fun x y => aheadD x y = true
structure OkV (l : List DotN) : Prop where
  ord : OrdV l
  right : ∀ x ∈ l, rightD x = true

theorem OrdV.sorted {l : List DotN} (h : OrdV l) : SortedD l := List.Pairwise.imp (fun {x y} h => by rw [lessD_iff]; rw [aheadD_iff] at h; omega) h

/-- An actor's number: 0, if there is none. -/
def getV : List DotN → Int → Int → Int
  | [], _, _ => 0
  | y :: t, d, i => if y.dev = d ∧ y.inc = i then y.seq else getV t d i
theorem getV_none {l : List DotN} {d i : Int} (h : ∀ y ∈ l, ¬ (y.dev = d ∧ y.inc = i)) : getV l d i = 0 := by
  induction l with
  | nil => rfl
  | cons y t ih =>
    unfold getV
    rw [if_neg (h y (List.mem_cons_self ..))]
    exact ih fun z hz => h z (List.mem_cons_of_mem _ hz)
theorem getV_app {a b : List DotN} {d i : Int} (h : ∀ y ∈ a, ¬ (y.dev = d ∧ y.inc = i)) : getV (a ++ b) d i = getV b d i := by
  induction a with
  | nil => rfl
  | cons y t ih =>
    rw [List.cons_append, getV, if_neg (h y (List.mem_cons_self ..))]
    exact ih fun z hz => h z (List.mem_cons_of_mem _ hz)
theorem getV_mem {l : List DotN} (h : OrdV l) {x : DotN} (hx : x ∈ l) : getV l x.dev x.inc = x.seq := by
  induction l with
  | nil => cases hx
  | cons y t ih =>
    obtain ⟨h1, h2⟩ := List.pairwise_cons.1 h
    unfold getV
    rcases List.mem_cons.1 hx with rfl | hx
    · rw [if_pos ⟨rfl, rfl⟩]
    · have := h1 x hx
      rw [aheadD_iff] at this
      rw [if_neg (by omega)]
      exact ih h2 hx
theorem getV_some {l : List DotN} {d i : Int} (h : getV l d i ≠ 0) : ∃ x ∈ l, x.dev = d ∧ x.inc = i ∧ x.seq = getV l d i := by
  induction l with
  | nil => exact absurd rfl h
  | cons y t ih =>
    unfold getV at h ⊢
    by_cases c : y.dev = d ∧ y.inc = i
    · rw [if_pos c]
      exact ⟨y, List.mem_cons_self .., c.1, c.2, rfl⟩
    · rw [if_neg c] at h ⊢
      obtain ⟨x, hx, e⟩ := ih h
      exact ⟨x, List.mem_cons_of_mem _ hx, e⟩
theorem getV_range {l : List DotN} (h : OkV l) (d i : Int) : 0 ≤ getV l d i ∧ getV l d i ≤ 4294967296 := by
  by_cases c : getV l d i = 0
  · rw [c]; omega
  · obtain ⟨x, hx, _, _, e⟩ := getV_some c
    have := right_range (h.right x hx)
    rw [← e]
    omega

/-- Marks are what their numbers say. -/
theorem okV_ext {l m : List DotN} (hl : OkV l) (hm : OkV m) (h : ∀ d i, getV l d i = getV m d i) : l = m := by
  have key : ∀ {a b : List DotN}, OkV a → OkV b → (∀ d i, getV a d i = getV b d i) → ∀ x ∈ a, x ∈ b := by
    intro a b ha hb hab x hx
    have e := getV_mem ha.ord hx
    have hr := right_range (ha.right x hx)
    have hne : getV b x.dev x.inc ≠ 0 := by rw [← hab, e]; omega
    obtain ⟨y, hy, e1, e2, e3⟩ := getV_some hne
    rw [← hab, e] at e3
    have : y = x := DotN.ext' e1 e2 e3
    rw [← this]
    exact hy
  exact sorted_unique hl.ord.sorted hm.ord.sorted fun x => ⟨key hl hm h x, key hm hl (fun d i => (h d i).symm) x⟩

def setStep (x : DotN) (s : List DotN × Bool) (y : DotN) : List DotN × Bool :=
  let s1 := if (!s.2 && !aheadD y x) = true then (s.1 ++ [x], true) else s
  if sameA y x = true then s1 else (s1.1 ++ [y], s1.2)
/-- Marks with another number of an actor. -/
def setV (l : List DotN) (x : DotN) : List DotN := if (l.foldl (setStep x) ([], false)).2 = true then (l.foldl (setStep x) ([], false)).1 else (l.foldl (setStep x) ([], false)).1 ++ [x]

theorem set_true (x : DotN) : ∀ (t o : List DotN), t.foldl (setStep x) (o, true) = (o ++ t.filter (fun y => !sameA y x), true)
  | [], o => by simp
  | y :: t, o => by
    rw [List.foldl_cons]
    cases h : sameA y x with
    | true =>
      have e : setStep x (o, true) y = (o, true) := by simp [setStep, h]
      rw [e, set_true x t o, List.filter_cons_of_neg (by simp [h])]
    | false =>
      have e : setStep x (o, true) y = (o ++ [y], true) := by simp [setStep, h]
      rw [e, set_true x t, List.filter_cons_of_pos (by simp [h])]
      simp

theorem set_is {l : List DotN} (hl : OrdV l) (x : DotN) : setV l x = l.filter (fun y => aheadD y x) ++ x :: l.filter (fun y => aheadD x y) := by
  have key : ∀ (l out : List DotN), OrdV l → (l.foldl (setStep x) (out, false) = (out ++ l, false) ∧ l.filter (fun y => aheadD y x) = l ∧ l.filter (fun y => aheadD x y) = []) ∨ l.foldl (setStep x) (out, false) = (out ++ l.filter (fun y => aheadD y x) ++ x :: l.filter (fun y => aheadD x y), true) := by
    intro l
    induction l with
    | nil => exact fun out _ => .inl ⟨by simp, rfl, rfl⟩
    | cons y t ih =>
      intro out h
      obtain ⟨h1, h2⟩ := List.pairwise_cons.1 h
      rw [List.foldl_cons]
      cases hy : aheadD y x with
      | true =>
        have hs : sameA y x = false := by rw [sameA_no]; rw [aheadD_iff] at hy; omega
        have hn : aheadD x y = false := by rw [aheadD_no]; rw [aheadD_iff] at hy; omega
        have e : setStep x (out, false) y = (out ++ [y], false) := by simp [setStep, hy, hs]
        rw [e, List.filter_cons_of_pos (p := fun y => aheadD y x) hy, List.filter_cons_of_neg (p := fun y => aheadD x y) (by rw [hn]; exact Bool.false_ne_true)]
        rcases ih (out ++ [y]) h2 with ⟨a, b, c⟩ | a
        · exact .inl ⟨by rw [a]; simp, by rw [b], c⟩
        · exact .inr (by rw [a]; simp)
      | false =>
        have hall : ∀ z ∈ t, aheadD x z = true ∧ aheadD z x = false ∧ sameA z x = false := by
          intro z hz
          have := h1 z hz
          rw [aheadD_iff] at this
          rw [aheadD_no] at hy
          refine ⟨?_, ?_, ?_⟩
          · rw [aheadD_iff]; omega
          · rw [aheadD_no]; omega
          · rw [sameA_no]; omega
        have f1 : t.filter (fun y => aheadD y x) = [] := by
          rw [List.filter_eq_nil_iff]
          intro z hz
          rw [(hall z hz).2.1]
          exact Bool.false_ne_true
        have f2 : t.filter (fun y => aheadD x y) = t := by
          rw [List.filter_eq_self]
          intro z hz
          exact (hall z hz).1
        have f3 : t.filter (fun y => !sameA y x) = t := by
          rw [List.filter_eq_self]
          intro z hz
          rw [(hall z hz).2.2]
          rfl
        right
        rw [List.filter_cons_of_neg (p := fun y => aheadD y x) (by rw [hy]; exact Bool.false_ne_true), f1]
        cases hs : sameA y x with
        | true =>
          have hn : aheadD x y = false := by rw [aheadD_no]; rw [sameA_iff] at hs; omega
          have e : setStep x (out, false) y = (out ++ [x], true) := by simp [setStep, hy, hs]
          rw [e, set_true, f3, List.filter_cons_of_neg (p := fun y => aheadD x y) (by rw [hn]; exact Bool.false_ne_true), f2]
          simp
        | false =>
          have hn : aheadD x y = true := by
            rw [aheadD_no] at hy
            rw [sameA_no] at hs
            rw [aheadD_iff]
            omega
          have e : setStep x (out, false) y = (out ++ [x] ++ [y], true) := by simp [setStep, hy, hs]
          rw [e, set_true, f3, List.filter_cons_of_pos (p := fun y => aheadD x y) hn, f2]
          simp
  unfold setV
  rcases key l [] hl with ⟨a, b, c⟩ | a
  · rw [a, b, c]
    simp
  · rw [a]
    simp

theorem set_ok {l : List DotN} (hl : OkV l) {x : DotN} (hx : rightD x = true) : OkV (setV l x) := by
  rw [set_is hl.ord]
  constructor
  · refine List.pairwise_append.2 ⟨hl.ord.filter _, List.pairwise_cons.2 ⟨fun y hy => (List.mem_filter.1 hy).2, hl.ord.filter _⟩, fun a ha b hb => ?_⟩
    have h1 := (List.mem_filter.1 ha).2
    rcases List.mem_cons.1 hb with rfl | hb
    · exact h1
    · have h2 := (List.mem_filter.1 hb).2
      rw [aheadD_iff] at *
      omega
  · intro y hy
    rcases List.mem_append.1 hy with h | h
    · exact hl.right y (List.mem_filter.1 h).1
    · rcases List.mem_cons.1 h with rfl | h
      · exact hx
      · exact hl.right y (List.mem_filter.1 h).1

theorem getV_filter {l : List DotN} (p : DotN → Bool) {d i : Int} (h : ∀ y ∈ l, y.dev = d → y.inc = i → p y = true) : getV (l.filter p) d i = getV l d i := by
  induction l with
  | nil => rfl
  | cons y t ih =>
    have ht := ih fun z hz => h z (List.mem_cons_of_mem _ hz)
    by_cases c : y.dev = d ∧ y.inc = i
    · rw [List.filter_cons_of_pos (h y (List.mem_cons_self ..) c.1 c.2), getV, getV, if_pos c, if_pos c]
    · cases hp : p y with
      | true => rw [List.filter_cons_of_pos hp, getV, getV, if_neg c, if_neg c, ht]
      | false => rw [List.filter_cons_of_neg (by rw [hp]; exact Bool.false_ne_true), getV, if_neg c, ht]

theorem getV_set {l : List DotN} (hl : OrdV l) (x : DotN) (d i : Int) : getV (setV l x) d i = if x.dev = d ∧ x.inc = i then x.seq else getV l d i := by
  rw [set_is hl]
  by_cases c : x.dev = d ∧ x.inc = i
  · rw [if_pos c, getV_app, getV, if_pos c]
    intro y hy e
    have := (List.mem_filter.1 hy).2
    rw [aheadD_iff] at this
    omega
  · rw [if_neg c]
    by_cases c2 : x.dev < d ∨ (x.dev = d ∧ x.inc < i)
    · rw [getV_app, getV, if_neg c]
      · exact getV_filter _ fun y _ e1 e2 => by rw [aheadD_iff]; omega
      · intro y hy e
        have := (List.mem_filter.1 hy).2
        rw [aheadD_iff] at this
        omega
    · have e1 : getV (l.filter fun y => aheadD y x) d i = getV l d i := getV_filter _ fun y _ e1 e2 => by rw [aheadD_iff]; omega
      rw [← e1]
      generalize (l.filter fun y => aheadD y x) = A
      have hB : getV (x :: l.filter fun y => aheadD x y) d i = 0 := by
        rw [getV, if_neg c]
        refine getV_none fun y hy e => ?_
        have := (List.mem_filter.1 hy).2
        rw [aheadD_iff] at this
        omega
      generalize (x :: l.filter fun y => aheadD x y) = B at *
      induction A with
      | nil => exact hB
      | cons y t ih =>
        rw [List.cons_append, getV, getV]
        split
        · rfl
        · exact ih

def raiseV (l : List DotN) (x : DotN) : List DotN × Bool := if rightD x = true ∧ getV l x.dev x.inc < x.seq then (setV l x, true) else (l, false)
def takeV (l : List DotN) (x : DotN) : List DotN × Bool := if rightD x = true ∧ getV l x.dev x.inc + 1 = x.seq then (setV l x, true) else (l, false)
def hasV (l : List DotN) (x : DotN) : Bool := rightD x && decide (x.seq ≤ getV l x.dev x.inc)
def joinV (l m : List DotN) : List DotN := m.foldl (fun l x => (raiseV l x).1) l
def meetStep (m : List DotN) (x : DotN) : List DotN := if 0 < min x.seq (getV m x.dev x.inc) then [⟨x.dev, x.inc, min x.seq (getV m x.dev x.inc)⟩] else []
def meetV (l m : List DotN) : List DotN := l.flatMap (meetStep m)
def coversV (l m : List DotN) : Bool := m.all fun x => decide (x.seq ≤ getV l x.dev x.inc)
def sumV (l : List DotN) : Int := (l.map (·.seq)).sum

theorem nil_ok : OkV [] := ⟨List.Pairwise.nil, fun x h => by cases h⟩
theorem raise_ok {l : List DotN} (hl : OkV l) (x : DotN) : OkV (raiseV l x).1 := by
  unfold raiseV
  split
  · rename_i h
    exact set_ok hl h.1
  · exact hl
theorem take_ok {l : List DotN} (hl : OkV l) (x : DotN) : OkV (takeV l x).1 := by
  unfold takeV
  split
  · rename_i h
    exact set_ok hl h.1
  · exact hl
theorem getV_raise {l : List DotN} (hl : OkV l) {x : DotN} (hx : rightD x = true) (d i : Int) : getV (raiseV l x).1 d i = if x.dev = d ∧ x.inc = i then max (getV l d i) x.seq else getV l d i := by
  unfold raiseV
  by_cases c : getV l x.dev x.inc < x.seq
  · rw [if_pos ⟨hx, c⟩, getV_set hl.ord]
    by_cases e : x.dev = d ∧ x.inc = i
    · rw [if_pos e, if_pos e]
      obtain ⟨rfl, rfl⟩ := e
      omega
    · rw [if_neg e, if_neg e]
  · rw [if_neg (fun h => c h.2)]
    by_cases e : x.dev = d ∧ x.inc = i
    · rw [if_pos e]
      obtain ⟨rfl, rfl⟩ := e
      show getV l x.dev x.inc = _
      omega
    · rw [if_neg e]

theorem join_all {m : List DotN} : ∀ {l : List DotN}, OkV l → OkV m → OkV (joinV l m) ∧ ∀ d i, getV (joinV l m) d i = max (getV l d i) (getV m d i) := by
  induction m with
  | nil =>
    intro l hl _
    refine ⟨hl, fun d i => ?_⟩
    have := getV_range hl d i
    show getV l d i = max (getV l d i) 0
    omega
  | cons x t ih =>
    intro l hl hm
    obtain ⟨h1, h2⟩ := List.pairwise_cons.1 hm.ord
    have hx := hm.right x (List.mem_cons_self ..)
    have ht : OkV t := ⟨h2, fun y hy => hm.right y (List.mem_cons_of_mem _ hy)⟩
    obtain ⟨a, b⟩ := ih (raise_ok hl x) ht
    refine ⟨a, fun d i => ?_⟩
    show getV (joinV (raiseV l x).1 t) d i = _
    rw [b, getV_raise hl hx, getV]
    by_cases e : x.dev = d ∧ x.inc = i
    · rw [if_pos e, if_pos e]
      have e0 : getV t d i = 0 := getV_none fun y hy c => by
        have := h1 y hy
        rw [aheadD_iff] at this
        omega
      have := right_range hx
      have := getV_range hl d i
      rw [e0]
      omega
    · rw [if_neg e, if_neg e]

end Go.Proofs.Ytlggjijgilcloaa

/- Vectors in plain words: which marks may be, and how they are packed. No program in it. -/
namespace Go.Proofs.Ytlggjijgilcloaa
open Go.RowKit
set_option linter.unusedVariables false

/-- Marks, packed. -/
def packV (l : List DotN) : List Int := short l.length ++ l.flatMap bytesD
theorem packs_snoc {L : List DotN} {k : Nat} {y : DotN} (h : L[k]? = some y) : (L.take (k + 1)).flatMap bytesD = (L.take k).flatMap bytesD ++ bytesD y := by
  obtain ⟨hk, rfl⟩ := List.getElem?_eq_some_iff.1 h
  rw [List.take_succ_eq_append_getElem hk, List.flatMap_append]
  simp
theorem bytesD_len {x : DotN} (h : rightD x = true) : (bytesD x).length ≤ 30 := by
  have := putD_len x
  unfold putD at this
  rw [if_pos h] at this
  exact this
theorem packs_len : ∀ {l : List DotN}, (∀ x ∈ l, rightD x = true) → (l.flatMap bytesD).length ≤ 30 * l.length
  | [], _ => Nat.zero_le _
  | x :: t, h => by
    have h1 := bytesD_len (h x (List.mem_cons_self ..))
    have h2 := packs_len (l := t) fun y hy => h y (List.mem_cons_of_mem _ hy)
    rw [List.flatMap_cons, List.length_append, List.length_cons]
    omega
end Go.Proofs.Ytlggjijgilcloaa

/- Contracts of the reference of layer 17: an actor's number, marks with another one. -/
namespace Go.Proofs.Ytlggjijgilcloaa
open Go.RowKit
set_option linter.unusedVariables false

theorem infoMark : (Try.prog.info? 53).map (fun i => (i.zero, i.size, i.bytes)) = some (some (.agg #[.int .i64 0, .int .i64 0, .int .i64 0]), 3, 24) := by kernel_rfl
theorem eqMark (x y : DotN) (w : World) : Sem.run Try.prog (Op.equalIn 10000 53 (.agg #[.int .i64 x.dev, .int .i64 x.inc, .int .i64 x.seq]) (.agg #[.int .i64 y.dev, .int .i64 y.inc, .int .i64 y.seq])) w = Result.ok (sameD x y) w := by
  unfold sameD
  cases h1 : x.dev == y.dev <;> cases h2 : x.inc == y.inc <;> cases h3 : x.seq == y.seq <;> simp [go_sem, h1, h2, h3]
theorem sameA_val (x y : DotN) : (x.dev == y.dev && x.inc == y.inc) = sameA x y := rfl

/-- What lies there while marks are set: the actor, boxed; the marks that are new. -/
structure StS (w : World) (x : DotN) (b : Option Addr) (m C : Nat) (R : List DotN) (v : World) : Prop where
  o1 : ObjAt v w.heap.size [.int .i64 x.dev, .int .i64 x.inc]
  hZ : OwnZ encD 3 (w.heap.size + 1) 53 b m C R v
  hB : Below w.heap.size w v
theorem StS.below {w v v' : World} {x : DotN} {b : Option Addr} {m C : Nat} {R : List DotN} (h : StS w x b m C R v) (hx : Below v.heap.size v v') : StS w x b m C R v' :=
  ⟨h.o1.below hx h.o1.lt, h.hZ.below hx (Nat.le_refl _), h.hB.trans (hx.mono h.hB.size)⟩
theorem StS.drawn {w v : World} {x : DotN} {b : Option Addr} {m C : Nat} {R : List DotN} (h : StS w x b m C R v) (q : Nat) : StS w x b m C R (v.drewN q) := h.below (drawn_below (Below.refl _ _) q)
theorem StS.lt {w v : World} {x : DotN} {b : Option Addr} {m C : Nat} {R : List DotN} (h : StS w x b m C R v) : w.heap.size + 1 ≤ v.heap.size := h.o1.lt
theorem StS.grown {w v v' : World} {x : DotN} {b b' : Option Addr} {m C m' C' : Nat} {R R' : List DotN} (h : StS w x b m C R v) (hz : OwnZ encD 3 (w.heap.size + 1) 53 b' m' C' R' v') (hx : Below (w.heap.size + 1) v v') : StS w x b' m' C' R' v' :=
  ⟨h.o1.below hx (Nat.lt_succ_self _), hz, h.hB.trans (hx.mono (Nat.le_succ _))⟩

set_option maxHeartbeats 4000000 in
set_option maxRecDepth 100000 in
theorem refSetVC (a : Option Addr) (n c : Nat) (L : List DotN) (x : DotN) (w : World) (hL : RowOf encD 3 w a n c L) (hn9 : n ≤ 1000000) :
    Calls Try.prog 49 #[.slice a n c, .agg #[.int .i64 x.dev, .int .i64 x.inc], .int .i64 x.seq] w (GivesZ encD 3 53 (setV L x) (setV L x).length w) := by
  have hn := hL.leq
  have hcm := hL.capm
  have hcl := hL.cle
  unfold maxLen at hcm
  obtain ⟨i0, hi, hz0, hz1, hz2⟩ := info_parts infoMark
  have o1 := ObjAt.new w #[.int .i64 x.dev, .int .i64 x.inc] 24
  have b1 := below_alloc w (.cells #[.int .i64 x.dev, .int .i64 x.inc] 24)
  have hs1 : (w.alloc (.cells #[.int .i64 x.dev, .int .i64 x.inc] 24)).heap.size = w.heap.size + 1 := by simp
  generalize hw1 : w.alloc (.cells #[.int .i64 x.dev, .int .i64 x.inc] 24) = w1 at *
  have hZ0 := OwnZ.lit encD 3 53 w1
  have b2 := below_alloc w1 (.cells #[] 53)
  rw [hs1] at hZ0
  have hS0 : StS w x (some ⟨w.heap.size + 1, 0, none⟩) 0 0 [] (w1.alloc (.cells #[] 53)) := ⟨o1.below b2 o1.lt, hZ0, b1.trans (b2.mono b1.size)⟩
  have HL := Lib.hid hL
  have Hn := Lib.hid hn
  clear hL hn o1 hZ0
  unfold GivesZ
  go_enter Try.func49, Try.ntmps49
  go_wp2
  go_loopw [7, 8, 9] (fun l t i wr => ∃ (k m : Nat) (b : Option Addr) (C : Nat) (R : List DotN) (u : Bool), k ≤ n ∧ m ≤ k + 1 ∧ (u = false → m ≤ k) ∧ l = .slice b m C ∧ t = .bool u ∧ i = .int .i64 (k : Int) ∧ Hid ((L.take k).foldl (setStep x) ([], false) = (R, u)) ∧ StS w x b m C R wr) (fun _ _ i _ => n - (intOf i).toNat)
  case atStart => exact ⟨0, 0, _, 0, [], false, Nat.zero_le _, by omega, fun _ => Nat.le_refl _, rfl, rfl, rfl, rfl, hS0⟩
  case round =>
    clear hS0 b1 b2 hw1 hs1
    obtain ⟨k, m, b, C, R, u, hk, hm, hmu, rfl, rfl, rfl, hs, hS⟩ := hrel
    have hRl : R.length = m := hS.hZ.2.1
    by_cases hlt : k < n
    · have hlt' : (k : Int) < (n : Int) := by omega
      have g1' : decide ((k : Int) < (n : Int)) = true := decide_eq_true hlt'
      have i1 : (0 : Int) ≤ (k : Int) := by omega
      obtain ⟨y, g, off, hy, rfl, d0, d1, d2⟩ := dot_at (HL.out.below hS.hB) k hlt
      have hC : ∀ v, Below w.heap.size w v → v.cell? ⟨g, off + k * 3, none⟩ = some (.int .i64 y.dev) ∧ v.cell? ⟨g, off + k * 3 + 1, none⟩ = some (.int .i64 y.inc) ∧ v.cell? ⟨g, off + k * 3 + 2, none⟩ = some (.int .i64 y.seq) := fun v hv => by
        obtain ⟨y', g', off', e1, e2, e3⟩ := dot_at (HL.out.below hv) k hlt
        rw [hy] at e1
        cases e1
        cases e2
        exact e3
      have hst : Hid ((L.take (k + 1)).foldl (setStep x) ([], false) = setStep x (R, u) y) := by unfold Hid; rw [take_snocI hy, List.foldl_append, hs.out]; rfl
      have hE := eqActor y.dev y.inc x.dev x.inc
      rw [sameA_val] at hE
      have HA := fun w => refAheadAC y.dev y.inc x.dev x.inc w
      have hah : aheadA y.dev y.inc x.dev x.inc = aheadD y x := rfl
      rw [hah] at HA
      have p0 := hS.o1.cell 0 rfl; have p1 := hS.o1.cell 1 rfl
      clear hs hy hah
      cases u with
      | true =>
        cases hsa : sameA y x with
        | true =>
          rw [hsa] at hE
          have h9 := Lib.hid (hst.out.trans (show setStep x (R, true) y = (R, true) by simp [setStep, hsa]))
          clear hst hsa
          go_wp2_with fail
          go_quiet (fail)
          go_wp2_with fail
          refine wp_some (fun v => StS w x b m C R v) (hS.drawn _) ?_
          intro w2 hS2
          have q0 := hS2.o1.cell 0 rfl; have q1 := hS2.o1.cell 1 rfl
          obtain ⟨e0, e1, e2⟩ := hC _ hS2.hB
          go_wp2_with fail
          go_quiet (fail)
          go_wp2
          go_roundw
          case rel => exact ⟨k + 1, m, b, C, R, true, by omega, by omega, (fun h => by first | (cases h; done) | omega), rfl, rfl, by go_num, h9, hS2.drawn _⟩
          case measure => simp [intOf]; omega
        | false =>
          rw [hsa] at hE
          have h9 := Lib.hid (hst.out.trans (show setStep x (R, true) y = (R ++ [y], true) by simp [setStep, hsa]))
          clear hst hsa
          go_wp2_with fail
          go_quiet (fail)
          go_wp2_with fail
          refine wp_some (fun v => StS w x b m C R v) (hS.drawn _) ?_
          intro w2 hS2
          have q0 := hS2.o1.cell 0 rfl; have q1 := hS2.o1.cell 1 rfl
          obtain ⟨e0, e1, e2⟩ := hC _ hS2.hB
          go_wp2_with fail
          go_quiet (fail)
          go_wp2_with (at_builtin; refine wpList_append_row1 encD_len (by decide) encD_one rfl (.tmp 42) (.tmp 47) 50 rfl 53 i0 (.agg #[.int .i64 0, .int .i64 0, .int .i64 0]) 24 Try.underlying50 hi hz0 hz1 hz2 rfl (hS2.drawn _).hZ rfl y rfl rfl (m + 1) rfl (by unfold maxLen; omega) (by omega) (hS2.drawn _).lt ?_; intro b6 C6 w6 hz6 hx6 hg6 hn6; have hS6 := (hS2.drawn _).grown hz6 hx6)
          go_roundw
          case rel => exact ⟨k + 1, m + 1, b6, C6, R ++ [y], true, by omega, by omega, (fun h => by first | (cases h; done) | omega), rfl, rfl, by go_num, h9, hS6⟩
          case measure => simp [intOf]; omega
      | false =>
        have hmk := hmu rfl
        cases hah : aheadD y x with
        | true =>
          have hsa : sameA y x = false := by rw [sameA_no]; rw [aheadD_iff] at hah; omega
          rw [hsa] at hE
          simp only [hah] at HA
          have h9 := Lib.hid (hst.out.trans (show setStep x (R, false) y = (R ++ [y], false) by simp [setStep, hah, hsa]))
          clear hst hah hsa
          go_wp2_with fail
          have hdr : Below wr.heap.size wr wr.drew := (Below.refl _ wr).drew
          have hS9 : ∀ w', Below wr.heap.size wr w' → w'.cell? ⟨w.heap.size, 0, none⟩ = some (.int .i64 x.dev) ∧ w'.cell? ⟨w.heap.size, 1, none⟩ = some (.int .i64 x.inc) ∧ w'.cell? ⟨g, off + k * 3, none⟩ = some (.int .i64 y.dev) ∧ w'.cell? ⟨g, off + k * 3 + 1, none⟩ = some (.int .i64 y.inc) ∧ w'.cell? ⟨g, off + k * 3 + 2, none⟩ = some (.int .i64 y.seq) := fun w' h => ⟨(hS.below h).o1.cell 0 rfl, (hS.below h).o1.cell 1 rfl, hC _ (hS.below h).hB⟩
          go_region_held3 (fun w' => w'.cell? ⟨w.heap.size, 0, none⟩ = some (.int .i64 x.dev) ∧ w'.cell? ⟨w.heap.size, 1, none⟩ = some (.int .i64 x.inc) ∧ w'.cell? ⟨g, off + k * 3, none⟩ = some (.int .i64 y.dev) ∧ w'.cell? ⟨g, off + k * 3 + 1, none⟩ = some (.int .i64 y.inc) ∧ w'.cell? ⟨g, off + k * 3 + 2, none⟩ = some (.int .i64 y.seq))
            (first | exact hS9 _ hdr | exact hS9 _ (hdr.trans hx))
            (first | (go_at_call 52; (with_reducible refine (HA _).mono ?_); rintro e w2 ⟨rfl, hx⟩))
          have hS2 := hS.below (hdr.trans hx)
          clear hS9 hdr hx
          go_wp2_with fail
          have q0 := hS2.o1.cell 0 rfl; have q1 := hS2.o1.cell 1 rfl
          obtain ⟨e0, e1, e2⟩ := hC _ hS2.hB
          go_wp2_with fail
          go_quiet (fail)
          go_wp2_with (at_builtin; refine wpList_append_row1 encD_len (by decide) encD_one rfl (.tmp 42) (.tmp 47) 50 rfl 53 i0 (.agg #[.int .i64 0, .int .i64 0, .int .i64 0]) 24 Try.underlying50 hi hz0 hz1 hz2 rfl (hS2.drawn _).hZ rfl y rfl rfl (m + 1) rfl (by unfold maxLen; omega) (by omega) (hS2.drawn _).lt ?_; intro b6 C6 w6 hz6 hx6 hg6 hn6; have hS6 := (hS2.drawn _).grown hz6 hx6)
          go_roundw
          case rel => exact ⟨k + 1, m + 1, b6, C6, R ++ [y], false, by omega, by omega, (fun h => by first | (cases h; done) | omega), rfl, rfl, by go_num, h9, hS6⟩
          case measure => simp [intOf]; omega
        | false =>
          simp only [hah] at HA
          cases hsa : sameA y x with
          | true =>
            rw [hsa] at hE
            have h9 := Lib.hid (hst.out.trans (show setStep x (R, false) y = (R ++ [x], true) by simp [setStep, hah, hsa]))
            clear hst hah hsa
            go_wp2_with fail
            have hdr : Below wr.heap.size wr wr.drew := (Below.refl _ wr).drew
            have hS9 : ∀ w', Below wr.heap.size wr w' → w'.cell? ⟨w.heap.size, 0, none⟩ = some (.int .i64 x.dev) ∧ w'.cell? ⟨w.heap.size, 1, none⟩ = some (.int .i64 x.inc) ∧ w'.cell? ⟨g, off + k * 3, none⟩ = some (.int .i64 y.dev) ∧ w'.cell? ⟨g, off + k * 3 + 1, none⟩ = some (.int .i64 y.inc) ∧ w'.cell? ⟨g, off + k * 3 + 2, none⟩ = some (.int .i64 y.seq) := fun w' h => ⟨(hS.below h).o1.cell 0 rfl, (hS.below h).o1.cell 1 rfl, hC _ (hS.below h).hB⟩
            go_region_held3 (fun w' => w'.cell? ⟨w.heap.size, 0, none⟩ = some (.int .i64 x.dev) ∧ w'.cell? ⟨w.heap.size, 1, none⟩ = some (.int .i64 x.inc) ∧ w'.cell? ⟨g, off + k * 3, none⟩ = some (.int .i64 y.dev) ∧ w'.cell? ⟨g, off + k * 3 + 1, none⟩ = some (.int .i64 y.inc) ∧ w'.cell? ⟨g, off + k * 3 + 2, none⟩ = some (.int .i64 y.seq))
              (first | exact hS9 _ hdr | exact hS9 _ (hdr.trans hx))
              (first | (go_at_call 52; (with_reducible refine (HA _).mono ?_); rintro e w2 ⟨rfl, hx⟩))
            have hS2 := hS.below (hdr.trans hx)
            clear hS9 hdr hx
            obtain ⟨q0, q1⟩ : _ ∧ _ := ⟨hS2.o1.cell 0 rfl, hS2.o1.cell 1 rfl⟩
            go_wp2_with (at_builtin; refine wpList_append_row1 encD_len (by decide) encD_one rfl (.tmp 29) (.tmp 33) 50 rfl 53 i0 (.agg #[.int .i64 0, .int .i64 0, .int .i64 0]) 24 Try.underlying50 hi hz0 hz1 hz2 rfl hS2.hZ rfl x rfl rfl (m + 1) rfl (by unfold maxLen; omega) (by omega) hS2.lt ?_; intro b3 C3 w3 hz3 hx3 hg3 hn3; have hS3 := hS2.grown hz3 hx3)
            have q0 := hS3.o1.cell 0 rfl; have q1 := hS3.o1.cell 1 rfl
            obtain ⟨e0, e1, e2⟩ := hC _ hS3.hB
            go_wp2_with fail
            go_quiet (fail)
            go_wp2
            go_roundw
            case rel => exact ⟨k + 1, m + 1, b3, C3, R ++ [x], true, by omega, by omega, (fun h => by first | (cases h; done) | omega), rfl, rfl, by go_num, h9, hS3.drawn _⟩
            case measure => simp [intOf]; omega
          | false =>
            rw [hsa] at hE
            have h9 := Lib.hid (hst.out.trans (show setStep x (R, false) y = (R ++ [x] ++ [y], true) by simp [setStep, hah, hsa]))
            clear hst hah hsa
            go_wp2_with fail
            have hdr : Below wr.heap.size wr wr.drew := (Below.refl _ wr).drew
            have hS9 : ∀ w', Below wr.heap.size wr w' → w'.cell? ⟨w.heap.size, 0, none⟩ = some (.int .i64 x.dev) ∧ w'.cell? ⟨w.heap.size, 1, none⟩ = some (.int .i64 x.inc) ∧ w'.cell? ⟨g, off + k * 3, none⟩ = some (.int .i64 y.dev) ∧ w'.cell? ⟨g, off + k * 3 + 1, none⟩ = some (.int .i64 y.inc) ∧ w'.cell? ⟨g, off + k * 3 + 2, none⟩ = some (.int .i64 y.seq) := fun w' h => ⟨(hS.below h).o1.cell 0 rfl, (hS.below h).o1.cell 1 rfl, hC _ (hS.below h).hB⟩
            go_region_held3 (fun w' => w'.cell? ⟨w.heap.size, 0, none⟩ = some (.int .i64 x.dev) ∧ w'.cell? ⟨w.heap.size, 1, none⟩ = some (.int .i64 x.inc) ∧ w'.cell? ⟨g, off + k * 3, none⟩ = some (.int .i64 y.dev) ∧ w'.cell? ⟨g, off + k * 3 + 1, none⟩ = some (.int .i64 y.inc) ∧ w'.cell? ⟨g, off + k * 3 + 2, none⟩ = some (.int .i64 y.seq))
              (first | exact hS9 _ hdr | exact hS9 _ (hdr.trans hx))
              (first | (go_at_call 52; (with_reducible refine (HA _).mono ?_); rintro e w2 ⟨rfl, hx⟩))
            have hS2 := hS.below (hdr.trans hx)
            clear hS9 hdr hx
            obtain ⟨q0, q1⟩ : _ ∧ _ := ⟨hS2.o1.cell 0 rfl, hS2.o1.cell 1 rfl⟩
            go_wp2_with (at_builtin; refine wpList_append_row1 encD_len (by decide) encD_one rfl (.tmp 29) (.tmp 33) 50 rfl 53 i0 (.agg #[.int .i64 0, .int .i64 0, .int .i64 0]) 24 Try.underlying50 hi hz0 hz1 hz2 rfl hS2.hZ rfl x rfl rfl (m + 1) rfl (by unfold maxLen; omega) (by omega) hS2.lt ?_; intro b3 C3 w3 hz3 hx3 hg3 hn3; have hS3 := hS2.grown hz3 hx3)
            have q0 := hS3.o1.cell 0 rfl; have q1 := hS3.o1.cell 1 rfl
            obtain ⟨e0, e1, e2⟩ := hC _ hS3.hB
            go_wp2_with fail
            go_quiet (fail)
            go_wp2_with (at_builtin; refine wpList_append_row1 encD_len (by decide) encD_one rfl (.tmp 42) (.tmp 47) 50 rfl 53 i0 (.agg #[.int .i64 0, .int .i64 0, .int .i64 0]) 24 Try.underlying50 hi hz0 hz1 hz2 rfl (hS3.drawn _).hZ rfl y rfl rfl (m + 1 + 1) rfl (by unfold maxLen; omega) (by omega) (hS3.drawn _).lt ?_; intro b6 C6 w6 hz6 hx6 hg6 hn6; have hS6 := (hS3.drawn _).grown hz6 hx6)
            go_roundw
            case rel => exact ⟨k + 1, m + 1 + 1, b6, C6, R ++ [x] ++ [y], true, by omega, by omega, (fun h => by first | (cases h; done) | omega), rfl, rfl, by go_num, h9, hS6⟩
            case measure => simp [intOf]; omega
    · obtain rfl : k = n := by omega
      have e0 : L.take k = L := List.take_of_length_le (by rw [Hn.out]; exact Nat.le_refl _)
      have hE := hs.out
      rw [e0] at hE
      cases u with
      | true =>
        have e : Hid (setV L x = R) := by unfold Hid setV; rw [hE]; rfl
        clear hs hE
        go_wp2
        go_ret
        exact ⟨b, C, by rw [e.out, hRl]; rfl, by rw [e.out, hRl]; exact hS.hZ.base (Nat.le_succ _), hS.hB⟩
      | false =>
        have e : Hid (setV L x = R ++ [x]) := by unfold Hid setV; rw [hE]; rfl
        have p0 := hS.o1.cell 0 rfl; have p1 := hS.o1.cell 1 rfl
        clear hs hE
        go_wp2_with (at_builtin; refine wpList_append_row1 encD_len (by decide) encD_one rfl (.tmp 51) (.tmp 55) 50 rfl 53 i0 (.agg #[.int .i64 0, .int .i64 0, .int .i64 0]) 24 Try.underlying50 hi hz0 hz1 hz2 rfl hS.hZ rfl x rfl rfl (m + 1) rfl (by unfold maxLen; omega) (by omega) hS.lt ?_; intro b3 C3 w3 hz3 hx3 hg3 hn3; have hS3 := hS.grown hz3 hx3)
        go_ret
        exact ⟨b3, C3, by rw [e.out, List.length_append, hRl]; rfl, by rw [e.out, List.length_append, hRl]; exact hS3.hZ.base (Nat.le_succ _), hS3.hB⟩
end Go.Proofs.Ytlggjijgilcloaa

/- Contracts of the reference of layer 17: raising, taking, having, holding against one another. -/
namespace Go.Proofs.Ytlggjijgilcloaa
open Go.RowKit
set_option linter.unusedVariables false

theorem set_fold_len (x : DotN) : ∀ (l o : List DotN) (u : Bool), (l.foldl (setStep x) (o, u)).1.length + (if (l.foldl (setStep x) (o, u)).2 = true then 0 else 1) ≤ o.length + l.length + (if u = true then 0 else 1)
  | [], o, u => by show o.length + _ ≤ o.length + 0 + _; exact Nat.le_refl _
  | y :: t, o, u => by
    rw [List.foldl_cons]
    cases h : setStep x (o, u) y with
    | mk o2 u2 =>
      have ih := set_fold_len x t o2 u2
      have h2 : o2.length + (if u2 = true then 0 else 1) ≤ o.length + 1 + (if u = true then 0 else 1) := by
        unfold setStep at h
        cases u <;> cases hy : aheadD y x <;> cases hs : sameA y x <;> simp [hy, hs] at h <;> obtain ⟨rfl, rfl⟩ := h <;> simp
      rw [List.length_cons]
      omega
theorem set_len (l : List DotN) (x : DotN) : (setV l x).length ≤ l.length + 1 := by
  have h := set_fold_len x l [] false
  unfold setV
  split
  · rename_i c
    rw [if_pos c] at h
    simpa using h
  · rename_i c
    rw [if_neg c] at h
    simp at h ⊢
    omega

end Go.Proofs.Ytlggjijgilcloaa

/- Contracts of the reference of layer 17: the same marks; covering, joining, meeting. -/
namespace Go.Proofs.Ytlggjijgilcloaa
open Go.RowKit
set_option linter.unusedVariables false

set_option maxHeartbeats 1000000 in
set_option maxRecDepth 100000 in
theorem refSameMC (a b : Option Addr) (n m c1 c2 : Nat) (L M : List DotN) (w : World) (hL : RowOf encD 3 w a n c1 L) (hM : RowOf encD 3 w b m c2 M) :
    Calls Try.prog 30 #[.slice a n c1, .slice b m c2] w fun e w' => e = .returned (.bool (sameDs L M)) ∧ ∃ k, w' = w.drewN k := by
  have hn := hL.leq
  have hm := hM.leq
  by_cases hnm : n = m
  · subst hnm
    have hcm := hL.capm
    have hcl := hL.cle
    unfold maxLen at hcm
    have HL := Lib.hid hL
    have HM := Lib.hid hM
    have Hn := Lib.hid hn
    have Hm := Lib.hid hm
    clear hL hM hn hm
    go_enter Try.func30, Try.ntmps30
    go_wp2
    go_loopw [5] (fun i wr => ∃ k q : Nat, k ≤ n ∧ i = .int .i64 (k : Int) ∧ Hid (L.take k = M.take k) ∧ wr = w.drewN q) (fun i _ => n - (intOf i).toNat)
    case atStart => exact ⟨0, 0, Nat.zero_le _, rfl, rfl, rfl⟩
    case round =>
      obtain ⟨k, q, hk, rfl, hs, rfl⟩ := hrel
      by_cases hlt : k < n
      · have hlt' : (k : Int) < (n : Int) := by omega
        obtain ⟨x, g1, o1, hx, rfl, c0, c1, c2⟩ := dot_at HL.out k hlt
        obtain ⟨y, g2, o2, hy, rfl, d0, d1, d2⟩ := dot_at HM.out k hlt
        have hT : Hid (x = y → L.take (k + 1) = M.take (k + 1)) := fun e => by rw [take_snocI hx, take_snocI hy, hs.out, e]
        have hN : Hid (x ≠ y → sameDs L M = false) := fun e => by
          rw [Bool.eq_false_iff]
          intro c
          rw [sameDs_iff] at c
          subst c
          rw [hx] at hy
          exact e (by cases hy; rfl)
        have hE := eqMark x y
        clear hx hy
        by_cases hxy : x = y
        · have h3 := Lib.hid (hT.out hxy)
          rw [sameD_iff.2 hxy] at hE
          clear hT hN hs hxy
          go_wp2_with fail
          go_quiet (fail)
          go_wp2
          go_roundw
          case rel => exact ⟨k + 1, _, by omega, by go_num, h3, by first | rfl | simp⟩
          case measure => simp [intOf]; omega
        · have h2 := Lib.hid (hN.out hxy)
          rw [Bool.eq_false_iff.2 (fun c => hxy (sameD_iff.1 c))] at hE
          clear hT hN hs hxy
          go_wp2_with fail
          go_quiet (fail)
          go_wp2
          go_ret
          exact ⟨by rw [h2.out]; rfl, _, World.drewN_drewN _ _ _⟩
      · obtain rfl : k = n := by omega
        have e : Hid (sameDs L M = true) := by
          have h1 := hs.out
          rw [List.take_of_length_le (by rw [Hn.out]; exact Nat.le_refl _), List.take_of_length_le (by rw [Hm.out]; exact Nat.le_refl _)] at h1
          unfold Hid
          rw [sameDs_iff]
          exact h1
        go_wp2
        go_ret
        exact ⟨by rw [e.out]; rfl, q, rfl⟩
  · have h1 : sameDs L M = false := by
      rw [Bool.eq_false_iff]
      intro c
      rw [sameDs_iff] at c
      subst c
      exact hnm (hn.symm.trans hm)
    have h2 : ¬ (n : Int) = (m : Int) := by omega
    have h3 : ((n : Int) == (m : Int)) = false := beq_eq_false_iff_ne.2 h2
    rw [h1]
    clear hL hM hn hm
    go_enter Try.func30, Try.ntmps30
    go_wp2
    go_ret
    exact ⟨rfl, 0, rfl⟩

/-- A call's marks alone, that are read. -/
def GivesV1 (a0 : Option Addr) (L : List DotN) (n : Nat) (w : World) (e : Ending) (w' : World) : Prop :=
  ∃ a n' c, e = .returned (.slice a n' c) ∧ RowOf encD 3 w' a n' c L ∧ n' ≤ n ∧ (∀ k, At a k → At a0 k ∨ (w.heap.size ≤ k ∧ k < w'.heap.size)) ∧ Below w.heap.size w w'

end Go.Proofs.Ytlggjijgilcloaa

/- Contracts of the reference of layer 17: which marks may be; marks, packed. -/
namespace Go.Proofs.Ytlggjijgilcloaa
open Go.RowKit
set_option linter.unusedVariables false

end Go.Proofs.Ytlggjijgilcloaa

/- Contracts of the reference of layer 17: marks, packed. -/
namespace Go.Proofs.Ytlggjijgilcloaa
open Go.RowKit
set_option linter.unusedVariables false

/-- Bytes as a row of elements of one cell. -/
def encB (x : Int) : List Value := [.int .u8 x]
theorem encB_len (x : Int) : (encB x).length = 1 := rfl
theorem encB_one (x : Int) : ∀ u ∈ encB x, u.oneCell' = true := by
  intro u hu
  rw [encB, List.mem_singleton] at hu
  subst hu
  rfl
theorem flat_bytes (P : List Int) : flatC encB P = P.map (Value.int .u8) := by
  induction P with
  | nil => rfl
  | cons x t ih => rw [List.map_cons, ← ih]; rfl
theorem own_bytes {base : Nat} {e : TypeId} {a : Option Addr} {n c : Nat} {P : List Int} {w : World} (h : Owned base e a n c (P.map (Value.int .u8)) w) : OwnZ encB 1 base e a n c P w :=
  ⟨by rw [flat_bytes]; exact h.1, by have := h.len; rwa [List.length_map] at this, h.le, h.capm⟩
theorem bytes_own {base : Nat} {e : TypeId} {a : Option Addr} {n c : Nat} {P : List Int} {w : World} (h : OwnZ encB 1 base e a n c P w) : Owned base e a n c (P.map (Value.int .u8)) w := by
  have h1 := h.1
  rw [flat_bytes] at h1
  obtain ⟨a', c', e1, h2⟩ := owns_open h1
  cases e1
  exact ⟨h1, h2⟩

set_option maxHeartbeats 4000000 in
set_option maxRecDepth 100000 in
theorem refVPutC (a : Option Addr) (n c : Nat) (L : List DotN) (w : World) (hL : RowOf encD 3 w a n c L) (hR : ∀ x ∈ L, rightD x = true) (h9 : n ≤ 5000) :
    Calls Try.prog 41 #[.slice a n c] w (GivesOwned 5 ((packV L).map (Value.int .u8)) (packV L).length w) := by
  have hcm := hL.capm
  have hcl := hL.cle
  have hleq := hL.leq
  unfold maxLen at hcm
  obtain ⟨i0, hi, hz0, hz1, hz2⟩ := info_parts info8
  have HN := fun v => refNumC (short n) n (short n).length v rfl rfl (by omega)
  have hs10 := short_ten n (by omega)
  have HL := Lib.hid hL
  have Hn := Lib.hid hleq
  unfold packV
  rw [hleq]
  clear hL hleq
  obtain ⟨m0, hm0⟩ : ∃ m, (short n).length = m := ⟨_, rfl⟩
  rw [hm0] at HN hs10
  generalize short n = N at *
  have HM0 := Lib.hid hm0
  clear hm0
  unfold GivesOwned
  have hn64 : (n : Int) < 18446744073709551616 := by omega
  go_enter Try.func41, Try.ntmps41
  go_wp2_with (go_at_call 42; (with_reducible refine (HN _).mono ?_); rintro e w1 ⟨a1, c1, rfl, ho1, hb1⟩)
  go_loopw [3, 4] (fun l i wr => ∃ (k m c' : Nat) (q : Option Addr), k ≤ n ∧ m ≤ 10 + 30 * k ∧ i = .int .i64 (k : Int) ∧ l = .slice q m c' ∧ OwnZ encB 1 w.heap.size 5 q m c' (N ++ (L.take k).flatMap bytesD) wr ∧ Below w.heap.size w wr) (fun _ i _ => n - (intOf i).toNat)
  case atStart => exact ⟨0, m0, c1, a1, Nat.zero_le _, by omega, rfl, rfl, by rw [show (L.take 0).flatMap bytesD = [] from rfl, List.append_nil]; exact own_bytes ho1, hb1⟩
  case round =>
    clear ho1 hb1 HN
    obtain ⟨k, m, c', q, hk, hmk, rfl, rfl, hO, hb⟩ := hrel
    by_cases hlt : k < n
    · have hlt' : (k : Int) < (n : Int) := by omega
      have g1' : decide ((k : Int) < (n : Int)) = true := decide_eq_true hlt'
      have i1 : (0 : Int) ≤ (k : Int) := by omega
      obtain ⟨y, g, off, hy, rfl, d0, d1, d2⟩ := dot_at (HL.out.below hb) k hlt
      have hry := hR y (List.mem_of_getElem? hy)
      have hyl := bytesD_len hry
      have HP := fun v => refDPutC y _ v hry rfl
      obtain ⟨d, hd⟩ : ∃ d, (bytesD y).length = d := ⟨_, rfl⟩
      rw [hd] at HP hyl
      have hsn := packs_snoc hy
      have hS0 : ∀ w', Below w.heap.size w w' → w'.cell? ⟨g, off + k * 3, none⟩ = some (.int .i64 y.dev) ∧ w'.cell? ⟨g, off + k * 3 + 1, none⟩ = some (.int .i64 y.inc) ∧ w'.cell? ⟨g, off + k * 3 + 2, none⟩ = some (.int .i64 y.seq) := fun w' h => by
        obtain ⟨y', g', off', e1, e2, e3⟩ := dot_at (HL.out.below h) k hlt
        rw [hy] at e1
        cases e1
        cases e2
        exact e3
      have HSN := Lib.hid hsn
      generalize (L.take k).flatMap bytesD = B at *
      generalize bytesD y = yb at *
      clear hsn hy hry hd
      go_wp2_with fail
      have hOd := hO.below (B := wr.heap.size) (w' := wr.drew) ((Below.refl _ wr).drew) (Nat.le_refl _)
      have hBW := hb.drew
      refine wp_region_held_drew (S := fun w' => w'.cell? ⟨g, off + k * 3, none⟩ = some (.int .i64 y.dev) ∧ w'.cell? ⟨g, off + k * 3 + 1, none⟩ = some (.int .i64 y.inc) ∧ w'.cell? ⟨g, off + k * 3 + 2, none⟩ = some (.int .i64 y.seq)) (by kernel_rfl) (hS0 _ hBW) (fun hHeld => ?_)
      first
        | (refine wpAnyH_take (i := 0) rfl (by kernel_rfl) (by kernel_rfl) (by kernel_rfl) (fun _ _ _ h => h) (Or.inr ⟨by rfl, rfl⟩) (by assumption) ?_)
        | (refine wpAnyH_take (i := 0) (v := ?vp0) rfl (by kernel_rfl) (by kernel_rfl) (by kernel_rfl) (fun _ _ _ h => h) (Or.inl ⟨by rfl, ?hyp0⟩) (by assumption) ?rp0; case hyp0 => (rintro w' ⟨hs0, hs1, hs2⟩; go_simp; try with_reducible rfl))
      try simp only [List.getElem_toArray, List.getElem_cons_zero, Act.put, List.setIfInBounds_toArray, List.set_cons_zero, List.set_cons_succ]
      first
        | (refine wpAnyH_take (i := 1) rfl (by kernel_rfl) (by kernel_rfl) (by kernel_rfl) (fun _ _ _ h => h) (Or.inr ⟨by rfl, rfl⟩) (by assumption) ?_)
        | (refine wpAnyH_take (i := 1) (v := ?vp1) rfl (by kernel_rfl) (by kernel_rfl) (by kernel_rfl) (fun _ _ _ h => h) (Or.inl ⟨by rfl, ?hyp1⟩) (by assumption) ?rp1; case hyp1 => (rintro w' ⟨hs0, hs1, hs2⟩; go_simp; try with_reducible rfl))
      try simp only [List.getElem_toArray, List.getElem_cons_zero, List.getElem_cons_succ, Act.put, List.setIfInBounds_toArray, List.set_cons_zero, List.set_cons_succ]
      first
        | (refine wpAnyH_take (i := 2) rfl (by kernel_rfl) (by kernel_rfl) (by kernel_rfl) (fun _ _ _ h => h) (Or.inr ⟨by rfl, rfl⟩) (by assumption) ?_)
        | (refine wpAnyH_take (i := 2) (v := ?vp2) rfl (by kernel_rfl) (by kernel_rfl) (by kernel_rfl) (fun _ _ _ h => h) (Or.inl ⟨by rfl, ?hyp2⟩) (by assumption) ?rp2; case hyp2 => (rintro w' ⟨hs0, hs1, hs2⟩; go_simp; try with_reducible rfl))
      try simp only [List.getElem_toArray, List.getElem_cons_zero, List.getElem_cons_succ, Act.put, List.setIfInBounds_toArray, List.set_cons_zero, List.set_cons_succ]
      first
        | (refine wpAnyH_take (i := 3) rfl (by kernel_rfl) (by kernel_rfl) (by kernel_rfl) (fun _ _ _ h => h) (Or.inr ⟨by rfl, rfl⟩) (by assumption) ?_)
        | (refine wpAnyH_take (i := 3) (v := ?vp3) rfl (by kernel_rfl) (by kernel_rfl) (by kernel_rfl) (fun _ _ _ h => h) (Or.inl ⟨by rfl, ?hyp3⟩) (by assumption) ?rp3; case hyp3 => (rintro w' ⟨hs0, hs1, hs2⟩; go_simp; try with_reducible rfl))
      try simp only [List.getElem_toArray, List.getElem_cons_zero, List.getElem_cons_succ, Act.put, List.setIfInBounds_toArray, List.set_cons_zero, List.set_cons_succ]
      first
        | (refine wpAnyH_take (i := 4) rfl (by kernel_rfl) (by kernel_rfl) (by kernel_rfl) (fun _ _ _ h => h) (Or.inr ⟨by rfl, rfl⟩) (by assumption) ?_)
        | (refine wpAnyH_take (i := 4) (v := ?vp4) rfl (by kernel_rfl) (by kernel_rfl) (by kernel_rfl) (fun _ _ _ h => h) (Or.inl ⟨by rfl, ?hyp4⟩) (by assumption) ?rp4; case hyp4 => (rintro w' ⟨hs0, hs1, hs2⟩; go_simp; try with_reducible rfl))
      try simp only [List.getElem_toArray, List.getElem_cons_zero, List.getElem_cons_succ, Act.put, List.setIfInBounds_toArray, List.set_cons_zero, List.set_cons_succ]
      first
        | (refine wpAnyH_take (i := 5) rfl (by kernel_rfl) (by kernel_rfl) (by kernel_rfl) (fun _ _ _ h => h) (Or.inr ⟨by rfl, rfl⟩) (by assumption) ?_)
        | (refine wpAnyH_take (i := 5) (v := ?vp5) rfl (by kernel_rfl) (by kernel_rfl) (by kernel_rfl) (fun _ _ _ h => h) (Or.inl ⟨by rfl, ?hyp5⟩) (by assumption) ?rp5; case hyp5 => (rintro w' ⟨hs0, hs1, hs2⟩; go_simp; try with_reducible rfl))
      try simp only [List.getElem_toArray, List.getElem_cons_zero, List.getElem_cons_succ, Act.put, List.setIfInBounds_toArray, List.set_cons_zero, List.set_cons_succ]
      first
        | (refine wpAnyH_take (i := 6) rfl (by kernel_rfl) (by kernel_rfl) (by kernel_rfl) (fun _ _ _ h => h) (Or.inr ⟨by rfl, rfl⟩) (by assumption) ?_)
        | (refine wpAnyH_take (i := 6) (v := ?vp6) rfl (by kernel_rfl) (by kernel_rfl) (by kernel_rfl) (fun _ _ _ h => h) (Or.inl ⟨by rfl, ?hyp6⟩) (by assumption) ?rp6; case hyp6 => (rintro w' ⟨hs0, hs1, hs2⟩; go_simp; try with_reducible rfl))
      try simp only [List.getElem_toArray, List.getElem_cons_zero, List.getElem_cons_succ, Act.put, List.setIfInBounds_toArray, List.set_cons_zero, List.set_cons_succ]
      first
        | (refine wpAnyH_take (i := 7) rfl (by kernel_rfl) (by kernel_rfl) (by kernel_rfl) (fun _ _ _ h => h) (Or.inr ⟨by rfl, rfl⟩) (by assumption) ?_)
        | (refine wpAnyH_take (i := 7) (v := ?vp7) rfl (by kernel_rfl) (by kernel_rfl) (by kernel_rfl) (fun _ _ _ h => h) (Or.inl ⟨by rfl, ?hyp7⟩) (by assumption) ?rp7; case hyp7 => (rintro w' ⟨hs0, hs1, hs2⟩; go_simp; try with_reducible rfl))
      try simp only [List.getElem_toArray, List.getElem_cons_zero, List.getElem_cons_succ, Act.put, List.setIfInBounds_toArray, List.set_cons_zero, List.set_cons_succ]
      first
        | (refine wpAnyH_take (i := 8) rfl (by kernel_rfl) (by kernel_rfl) (by kernel_rfl) (fun _ _ _ h => h) (Or.inr ⟨by rfl, rfl⟩) (by assumption) ?_)
        | (refine wpAnyH_take (i := 8) (v := ?vp8) rfl (by kernel_rfl) (by kernel_rfl) (by kernel_rfl) (fun _ _ _ h => h) (Or.inl ⟨by rfl, ?hyp8⟩) (by assumption) ?rp8; case hyp8 => (rintro w' ⟨hs0, hs1, hs2⟩; go_simp; try with_reducible rfl))
      try simp only [List.getElem_toArray, List.getElem_cons_zero, List.getElem_cons_succ, Act.put, List.setIfInBounds_toArray, List.set_cons_zero, List.set_cons_succ]
      first
        | (refine wpAnyH_take (i := 9) rfl (by kernel_rfl) (by kernel_rfl) (by kernel_rfl) (fun _ _ _ h => h) (Or.inr ⟨by rfl, rfl⟩) (by assumption) ?_)
        | (refine wpAnyH_take (i := 9) (v := ?vp9) rfl (by kernel_rfl) (by kernel_rfl) (by kernel_rfl) (fun _ _ _ h => h) (Or.inl ⟨by rfl, ?hyp9⟩) (by assumption) ?rp9; case hyp9 => (rintro w' ⟨hs0, hs1, hs2⟩; go_simp; try with_reducible rfl))
      try simp only [List.getElem_toArray, List.getElem_cons_zero, List.getElem_cons_succ, Act.put, List.setIfInBounds_toArray, List.set_cons_zero, List.set_cons_succ]
      first
        | (refine wpAnyH_take (i := 10) rfl (by kernel_rfl) (by kernel_rfl) (by kernel_rfl) (fun _ _ _ h => h) (Or.inr ⟨by rfl, rfl⟩) (by assumption) ?_)
        | (refine wpAnyH_take (i := 10) (v := ?vp10) rfl (by kernel_rfl) (by kernel_rfl) (by kernel_rfl) (fun _ _ _ h => h) (Or.inl ⟨by rfl, ?hyp10⟩) (by assumption) ?rp10; case hyp10 => (rintro w' ⟨hs0, hs1, hs2⟩; go_simp; try with_reducible rfl))
      try simp only [List.getElem_toArray, List.getElem_cons_zero, List.getElem_cons_succ, Act.put, List.setIfInBounds_toArray, List.set_cons_zero, List.set_cons_succ]
      first
        | (refine wpAnyH_take (i := 11) rfl (by kernel_rfl) (by kernel_rfl) (by kernel_rfl) (fun _ _ _ h => h) (Or.inr ⟨by rfl, rfl⟩) (by assumption) ?_)
        | (refine wpAnyH_take (i := 11) (v := ?vp11) rfl (by kernel_rfl) (by kernel_rfl) (by kernel_rfl) (fun _ _ _ h => h) (Or.inl ⟨by rfl, ?hyp11⟩) (by assumption) ?rp11; case hyp11 => (rintro w' ⟨hs0, hs1, hs2⟩; go_simp; try with_reducible rfl))
      try simp only [List.getElem_toArray, List.getElem_cons_zero, List.getElem_cons_succ, Act.put, List.setIfInBounds_toArray, List.set_cons_zero, List.set_cons_succ]
      refine wpAnyH_ready (rs := [12]) (by kernel_rfl) (by simp) ?_
      refine AllReadyH.cons (o := _) rfl (fun K hK => ?_) AllReadyH.nil
      go_simp
      go_at_call 43; (with_reducible refine (HP _).mono ?_); rintro e w4 ⟨a4, c4, rfl, ho4, hx4⟩; have hO4 := hOd.below hx4 (Nat.le_refl _); have hr4 := (own_bytes ho4).row encB_len; have hBW := hBW.trans (hx4.mono hBW.size)
      dsimp only
      refine hK.out _ _ (hS0 _ hBW) (fun hHeld => ?_)
      clear hK K
      try simp only [List.getElem_toArray, List.getElem_cons_zero, List.getElem_cons_succ, Act.put, List.setIfInBounds_toArray, List.set_cons_zero, List.set_cons_succ]
      refine wpAnyH_ready (rs := [13]) (by kernel_rfl) (by simp) ?_
      refine AllReadyH.cons (o := _) rfl (fun K hK => ?_) AllReadyH.nil
      refine step_append_rows encB_len (by decide) encB_one (by rfl) (.tmp 15) (.tmp 27) 42 (by rfl) 5 i0 (.int .u8 0) 1 Try.underlying42 hi hz0 hz1 hz2 rfl hO4 rfl hr4 rfl (m + d) rfl (by unfold maxLen; omega) (by omega) hBW.size ?_; intro a5 c5 w5 hO5 hx5 hg5 hn5; have hBW := hBW.trans hx5
      refine hK.out _ _ (hS0 _ hBW) (fun hHeld => ?_)
      clear hK K
      try simp only [List.getElem_toArray, List.getElem_cons_zero, List.getElem_cons_succ, Act.put, List.setIfInBounds_toArray, List.set_cons_zero, List.set_cons_succ]
      first
        | (refine wpAnyH_take (i := 14) rfl (by kernel_rfl) (by kernel_rfl) (by kernel_rfl) (fun _ _ _ h => h) (Or.inr ⟨by rfl, rfl⟩) (by assumption) ?_)
        | (refine wpAnyH_take (i := 14) (v := ?vp14) rfl (by kernel_rfl) (by kernel_rfl) (by kernel_rfl) (fun _ _ _ h => h) (Or.inl ⟨by rfl, ?hyp14⟩) (by assumption) ?rp14; case hyp14 => (rintro w' ⟨hs0, hs1, hs2⟩; go_simp; try with_reducible rfl))
      try simp only [List.getElem_toArray, List.getElem_cons_zero, List.getElem_cons_succ, Act.put, List.setIfInBounds_toArray, List.set_cons_zero, List.set_cons_succ]
      refine wpAnyH_done (by kernel_rfl) ?_ _
      go_wp2
      go_roundw
      case rel => exact ⟨k + 1, m + d, c5, a5, by omega, by omega, by go_num, rfl, by rw [HSN.out, ← List.append_assoc]; exact hO5, hBW⟩
      case measure => simp [intOf]; omega
    · obtain rfl : k = n := by omega
      have e0 : L.take k = L := List.take_of_length_le (by rw [Hn.out]; exact Nat.le_refl _)
      rw [e0] at hO
      have hlen := hO.2.1
      have HLE := Lib.hid hlen
      have hOb := bytes_own hO
      clear hlen hO e0
      go_wp2
      go_ret
      exact ⟨q, c', by rw [HLE.out]; rfl, by rw [HLE.out]; exact hOb, hb⟩
end Go.Proofs.Ytlggjijgilcloaa

/- Actors as keys of maps. -/
namespace Go.Proofs.Ytlggjijgilcloaa
open Go.RowKit Go.WideMaps
set_option linter.unusedVariables false

theorem laidOutA : laidOutB Try.prog = true := by kernel_rfl
theorem lawActor : KeyLaw Try.prog 24 := deep_law_laid laidOutA (m := 4) (by omega) (of_decide_eq_true (by kernel_rfl)) (by kernel_rfl) (by kernel_rfl)
theorem keyedActor : Go.Maps.Keyed Try.prog 24 := Go.Maps.Keyed.of_law lawActor

/-- What an actor reads as, as a key. -/
def keyA (d i : Int) : Lit := .string (keyBytes [.int .i64 d, .int .i64 i])
theorem is64_wf {n : Int} : is64 n ↔ (Lit.int .i64 n).wf = true := by
  show (IntKind.i64.min ≤ n ∧ n ≤ IntKind.i64.max) ↔ _
  simp only [Lit.wf, Bool.and_eq_true, decide_eq_true_eq]

set_option maxRecDepth 100000 in
theorem key_actor {d i : Int} (hd : is64 d) (hi : is64 i) : keyOf Try.prog 24 (.agg #[.int .i64 d, .int .i64 i]) = some (keyA d i) := by
  have w1 := is64_wf.1 hd
  have w2 := is64_wf.1 hi
  have hk : Try.prog.keyType 24 = true := by kernel_rfl
  obtain ⟨m, hm⟩ : ∃ m, Try.prog.types.size = m + 1 := ⟨Try.prog.types.size - 1, by kernel_rfl⟩
  have hc2 : Try.prog.cellsOf 24 = 2 := by kernel_rfl
  have hc3 : Try.prog.cellsOf 3 = 1 := by kernel_rfl
  have hf : (Value.agg #[.int .i64 d, .int .i64 i]).formed Try.prog 24 = true := by simp [Value.formed, Try.underlying24, hc2]
  have hl : Try.prog.keyLits (Try.prog.types.size + 1) 24 [.int .i64 d, .int .i64 i] = some [.int .i64 d, .int .i64 i] := by
    rw [hm]
    simp [Program.keyLits, Try.underlying24, Try.underlying3, hc2, hc3, w1, w2]
  unfold keyOf
  rw [Try.underlying24]
  simp only [hk, hf]
  show Option.map _ (Try.prog.keyLits _ _ [.int .i64 d, .int .i64 i]) = _
  rw [hl]
  rfl

theorem keyA_inj {d i e j : Int} (hd : is64 d) (hi : is64 i) (he : is64 e) (hj : is64 j) (h : keyA d i = keyA e j) : d = e ∧ i = j := by
  have e := keyedActor.inj (key_actor hd hi) (h ▸ key_actor he hj)
  simpa only [Value.agg.injEq, Array.mk.injEq, List.cons.injEq, Value.int.injEq, true_and, and_true] using e

set_option maxRecDepth 100000 in
/-- What reads as an actor's key is an actor. -/
theorem key_actor_inv {key : Value} {kl : Lit} (h : keyOf Try.prog 24 key = some kl) : ∃ d i, is64 d ∧ is64 i ∧ key = .agg #[.int .i64 d, .int .i64 i] ∧ kl = keyA d i := by
  obtain ⟨m, hm⟩ : ∃ m, Try.prog.types.size = m + 1 := ⟨Try.prog.types.size - 1, by kernel_rfl⟩
  have hc2 : Try.prog.cellsOf 24 = 2 := by kernel_rfl
  have hc3 : Try.prog.cellsOf 3 = 1 := by kernel_rfl
  have h0 := h
  unfold keyOf at h
  rw [Try.underlying24] at h
  dsimp only at h
  split at h
  case isFalse => cases h
  case isTrue hh =>
    rw [Bool.and_eq_true] at hh
    have hf := hh.2
    cases key
    case agg cs =>
      obtain ⟨l⟩ := cs
      have hs : l.length = 2 := by simpa [Value.formed, Try.underlying24, hc2] using hf
      match l, hs with
      | [x, y], _ =>
        cases hl : Try.prog.keyLits (Try.prog.types.size + 1) 24 (Value.agg #[x, y]).cells.toList with
        | none => rw [hl] at h; cases h
        | some ls =>
          rw [hm] at hl
          have hxy : ∃ d i, is64 d ∧ is64 i ∧ x = .int .i64 d ∧ y = .int .i64 i := by
            simp only [is64_wf]
            clear h h0 hh hf
            cases x with
            | int q1 n1 =>
              by_cases a1 : q1 = .i64 ∧ (Lit.int .i64 n1).wf = true
              · cases y with
                | int q2 n2 =>
                  by_cases a2 : q2 = .i64 ∧ (Lit.int .i64 n2).wf = true
                  · exact ⟨n1, n2, a1.2, a2.2, by rw [a1.1], by rw [a2.1]⟩
                  · exfalso; simp [Program.keyLits, Value.cells, Try.underlying24, Try.underlying3, hc2, hc3, a1, a2] at hl
                | _ => exfalso; simp [Program.keyLits, Value.cells, Try.underlying24, Try.underlying3, hc2, hc3, a1] at hl
              · exfalso; simp [Program.keyLits, Value.cells, Try.underlying24, Try.underlying3, hc2, hc3, a1] at hl
            | _ => exfalso; simp [Program.keyLits, Value.cells, Try.underlying24, Try.underlying3, hc2, hc3] at hl
          obtain ⟨d, i, hd, hi, rfl, rfl⟩ := hxy
          refine ⟨d, i, hd, hi, rfl, ?_⟩
          rw [key_actor hd hi] at h0
          exact (Option.some.inj h0).symm
    all_goals simp [Value.formed, Try.underlying24] at hf
end Go.Proofs.Ytlggjijgilcloaa

/- Vectors in plain words: in whatever order numbers are raised; how many marks there may be. No program in it. -/
namespace Go.Proofs.Ytlggjijgilcloaa
open Go.RowKit
set_option linter.unusedVariables false

theorem ahead_irrefl (x : DotN) : aheadD x x = false := by rw [aheadD_no]; omega
theorem OrdV.nodup {l : List DotN} (h : OrdV l) : l.Nodup := List.Pairwise.imp (fun {x y} hxy e => by subst e; rw [ahead_irrefl] at hxy; cases hxy) h

/-- How many marks there may be. -/
theorem ordV_most : ∀ (l : List DotN) (lo : Int), OrdV l → (∀ x ∈ l, rightD x = true) → (∀ x ∈ l, lo ≤ x.dev * 1048576 + x.inc - 1) → lo ≤ 67108864 → lo + (l.length : Int) ≤ 67108864
  | [], lo, _, _, _, h => by simpa using h
  | x :: t, lo, ho, hr, hl, h => by
    obtain ⟨h1, h2⟩ := List.pairwise_cons.1 ho
    have hx := right_range (hr x (List.mem_cons_self ..))
    have hlx := hl x (List.mem_cons_self ..)
    have := ordV_most t (x.dev * 1048576 + x.inc) h2 (fun y hy => hr y (List.mem_cons_of_mem _ hy)) (fun y hy => by
      have a := h1 y hy
      have hy := right_range (hr y (List.mem_cons_of_mem _ hy))
      rw [aheadD_iff] at a
      omega) (by omega)
    rw [List.length_cons]
    omega
theorem OkV.most {l : List DotN} (h : OkV l) : l.length ≤ 67108864 := by
  have := ordV_most l 0 h.ord h.right (fun x hx => by have := right_range (h.right x hx); omega) (by omega)
  omega

theorem set_count {l : List DotN} (h : OkV l) (x : DotN) : l.length + (if getV l x.dev x.inc = 0 then 1 else 0) ≤ (setV l x).length := by
  rw [set_is h.ord]
  have key : ∀ (l : List DotN), OkV l → l.length + (if getV l x.dev x.inc = 0 then 1 else 0) ≤ (l.filter (fun y => aheadD y x)).length + (l.filter (fun y => aheadD x y)).length + 1 := by
    intro l
    induction l with
    | nil => intro _; simp [getV]
    | cons y t ih =>
      intro h
      obtain ⟨h1, h2⟩ := List.pairwise_cons.1 h.ord
      have hy := right_range (h.right y (List.mem_cons_self ..))
      have := ih ⟨h2, fun z hz => h.right z (List.mem_cons_of_mem _ hz)⟩
      unfold getV
      by_cases c : y.dev = x.dev ∧ y.inc = x.inc
      · have e : getV t x.dev x.inc = 0 := getV_none fun z hz c2 => by
          have := h1 z hz
          rw [aheadD_iff] at this
          omega
        have a1 : aheadD y x = false := by rw [aheadD_no]; omega
        have a2 : aheadD x y = false := by rw [aheadD_no]; omega
        rw [if_pos c, if_neg (by omega), List.filter_cons_of_neg (by simp [a1]), List.filter_cons_of_neg (by simp [a2]), List.length_cons]
        rw [e, if_pos rfl] at this
        omega
      · rw [if_neg c, List.length_cons]
        by_cases a1 : aheadD y x = true
        · have e1 : (y :: t).filter (fun y => aheadD y x) = y :: t.filter (fun y => aheadD y x) := List.filter_cons_of_pos a1
          have : (t.filter (fun y => aheadD x y)).length ≤ ((y :: t).filter (fun y => aheadD x y)).length := by
            rw [List.filter_cons]; split
            · exact Nat.le_succ _
            · exact Nat.le_refl _
          rw [e1, List.length_cons]
          omega
        · have a2 : aheadD x y = true := by
            rw [Bool.not_eq_true, aheadD_no] at a1
            rw [aheadD_iff]
            omega
          have e1 : (y :: t).filter (fun y => aheadD y x) = t.filter (fun y => aheadD y x) := List.filter_cons_of_neg (by simpa using a1)
          have e2 : (y :: t).filter (fun y => aheadD x y) = y :: t.filter (fun y => aheadD x y) := List.filter_cons_of_pos a2
          rw [e1, e2, List.length_cons]
          omega
  have := key l h
  rw [List.length_append, List.length_cons]
  omega

/-- What is joined, number by number: in whatever order. -/
theorem join_le {l R : List DotN} : OkV l → OkV (joinV l R) ∧ ∀ n d i, n ≤ getV (joinV l R) d i ↔ n ≤ getV l d i ∨ ∃ x ∈ R, rightD x = true ∧ x.dev = d ∧ x.inc = i ∧ n ≤ x.seq := by
  induction R generalizing l with
  | nil => exact fun h => ⟨h, fun n d i => by simp [joinV]⟩
  | cons y t ih =>
    intro h
    obtain ⟨h1, h2⟩ := ih (raise_ok h y)
    have e : joinV l (y :: t) = joinV (raiseV l y).1 t := rfl
    rw [e]
    refine ⟨h1, fun n d i => ?_⟩
    rw [h2]
    have hr : n ≤ getV (raiseV l y).1 d i ↔ n ≤ getV l d i ∨ (rightD y = true ∧ y.dev = d ∧ y.inc = i ∧ n ≤ y.seq) := by
      by_cases c : rightD y = true
      · rw [getV_raise h c]
        split
        · rename_i q
          simp only [c, q.1, q.2, true_and]
          omega
        · rename_i q
          constructor
          · exact .inl
          · rintro (a | ⟨_, b1, b2, _⟩)
            · exact a
            · exact absurd ⟨b1, b2⟩ q
      · have e2 : raiseV l y = (l, false) := by unfold raiseV; rw [if_neg (fun c2 => c c2.1)]
        rw [e2]
        simp [c]
    rw [hr]
    constructor
    · rintro ((a | a) | ⟨x, hx, a⟩)
      · exact .inl a
      · exact .inr ⟨y, List.mem_cons_self .., a⟩
      · exact .inr ⟨x, List.mem_cons_of_mem _ hx, a⟩
    · rintro (a | ⟨x, hx, a⟩)
      · exact .inl (.inl a)
      · rcases List.mem_cons.1 hx with rfl | hx
        · exact .inl (.inr a)
        · exact .inr ⟨x, hx, a⟩
theorem join_any {l R m : List DotN} (h : OkV l) (hp : ∀ x, x ∈ R ↔ x ∈ m) : joinV l R = joinV l m := by
  obtain ⟨h1, h2⟩ := join_le (R := R) h
  obtain ⟨h3, h4⟩ := join_le (R := m) h
  refine okV_ext h1 h3 fun d i => ?_
  have key : ∀ n, n ≤ getV (joinV l R) d i ↔ n ≤ getV (joinV l m) d i := fun n => by rw [h2, h4]; simp only [hp]
  have a := (key _).1 (Int.le_refl _)
  have b := (key _).2 (Int.le_refl _)
  omega
theorem join_nil {l : List DotN} (h : OkV l) : joinV [] l = l := by
  obtain ⟨h1, h2⟩ := join_all nil_ok h
  refine okV_ext h1 h fun d i => ?_
  rw [h2]
  have := getV_range h d i
  show max 0 _ = _
  omega
theorem joinV_snoc (l R : List DotN) (x : DotN) : joinV l (R ++ [x]) = (raiseV (joinV l R) x).1 := by unfold joinV; rw [List.foldl_append]; rfl

end Go.Proofs.Ytlggjijgilcloaa

/- A vector's numbers in a map: what it holds, and what a round over it has met. -/
namespace Go.Proofs.Ytlggjijgilcloaa
open Go.RowKit
set_option linter.unusedVariables false

/-- A map that holds the numbers of l, and nothing else. -/
structure VecD (D : DataW Unit) (l : List DotN) : Prop where
  size : Go.Maps.size D ≤ l.length
  num : ∀ d i, is64 d → is64 i → NumAt D (keyA d i) (getV l d i)
  has : ∀ d i, is64 d → is64 i → Go.Maps.has D (keyA d i) = !(getV l d i == 0)
theorem VecD.empty : VecD (.map []) [] := ⟨Nat.le_refl _, fun _ _ _ _ => NumAt.empty _, fun _ _ _ _ => rfl⟩

theorem right_fit {x : DotN} (h : rightD x = true) : is64 x.dev ∧ is64 x.inc := by
  have := right_range h
  unfold is64
  omega

theorem VecD.put {D : DataW Unit} {l : List DotN} (h : VecD D l) (hD : Go.Maps.Tidy D) (hl : OkV l) {x : DotN} (hx : rightD x = true) : VecD (D.put (keyA x.dev x.inc) (.lit (.int .i64 x.seq))) (setV l x) := by
  obtain ⟨f1, f2⟩ := right_fit hx
  have hk := keyedActor.key (key_actor f1 f2)
  have hr := right_range hx
  refine ⟨?_, fun d i hd hi => ?_, fun d i hd hi => ?_⟩
  · rw [Go.Maps.size_put hD]
    have h1 := set_count hl x
    have h2 := h.size
    have h3 := h.has x.dev x.inc f1 f2
    by_cases c : getV l x.dev x.inc = 0
    · rw [if_pos c] at h1
      split <;> omega
    · have e : (getV l x.dev x.inc == 0) = false := by simpa using c
      rw [e] at h3
      rw [if_pos (by rw [h3]; rfl)]
      rw [if_neg c] at h1
      omega
  · rw [getV_set hl.ord]
    by_cases c : x.dev = d ∧ x.inc = i
    · obtain ⟨rfl, rfl⟩ := c
      rw [if_pos ⟨rfl, rfl⟩]
      exact NumAt.put hD.isMap hk _
    · rw [if_neg c]
      exact (h.num d i hd hi).other (fun e => c (keyA_inj f1 f2 hd hi e.symm)) _
  · rw [getV_set hl.ord]
    by_cases c : x.dev = d ∧ x.inc = i
    · obtain ⟨rfl, rfl⟩ := c
      rw [if_pos ⟨rfl, rfl⟩, Go.Maps.has_put_same hD.isMap hk]
      have : (x.seq == 0) = false := by
        rw [beq_eq_false_iff_ne]
        omega
      rw [this]
      rfl
    · rw [if_neg c, Go.Maps.has_put_other (fun e => c (keyA_inj f1 f2 hd hi e.symm))]
      exact h.has d i hd hi

/-- What a round over the map has met: marks of l, each once; what is left is still to come. -/
structure MetV (l : List DotN) (left : Lit → Bool) (R : List DotN) : Prop where
  nodup : R.Nodup
  mem : ∀ x, x ∈ R ↔ x ∈ l ∧ left (keyA x.dev x.inc) = false

theorem MetV.start {D : DataW Unit} {l : List DotN} (h : VecD D l) (hl : OkV l) : MetV l (Go.Maps.has D) [] := by
  refine ⟨List.nodup_nil, fun x => Iff.intro (fun c => absurd c List.not_mem_nil) (fun c => ?_)⟩
  obtain ⟨c1, c2⟩ := c
  have hr := right_range (hl.right x c1)
  obtain ⟨f1, f2⟩ := right_fit (hl.right x c1)
  rw [h.has _ _ f1 f2, getV_mem hl.ord c1] at c2
  simp only [Bool.not_eq_false', beq_iff_eq] at c2
  omega

theorem MetV.step {D : DataW Unit} {l R : List DotN} {left : Lit → Bool} (h : MetV l left R) (hD : VecD D l) (hl : OkV l) {d i c : Int} (hd : is64 d) (hi : is64 i) (hlk : left (keyA d i) = true) (hat : ∀ zd, D.atKey (keyA d i) zd = .lit (.int .i64 c)) :
    (⟨d, i, c⟩ : DotN) ∈ l ∧ MetV l (fun z => left z && !z.sameKey (keyA d i)) (R ++ [⟨d, i, c⟩]) := by
  have hc : c = getV l d i := (show NumAt D (keyA d i) c from hat _).one (hD.num d i hd hi)
  have hh := Go.Maps.has_true_of_atKey hat
  rw [hD.has d i hd hi] at hh
  have hne : getV l d i ≠ 0 := by simpa using hh
  obtain ⟨y, hy, rfl, rfl, e⟩ := getV_some hne
  have ey : (⟨y.dev, y.inc, c⟩ : DotN) = y := DotN.ext' rfl rfl (by show c = y.seq; omega)
  rw [ey]
  refine ⟨hy, List.nodup_append.2 ⟨h.nodup, by simp, fun a ha b hb => ?_⟩, fun x => ?_⟩
  · rw [List.mem_singleton] at hb
    subst hb
    rintro rfl
    have := ((h.mem a).1 ha).2
    rw [hlk] at this
    cases this
  · rw [List.mem_append, h.mem, List.mem_singleton]
    have hk := keyedActor.key (key_actor hd hi)
    constructor
    · rintro (⟨a, b⟩ | rfl)
      · exact ⟨a, by rw [b]; rfl⟩
      · refine ⟨hy, ?_⟩
        rw [WideAt.sameKey_self hk]
        simp
    · rintro ⟨a, b⟩
      by_cases q : x = y
      · exact .inr q
      · refine .inl ⟨a, ?_⟩
        obtain ⟨f1, f2⟩ := right_fit (hl.right x a)
        have hq : keyA x.dev x.inc ≠ keyA y.dev y.inc := fun e2 => by
          obtain ⟨e3, e4⟩ := keyA_inj f1 f2 hd hi e2
          have g1 := getV_mem hl.ord a
          have g2 := getV_mem hl.ord hy
          rw [e3, e4, g2] at g1
          exact q (DotN.ext' e3 e4 g1.symm)
        rw [Go.Maps.sameKey_ne hq] at b
        simpa using b
theorem MetV.all {l R : List DotN} {left : Lit → Bool} (h : MetV l left R) (h0 : ∀ kl, left kl = false) : ∀ x, x ∈ R ↔ x ∈ l := fun x => by rw [h.mem, h0]; simp
theorem MetV.perm {l R : List DotN} {left : Lit → Bool} (h : MetV l left R) (hl : OkV l) (h0 : ∀ kl, left kl = false) : R.Perm l := (List.perm_ext_iff_of_nodup h.nodup hl.ord.nodup).2 (h.all h0)

/-- A round under way stays while other blocks are written. -/
theorem Keeps.ranges {F : Nat → Prop} {w w' : World} (h : Keeps F w w') {b r : Nat} (hb : ¬ F b) (hr : ¬ F r) : ∀ {H : Type} {P : Program} {k : TypeId} {R : Value → Option (DataW H × List MemPlace)} {n : Nat} {D : DataW H} {left : Lit → Bool} {cnt : Nat}, w.ranges P k R b r n D left cnt → w'.ranges P k R b r n D left cnt := by
  intro H P k R n D left cnt hm
  obtain ⟨es, clock, since, seen, c0, h1, h2, h3, h4, h5, h6⟩ := hm
  exact ⟨es, clock, since, seen, c0, (h.block b (Array.getElem?_eq_some_iff.1 h1).1 hb).trans h1, h2, h3, h4, (h.block r (Array.getElem?_eq_some_iff.1 h5).1 hr).trans h5, h6⟩
/-- A round that is drawn on writes the iterator alone. -/
theorem grown_below_at {w w' : World} {r B : Nat} (h : w.grownBy w' (some r)) (hB : B ≤ r) (hw : B ≤ w.heap.size) : Below B w w' := (Keeps.ofGrownBy h).below hw fun k _ e => by cases e; exact hB

theorem elemA {v : Value} {y : DataW Unit × List MemPlace} (h : plainElem Try.prog 3 v = some y) : ∃ c, v = .int .i64 c ∧ y = (.lit (.int .i64 c), []) ∧ (Lit.int .i64 c).wf = true := plainElem_int_inv Try.underlying3 h

/-- The step of a round over a map of actors' numbers. -/
theorem wpList_next_actors {P : Program} (hP : P = Try.prog) {w : World} {ops : Array Oper} {rest : List Oper} {o : Oper} {a : Act} {Q : Exit → Act → World → Prop} (hg : o.guard = none) (it : Operand) (hop : o.op = Op.next it false) (b r n : Nat) (D : DataW Unit) (left : Lit → Bool) (cnt : Nat)
    (hit : a.eval it = .pointer (some ⟨r, 0, none⟩)) (h : w.ranges P 24 (plainElem P 3) b r n D left cnt)
    (hDone : cnt = 0 → (∀ kl, left kl = false) → wpList P ops Q rest (a.put o.dst (.tuple #[.bool false])) w)
    (hMore : ∀ (d i c : Int) (w' : World) (cnt' : Nat), is64 d → is64 i → left (keyA d i) = true → (∀ zd, D.atKey (keyA d i) zd = .lit (.int .i64 c)) → w'.ranges P 24 (plainElem P 3) b r n D (fun z => left z && !z.sameKey (keyA d i)) cnt' → cnt' < cnt →
      w.grownBy w' (some r) → w'.heap.size = w.heap.size → (Instr.entry (.pointer (some ⟨r, 0, none⟩))).run P w' = .ok (.tuple #[.agg #[.int .i64 d, .int .i64 i], .int .i64 c]) w' → wpList P ops Q rest (a.put o.dst (.tuple #[.bool true, .agg #[.int .i64 d, .int .i64 i], .int .i64 c])) w') :
    wpList P ops Q (o :: rest) a w := by
  subst hP
  refine wpList_next_ranges (α := Int × Int) (β := Int) w hg it hop 24 keyedActor (plainElem Try.prog 3) (fun x => .agg #[.int .i64 x.1, .int .i64 x.2]) (Value.int .i64) (fun key kl hkey => ?_) (fun v y hv => ?_) b r n D left cnt hit h hDone (fun x c kl y w' cnt' hkey hlk hv hat hrg hlt hgr hsz hen => ?_)
  · obtain ⟨d, i, _, _, e, _⟩ := key_actor_inv hkey
    exact ⟨(d, i), e⟩
  · obtain ⟨c, e, _, _⟩ := elemA hv
    exact ⟨c, e⟩
  · obtain ⟨d, i, hd, hi, e, rfl⟩ := key_actor_inv hkey
    obtain ⟨c', e2, rfl, _⟩ := elemA hv
    simp only [Value.agg.injEq, Array.mk.injEq, List.cons.injEq, Value.int.injEq, true_and, and_true] at e
    cases e2
    obtain ⟨x1, x2⟩ := x
    obtain ⟨rfl, rfl⟩ := e
    exact hMore _ _ _ w' cnt' hd hi hlk hat hrg hlt hgr hsz hen

theorem zeroInt (w : World) : (zeroValue 3).run Try.prog w = .ok (.int .i64 0) w := by kernel_rfl
end Go.Proofs.Ytlggjijgilcloaa

/- A vector behind a pointer: what lies where; an actor's number. -/
namespace Go.Proofs.Ytlggjijgilcloaa
open Go.RowKit
set_option linter.unusedVariables false

/-- A vector's numbers: no map ahead of the first one; else a map of its own. -/
def NumsIs (w : World) (mv : Option Nat) (F : Nat → Prop) (l : List DotN) : Prop :=
  (mv = none ∧ l = []) ∨ ∃ B n D, mv = some B ∧ F B ∧ w.ownsMap Try.prog 24 (plainElem Try.prog 3) B n D ∧ VecD D l
/-- What the program's vector is in memory: a block of one cell, which holds the map. -/
def VecIs (w : World) (p : Nat) (F : Nat → Prop) (l : List DotN) : Prop := ∃ mv, ObjAt w p [.map mv] ∧ NumsIs w mv F l ∧ mv ≠ some p
/-- A vector behind a pointer: its block, all blocks that are its own (F), and its marks. -/
structure VecAt (w : World) (p : Nat) (F : Nat → Prop) (l : List DotN) : Prop where
  own : F p
  lt : ∀ k, F k → k < w.heap.size
  ok : OkV l
  is : VecIs w p F l
theorem NumsIs.keeps {F G : Nat → Prop} {w w' : World} {mv : Option Nat} {l : List DotN} (h : NumsIs w mv F l) (hk : Keeps G w w') (hd : ∀ k, F k → ¬ G k) : NumsIs w' mv F l := by
  rcases h with h | ⟨B, n, D, rfl, hB, hm, hD⟩
  · exact .inl h
  · exact .inr ⟨B, n, D, rfl, hB, hk.grownBy (hd B hB) hm, hD⟩
theorem VecAt.keeps {G : Nat → Prop} {w w' : World} {p : Nat} {F : Nat → Prop} {l : List DotN} (h : VecAt w p F l) (hk : Keeps G w w') (hd : ∀ k, F k → ¬ G k) : VecAt w' p F l := by
  obtain ⟨h1, h2, h3, mv, h4, h5, h6⟩ := h
  exact ⟨h1, fun k hF => Nat.lt_of_lt_of_le (h2 k hF) hk.size, h3, mv, h4.keeps hk (hd p h1), h5.keeps hk hd, h6⟩

/-- A call that changes a vector: it holds l then, and all else stays. -/
def Raised (p : Nat) (F : Nat → Prop) (l : List DotN) (v : Value) (w : World) (e : Ending) (w' : World) : Prop :=
  e = .returned v ∧ ∃ F', VecAt w' p F' l ∧ Keeps F w w' ∧ ∀ k, F' k → F k ∨ w.heap.size ≤ k
/-- A call that makes a vector. -/
def MadeV (l : List DotN) (w : World) (e : Ending) (w' : World) : Prop :=
  ∃ p F, e = .returned (.pointer (some ⟨p, 0, none⟩)) ∧ VecAt w' p F l ∧ (∀ k, F k → w.heap.size ≤ k) ∧ Below w.heap.size w w'

/-- A vector that is handed in to be read, a nil one too. -/
structure ArgV (w : World) (v : Value) (mv : Option Nat) (F : Nat → Prop) (l : List DotN) : Prop where
  ptr : (v = .pointer none ∧ mv = none) ∨ ∃ p k vs, v = .pointer (some ⟨p, k, none⟩) ∧ F p ∧ ObjAt w p vs ∧ vs[k]? = some (.map mv)
  nums : NumsIs w mv F l
  ok : OkV l
  lt : ∀ k, F k → k < w.heap.size
theorem VecAt.arg {w : World} {p : Nat} {F : Nat → Prop} {l : List DotN} (h : VecAt w p F l) : ∃ mv, ArgV w (.pointer (some ⟨p, 0, none⟩)) mv F l := by
  obtain ⟨h1, h2, h3, mv, h4, h5, h6⟩ := h
  exact ⟨mv, .inr ⟨p, 0, _, rfl, h1, h4, rfl⟩, h5, h3, h2⟩
theorem nilArg (w : World) : ArgV w (.pointer none) none (fun _ => False) [] := ⟨.inl ⟨rfl, rfl⟩, .inl ⟨rfl, rfl⟩, nil_ok, fun _ h => h.elim⟩
theorem ArgV.keeps {F G : Nat → Prop} {w w' : World} {v : Value} {mv : Option Nat} {l : List DotN} (h : ArgV w v mv F l) (hk : Keeps G w w') (hd : ∀ k, F k → ¬ G k) : ArgV w' v mv F l := by
  obtain ⟨h1, h2, h3, h4⟩ := h
  refine ⟨?_, h2.keeps hk hd, h3, fun k hF => Nat.lt_of_lt_of_le (h4 k hF) hk.size⟩
  rcases h1 with h1 | ⟨p, k, vs, rfl, hp, ho, hv⟩
  · exact .inl h1
  · exact .inr ⟨p, k, vs, rfl, hp, ho.keeps hk (hd p hp), hv⟩
theorem ArgV.below {F : Nat → Prop} {w w' : World} {v : Value} {mv : Option Nat} {l : List DotN} (h : ArgV w v mv F l) (hb : Below w.heap.size w w') : ArgV w' v mv F l :=
  h.keeps (Keeps.new (F := fun _ => False) hb) fun _ _ h => h

/-- A vector's own numbers; those of a nil one are none. -/
theorem vAllC {v : Value} {mv : Option Nat} {F : Nat → Prop} {l : List DotN} {w : World} (h : ArgV w v mv F l) :
    Calls Try.prog 56 #[v] w fun e w' => e = .returned (.map mv) ∧ w = w' := by
  rcases h.ptr with ⟨rfl, rfl⟩ | ⟨p, k, vs, rfl, _, ho, hv⟩
  · go_enter Try.func56, Try.ntmps56
    go_wp2
    go_ret
    exact ⟨rfl, rfl⟩
  · have c0 := ho.cell k hv
    clear h ho hv
    go_enter Try.func56, Try.ntmps56
    go_wp2
    go_ret
    exact ⟨rfl, rfl⟩

/-- An actor's number. -/
theorem vGetA {v : Value} {mv : Option Nat} {F : Nat → Prop} {l : List DotN} {w : World} (h : ArgV w v mv F l) (d i : Int) (hd : is64 d) (hi : is64 i) :
    Calls Try.prog 50 #[v, .agg #[.int .i64 d, .int .i64 i]] w fun e w' => e = .returned (.int .i64 (getV l d i)) ∧ Below w.heap.size w w' := by
  have o1 := ObjAt.new w #[.int .i64 d, .int .i64 i] 24
  have hb := below_alloc w (.cells #[.int .i64 d, .int .i64 i] 24)
  have u0 := o1.cell 0 rfl; have u1 := o1.cell 1 rfl
  have h1 := h.below hb
  have hlk : ∀ ww : World, ww.heap = (w.alloc (.cells #[.int .i64 d, .int .i64 i] 24)).heap → (Instr.lookup 54 (.map mv) (.agg #[.int .i64 d, .int .i64 i]) false).run Try.prog ww = .ok (.int .i64 (getV l d i)) ww := fun ww he => by
    rcases h1.nums with ⟨rfl, rfl⟩ | ⟨B, n, D, rfl, hB, hm, hD⟩
    · exact Go.Maps.look_nil false keyedActor Try.underlying54 (zeroInt _) (key_actor hd hi)
    · have hm2 : ww.ownsMap Try.prog 24 (plainElem Try.prog 3) B n D := by
        unfold World.ownsMap at hm ⊢
        rw [he]
        exact hm
      obtain ⟨c, hrun, hat, _⟩ := hm2.lookup_int keyedActor Try.underlying54 Try.underlying3 (zeroInt _) (key_actor hd hi)
      rw [(show NumAt D (keyA d i) c from hat).one (hD.num d i hd hi)] at hrun
      exact hrun
  have HA := vAllC (h1.keeps (w' := (w.alloc (.cells #[.int .i64 d, .int .i64 i] 24)).drew) (Keeps.new (F := fun _ => False) (Below.refl _ _).drew) (fun _ _ h => h))
  have hl1 := hlk _ rfl
  have hl2 := hlk (w.alloc (.cells #[.int .i64 d, .int .i64 i] 24)).drew rfl
  clear hlk h h1 o1
  go_enter Try.func50, Try.ntmps50
  go_wp2_with fail
  go_region_law ((try go_simp); go_at_call 56; (refine HA.mono ?_); rintro e w1 ⟨rfl, rfl⟩)
  all_goals (
    go_wp2
    go_ret
    exact ⟨rfl, hb.drew⟩)

/-! A vector that is a field of a struct: the cell at k of the block p, whose other cells are anyone's. -/
theorem NumsIs.own {F : Nat → Prop} {w : World} {mv : Option Nat} {l : List DotN} (h : NumsIs w mv F l) : NumsIs w mv (fun b => mv = some b) l := by
  rcases h with h | ⟨B, n, D, rfl, hB, hm, hD⟩
  · exact .inl h
  · exact .inr ⟨B, n, D, rfl, rfl, hm, hD⟩
theorem NumsIs.mono {F G : Nat → Prop} {w : World} {mv : Option Nat} {l : List DotN} (h : NumsIs w mv F l) (hs : ∀ b, F b → G b) : NumsIs w mv G l := by
  rcases h with h | ⟨B, n, D, rfl, hB, hm, hD⟩
  · exact .inl h
  · exact .inr ⟨B, n, D, rfl, hs B hB, hm, hD⟩
theorem NumsIs.lt {F : Nat → Prop} {w : World} {mv : Option Nat} {l : List DotN} (h : NumsIs w mv F l) : ∀ b, mv = some b → b < w.heap.size := by
  intro b e
  rcases h with ⟨rfl, _⟩ | ⟨B, n, D, rfl, hB, hm, hD⟩
  · cases e
  · cases e
    exact hm.lt
theorem obj_not_map {w : World} {p B : Nat} {vs : List Value} (h : ObjAt w p vs) {H : Type} {P : Program} {k : TypeId} {R : Value → Option (DataW H × List MemPlace)} {n : Nat} {D : DataW H} (hm : w.ownsMap P k R B n D) : B ≠ p := by
  rintro rfl
  obtain ⟨e, h1⟩ := h.heap
  obtain ⟨es, clock, h2, _⟩ := hm
  rw [h1] at h2
  cases h2
structure VecIn (w : World) (p k : Nat) (vs : List Value) (mv : Option Nat) (l : List DotN) : Prop where
  obj : ObjAt w p vs
  here : vs[k]? = some (.map mv)
  nums : NumsIs w mv (fun b => mv = some b) l
  ok : OkV l
theorem VecIn.not_obj {w : World} {p k : Nat} {vs : List Value} {mv : Option Nat} {l : List DotN} (h : VecIn w p k vs mv l) : mv ≠ some p := by
  rintro rfl
  rcases h.nums with ⟨c, _⟩ | ⟨B, n, D, e, hB, hm, hD⟩
  · cases c
  · cases e
    exact obj_not_map h.obj hm rfl
theorem VecIn.keeps {G : Nat → Prop} {w w' : World} {p k : Nat} {vs : List Value} {mv : Option Nat} {l : List DotN} (h : VecIn w p k vs mv l) (hk : Keeps G w w') (hp : ¬ G p) (hd : ∀ b, mv = some b → ¬ G b) : VecIn w' p k vs mv l :=
  ⟨h.obj.keeps hk hp, h.here, h.nums.keeps hk hd, h.ok⟩
theorem VecIn.below {w w' : World} {p k : Nat} {vs : List Value} {mv : Option Nat} {l : List DotN} (h : VecIn w p k vs mv l) (hb : Below w.heap.size w w') : VecIn w' p k vs mv l :=
  h.keeps (Keeps.new (F := fun _ => False) hb) (fun h => h) (fun _ _ h => h)
theorem VecIn.lt {w : World} {p k : Nat} {vs : List Value} {mv : Option Nat} {l : List DotN} (h : VecIn w p k vs mv l) : ∀ b, b = p ∨ mv = some b → b < w.heap.size := by
  rintro b (rfl | e)
  · exact h.obj.lt
  · exact h.nums.lt b e
theorem VecIn.arg {w : World} {p k : Nat} {vs : List Value} {mv : Option Nat} {l : List DotN} (h : VecIn w p k vs mv l) : ArgV w (.pointer (some ⟨p, k, none⟩)) mv (fun b => b = p ∨ mv = some b) l :=
  ⟨.inr ⟨p, k, vs, rfl, .inl rfl, h.obj, h.here⟩, h.nums.mono fun _ e => .inr e, h.ok, h.lt⟩
theorem VecAt.inn {w : World} {p : Nat} {F : Nat → Prop} {l : List DotN} (h : VecAt w p F l) : ∃ mv, VecIn w p 0 [.map mv] mv l ∧ ∀ b, mv = some b → F b := by
  obtain ⟨h1, h2, h3, mv, h4, h5, h6⟩ := h
  refine ⟨mv, ⟨h4, rfl, h5.own, h3⟩, fun b e => ?_⟩
  rcases h5 with ⟨rfl, _⟩ | ⟨B, n, D, rfl, hB, hm, hD⟩
  · cases e
  · cases e
    exact hB
theorem VecIn.back {w : World} {p : Nat} {mv : Option Nat} {l : List DotN} (h : VecIn w p 0 [.map mv] mv l) {F : Nat → Prop} (hp : F p) (hm : ∀ b, mv = some b → F b) (hl : ∀ b, F b → b < w.heap.size) : VecAt w p F l :=
  ⟨hp, hl, h.ok, mv, h.obj, h.nums.mono hm, h.not_obj⟩
theorem set_as {α : Type} {l : List α} {k : Nat} {v : α} (h : l[k]? = some v) : l.set k v = l := by
  apply List.ext_getElem?
  intro i
  by_cases e : k = i
  · subst e
    rw [List.getElem?_set_self (List.getElem?_eq_some_iff.1 h).1, h]
  · rw [List.getElem?_set_ne e]
/-- A call that changes a vector in a struct. -/
def RaisedI (p k : Nat) (vs : List Value) (mv : Option Nat) (l : List DotN) (v : Value) (w : World) (e : Ending) (w' : World) : Prop :=
  e = .returned v ∧ ∃ mv', VecIn w' p k (vs.set k (.map mv')) mv' l ∧ Keeps (fun b => b = p ∨ mv = some b) w w' ∧ (mv' = mv ∨ ∃ B, mv' = some B ∧ w.heap.size ≤ B)
theorem RaisedI.same {p k : Nat} {vs : List Value} {mv : Option Nat} {l : List DotN} {v : Value} {w w' : World} (h : VecIn w p k vs mv l) (hb : Below w.heap.size w w') : RaisedI p k vs mv l v w (.returned v) w' :=
  ⟨rfl, mv, by rw [set_as h.here]; exact h.below hb, Keeps.new hb, .inl rfl⟩
theorem RaisedI.back {p : Nat} {F : Nat → Prop} {mv : Option Nat} {l : List DotN} {v : Value} {w w' : World} {e : Ending} (h : RaisedI p 0 [.map mv] mv l v w e w') (hp : F p) (hm : ∀ b, mv = some b → F b) (hl : ∀ b, F b → b < w.heap.size) : Raised p F l v w e w' := by
  obtain ⟨h1, mv', h2, h3, h4⟩ := h
  refine ⟨h1, fun b => F b ∨ mv' = some b, h2.back (.inl hp) (fun _ e => .inr e) (fun b hb => ?_), h3.mono fun b _ hb => ?_, fun b hb => ?_⟩
  · rcases hb with hb | hb
    · exact Nat.lt_of_lt_of_le (hl b hb) h3.size
    · exact h2.lt b (.inr hb)
  · rcases hb with rfl | hb
    · exact hp
    · exact hm b hb
  · rcases hb with hb | hb
    · exact .inl hb
    · rcases h4 with rfl | ⟨B, rfl, hB⟩
      · exact .inl (hm b hb)
      · cases hb
        exact .inr hB
end Go.Proofs.Ytlggjijgilcloaa

/- A number raised in a vector. -/
namespace Go.Proofs.Ytlggjijgilcloaa
open Go.RowKit
set_option linter.unusedVariables false

theorem ownsMap_tight {H : Type} {P : Program} {k : TypeId} {R : Value → Option (DataW H × List MemPlace)} {w : World} {b n : Nat} {D : DataW H} (h : w.ownsMap P k R b n D) : w.ownsMap P k R b (Go.Maps.size D) D := by
  obtain ⟨es, clock, hb, F, hs, rfl⟩ := h
  exact ⟨es, clock, hb, F, Nat.le_of_eq (by rw [Go.Maps.size_eq, length_read]), rfl⟩

set_option maxRecDepth 100000 in
theorem vRaiseI (p k : Nat) (vs : List Value) (mv : Option Nat) (l : List DotN) (x : DotN) (w : World) (h : VecIn w p k vs mv l) (hx : FitD x) :
    Calls Try.prog 51 #[.pointer (some ⟨p, k, none⟩), .agg #[.int .i64 x.dev, .int .i64 x.inc], .int .i64 x.seq] w (RaisedI p k vs mv (raiseV l x).1 (.bool (raiseV l x).2) w) := by
  have ha := h.arg
  have hE := fun v ww (hb : Below w.heap.size w ww) => RaisedI.same (v := v) h hb
  have h6 := h.not_obj
  obtain ⟨h4, hk, h5, h3⟩ := h
  have hk9 := (List.getElem?_eq_some_iff.1 hk).1
  have hput := fun D (hD : VecD D l) hT (hr : rightD x = true) => hD.put hT h3 hr
  have hok := fun (hr : rightD x = true) => set_ok h3 hr
  have hmost := h3.most
  have hwf := is64_wf.1 hx.seq
  have hpl := h4.lt
  obtain ⟨dev, inc, seq⟩ := x
  obtain ⟨f1, f2, f3⟩ := hx
  dsimp only at *
  have hkey := key_actor f1 f2
  have o1 := ObjAt.new w #[.int .i64 dev, .int .i64 inc] 24
  have hb := below_alloc w (.cells #[.int .i64 dev, .int .i64 inc] 24)
  have u0 := o1.cell 0 rfl; have u1 := o1.cell 1 rfl
  have HR := fun v => dotRightC0 ⟨dev, inc, seq⟩ v
  have HG := fun v (hv : ArgV v (.pointer (some ⟨p, k, none⟩)) mv (fun b => b = p ∨ mv = some b) l) => vGetA hv dev inc f1 f2
  have ha1 := ha.below hb
  have q1 := h4.below hb hpl
  clear ha h4 f1 f2 f3
  unfold raiseV
  dsimp only
  cases hr : rightD ⟨dev, inc, seq⟩ with
  | false =>
    rw [hr] at HR
    rw [if_neg (fun c => absurd c.1 Bool.false_ne_true)]
    clear hr hput hok
    go_enter Try.func51, Try.ntmps51
    go_wp2_with (go_at_call 27; (with_reducible refine (HR _).mono ?_); rintro e w1 ⟨rfl, hx⟩; have hb := hb.trans (hx.mono hb.size))
    go_ret
    exact hE _ _ hb
  | true =>
    rw [hr] at HR
    have hput := fun D hD hT => hput D hD hT hr
    have hok := hok hr
    by_cases hc : getV l dev inc < seq
    · rw [if_pos ⟨rfl, hc⟩]
      have d1 : decide (seq ≤ getV l dev inc) = false := decide_eq_false (by omega)
      generalize setV l ⟨dev, inc, seq⟩ = l2 at *
      generalize getV l dev inc = G at *
      clear hc hr hE
      rcases h5 with ⟨rfl, rfl⟩ | ⟨B, n, D, rfl, hB, hm, hD⟩
      · have hmm := @run_makeMap Try.prog
        have kn := fun w r => Go.run_eql_map_nil (P := Try.prog) w 54 24 3 r Try.underlying54
        go_enter Try.func51, Try.ntmps51
        go_wp2_with (first
          | (go_at_call 27; (with_reducible refine (HR _).mono ?_); rintro e w2 ⟨rfl, hx⟩; have o2 := o1.below hx o1.lt; have ha2 := ha1.below hx; have q2 := q1.below hx q1.lt; have v0 := o2.cell 0 rfl; have v1 := o2.cell 1 rfl; have hb := hb.trans (hx.mono hb.size); clear hx)
          | (go_at_call 50; (with_reducible refine (HG _ ha2).mono ?_); rintro e w3 ⟨rfl, hx⟩; have o3 := o2.below hx o2.lt; have q3 := q2.below hx q2.lt; have x0 := o3.cell 0 rfl; have x1 := o3.cell 1 rfl; have y0 := q3.cell k hk; have b4 := below_alloc w3 (.map #[] 0); have q4 := q3.below b4 q3.lt; have y4 := q4.cell k hk; have g4 := q4.free k; have hb := hb.trans (hx.mono hb.size); clear hx))
        have q5 := q4.set k (.map (some w3.heap.size))
        have o5 := (o3.below b4 o3.lt).other (p := ⟨p, k, none⟩) (by show p ≠ w.heap.size; omega) (.map (some w3.heap.size))
        have hm5 := (World.ownsMap_made (H := Unit) w3 Try.prog 24 (plainElem Try.prog 3)).setCell (a := ⟨p, k, none⟩) (fun e => by have := q3.lt; have e2 : w3.heap.size = p := e; omega) (.map (some w3.heap.size))
        have k5 : Keeps (fun b => b = p ∨ (none : Option Nat) = some b) w ((w3.alloc (.map #[] 0)).setCell ⟨p, k, none⟩ (.map (some w3.heap.size))) := (Keeps.new (hb.trans (b4.mono hb.size))).setCell (.inl rfl) _
        have hs := hb.size
        generalize (w3.alloc (.map #[] 0)).setCell ⟨p, k, none⟩ (.map (some w3.heap.size)) = w5 at *
        have c0 := q5.cell k (List.getElem?_set_self hk9)
        have d0 := o5.cell 0 rfl; have d1' := o5.cell 1 rfl
        obtain ⟨w6, hrun, hm6, hg6⟩ := hm5.drew.update keyedActor Try.underlying54 (by unfold maxLen; omega) hkey (plainElem_int Try.underlying3 hwf)
        go_region
        all_goals (
          go_wp2
          go_ret)
        have kd : Keeps (fun b => b = p ∨ (none : Option Nat) = some b) w5 w5.drew := Keeps.new (Below.refl _ _).drew
        have k6 := Keeps.ofGrownBy hg6
        have hB6 := hm6.lt
        refine ⟨rfl, some w3.heap.size, ⟨(q5.drew).keeps k6 (fun e => by have := Option.some.inj e; omega), List.getElem?_set_self hk9, .inr ⟨_, _, _, rfl, rfl, hm6, hput _ VecD.empty ⟨[], rfl, List.Pairwise.nil⟩⟩, hok⟩, ?_, .inr ⟨_, rfl, by omega⟩⟩
        exact (k5.trans kd (fun _ _ h => h)).trans k6 (fun k hk e => by have := Option.some.inj e; omega)
      · have hne := obj_not_map q1 (hm.alloc _)
        have kn := fun w r => Go.run_eql_map_nil (P := Try.prog) w 54 24 3 r Try.underlying54
        have hsz := hD.size
        have hT := hm.tidy keyedActor
        have hm0 := ownsMap_tight hm
        go_enter Try.func51, Try.ntmps51
        go_wp2_with (first
          | (go_at_call 27; (with_reducible refine (HR _).mono ?_); rintro e w2 ⟨rfl, hx⟩; have o2 := o1.below hx o1.lt; have ha2 := ha1.below hx; have q2 := q1.below hx q1.lt; have v0 := o2.cell 0 rfl; have v1 := o2.cell 1 rfl; have hb := hb.trans (hx.mono hb.size); clear hx)
          | (go_at_call 50; (with_reducible refine (HG _ ha2).mono ?_); rintro e w3 ⟨rfl, hx⟩; have o3 := o2.below hx o2.lt; have q3 := q2.below hx q2.lt; have x0 := o3.cell 0 rfl; have x1 := o3.cell 1 rfl; have y0 := q3.cell k hk; have hb := hb.trans (hx.mono hb.size); clear hx))
        have k5 : Keeps (fun b => b = p ∨ some B = some b) w w3 := Keeps.new hb
        have hm5 := (Keeps.new (F := fun _ => False) hb).grownBy (b := B) (fun h => h) hm0
        obtain ⟨w6, hrun, hm6, hg6⟩ := hm5.drew.update keyedActor Try.underlying54 (by unfold maxLen; omega) hkey (plainElem_int Try.underlying3 hwf)
        go_region
        all_goals (
          go_wp2
          go_ret)
        have kd : Keeps (fun b => b = p ∨ some B = some b) w3 w3.drew := Keeps.new (Below.refl _ _).drew
        have k6 := Keeps.ofGrownBy hg6
        refine ⟨rfl, some B, ⟨by rw [set_as hk]; exact (q3.drew).keeps k6 (fun e => hne (Option.some.inj e)), by rw [set_as hk]; exact hk, .inr ⟨_, _, _, rfl, rfl, hm6, hput _ hD hT⟩, hok⟩, ?_, .inl rfl⟩
        exact (k5.trans kd (fun _ _ h => h)).trans k6 (fun b hb e => .inr e)
    · rw [if_neg (fun c => hc c.2)]
      have d1 : decide (seq ≤ getV l dev inc) = true := decide_eq_true (by omega)
      generalize getV l dev inc = G at *
      clear hc hput hok hr
      go_enter Try.func51, Try.ntmps51
      go_wp2_with (first
        | (go_at_call 27; (with_reducible refine (HR _).mono ?_); rintro e w2 ⟨rfl, hx⟩; have o2 := o1.below hx o1.lt; have ha2 := ha1.below hx; have v0 := o2.cell 0 rfl; have v1 := o2.cell 1 rfl; have hb := hb.trans (hx.mono hb.size); clear hx)
        | (go_at_call 50; (with_reducible refine (HG _ ha2).mono ?_); rintro e w3 ⟨rfl, hx⟩; have hb := hb.trans (hx.mono hb.size); clear hx))
      go_ret
      exact hE _ _ hb

end Go.Proofs.Ytlggjijgilcloaa

/- Has and Take of a vector, a nil one too. -/
namespace Go.Proofs.Ytlggjijgilcloaa
open Go.RowKit
set_option linter.unusedVariables false

set_option maxRecDepth 100000 in
theorem vHasA {v : Value} {mv : Option Nat} {F : Nat → Prop} {l : List DotN} {w : World} (ha : ArgV w v mv F l) (x : DotN) (hx : FitD x) :
    Calls Try.prog 34 #[v, .agg #[.int .i64 x.dev, .int .i64 x.inc, .int .i64 x.seq]] w fun e w' => e = .returned (.bool (hasV l x)) ∧ Below w.heap.size w w' := by
  have HR := fun v => dotRightC0 x v
  have HG := fun ww (hv : ArgV ww v mv F l) => vGetA hv x.dev x.inc hx.dev hx.inc
  unfold hasV
  obtain ⟨dev, inc, seq⟩ := x
  dsimp only at *
  have o1 := ObjAt.new w #[.int .i64 dev, .int .i64 inc, .int .i64 seq] 26
  have b1 := below_alloc w (.cells #[.int .i64 dev, .int .i64 inc, .int .i64 seq] 26)
  have ha1 := ha.below b1
  generalize hw1 : w.alloc (.cells #[.int .i64 dev, .int .i64 inc, .int .i64 seq] 26) = w1 at *
  have v0 := o1.cell 0 rfl; have v1 := o1.cell 1 rfl; have v2 := o1.cell 2 rfl
  have hS0 : ∀ w', Below w1.heap.size w1 w' → w'.cell? ⟨w.heap.size, 0, none⟩ = some (.int .i64 dev) ∧ w'.cell? ⟨w.heap.size, 1, none⟩ = some (.int .i64 inc) ∧ w'.cell? ⟨w.heap.size, 2, none⟩ = some (.int .i64 seq) := fun w' h => ⟨(o1.below h o1.lt).cell 0 rfl, (o1.below h o1.lt).cell 1 rfl, (o1.below h o1.lt).cell 2 rfl⟩
  have hB1 : Below w1.heap.size w1 w1.drew := (Below.refl _ w1).drew
  generalize getV l dev inc = G at *
  clear ha hx v0 v1 v2
  cases hr : rightD ⟨dev, inc, seq⟩ with
  | false =>
    rw [hr] at HR
    clear hr
    go_enter Try.func34, Try.ntmps34
    go_wp2_with fail
    refine wp_region_held_drew (S := fun w' => w'.cell? ⟨w.heap.size, 0, none⟩ = some (.int .i64 dev) ∧ w'.cell? ⟨w.heap.size, 1, none⟩ = some (.int .i64 inc) ∧ w'.cell? ⟨w.heap.size, 2, none⟩ = some (.int .i64 seq)) (by kernel_rfl) (hS0 _ hB1) (fun hHeld => ?_)
    first
      | (refine wpAnyH_take (i := 0) rfl (by kernel_rfl) (by kernel_rfl) (by kernel_rfl) (fun _ _ _ h => h) (Or.inr ⟨by rfl, rfl⟩) (by assumption) ?_)
      | (refine wpAnyH_take (i := 0) (v := ?vhax0) rfl (by kernel_rfl) (by kernel_rfl) (by kernel_rfl) (fun _ _ _ h => h) (Or.inl ⟨by rfl, ?hyhax0⟩) (by assumption) ?rhax0; case hyhax0 => (rintro w' ⟨hs0, hs1, hs2⟩; go_simp; try with_reducible rfl))
    try simp only [List.getElem_toArray, List.getElem_cons_zero, Act.put, List.setIfInBounds_toArray, List.set_cons_zero, List.set_cons_succ]
    refine wpAnyH_ready (rs := [1]) (by kernel_rfl) (by simp) ?_
    refine AllReadyH.cons (o := _) rfl (fun K hK => ?_) AllReadyH.nil
    go_simp
    go_at_call 27; (with_reducible refine (HR _).mono ?_); rintro e w2 ⟨rfl, hx⟩; have hB1 := hB1.trans (hx.mono hB1.size); clear hx
    dsimp only
    refine hK.out _ _ (hS0 _ hB1) (fun hHeld => ?_)
    clear hK K
    try simp only [List.getElem_toArray, List.getElem_cons_zero, List.getElem_cons_succ, Act.put, List.setIfInBounds_toArray, List.set_cons_zero, List.set_cons_succ]
    first
      | (refine wpAnyH_take (i := 2) rfl (by kernel_rfl) (by kernel_rfl) (by kernel_rfl) (fun _ _ _ h => h) (Or.inr ⟨by rfl, rfl⟩) (by assumption) ?_)
      | (refine wpAnyH_take (i := 2) (v := ?vhax2) rfl (by kernel_rfl) (by kernel_rfl) (by kernel_rfl) (fun _ _ _ h => h) (Or.inl ⟨by rfl, ?hyhax2⟩) (by assumption) ?rhax2; case hyhax2 => (rintro w' ⟨hs0, hs1, hs2⟩; go_simp; try with_reducible rfl))
    try simp only [List.getElem_toArray, List.getElem_cons_zero, List.getElem_cons_succ, Act.put, List.setIfInBounds_toArray, List.set_cons_zero, List.set_cons_succ]
    first
      | (refine wpAnyH_take (i := 3) rfl (by kernel_rfl) (by kernel_rfl) (by kernel_rfl) (fun _ _ _ h => h) (Or.inr ⟨by rfl, rfl⟩) (by assumption) ?_)
      | (refine wpAnyH_take (i := 3) (v := ?vhax3) rfl (by kernel_rfl) (by kernel_rfl) (by kernel_rfl) (fun _ _ _ h => h) (Or.inl ⟨by rfl, ?hyhax3⟩) (by assumption) ?rhax3; case hyhax3 => (rintro w' ⟨hs0, hs1, hs2⟩; go_simp; try with_reducible rfl))
    try simp only [List.getElem_toArray, List.getElem_cons_zero, List.getElem_cons_succ, Act.put, List.setIfInBounds_toArray, List.set_cons_zero, List.set_cons_succ]
    first
      | (refine wpAnyH_take (i := 4) rfl (by kernel_rfl) (by kernel_rfl) (by kernel_rfl) (fun _ _ _ h => h) (Or.inr ⟨by rfl, rfl⟩) (by assumption) ?_)
      | (refine wpAnyH_take (i := 4) (v := ?vhax4) rfl (by kernel_rfl) (by kernel_rfl) (by kernel_rfl) (fun _ _ _ h => h) (Or.inl ⟨by rfl, ?hyhax4⟩) (by assumption) ?rhax4; case hyhax4 => (rintro w' ⟨hs0, hs1, hs2⟩; go_simp; try with_reducible rfl))
    try simp only [List.getElem_toArray, List.getElem_cons_zero, List.getElem_cons_succ, Act.put, List.setIfInBounds_toArray, List.set_cons_zero, List.set_cons_succ]
    first
      | (refine wpAnyH_take (i := 5) rfl (by kernel_rfl) (by kernel_rfl) (by kernel_rfl) (fun _ _ _ h => h) (Or.inr ⟨by rfl, rfl⟩) (by assumption) ?_)
      | (refine wpAnyH_take (i := 5) (v := ?vhax5) rfl (by kernel_rfl) (by kernel_rfl) (by kernel_rfl) (fun _ _ _ h => h) (Or.inl ⟨by rfl, ?hyhax5⟩) (by assumption) ?rhax5; case hyhax5 => (rintro w' ⟨hs0, hs1, hs2⟩; go_simp; try with_reducible rfl))
    try simp only [List.getElem_toArray, List.getElem_cons_zero, List.getElem_cons_succ, Act.put, List.setIfInBounds_toArray, List.set_cons_zero, List.set_cons_succ]
    first
      | (refine wpAnyH_take (i := 6) rfl (by kernel_rfl) (by kernel_rfl) (by kernel_rfl) (fun _ _ _ h => h) (Or.inr ⟨by rfl, rfl⟩) (by assumption) ?_)
      | (refine wpAnyH_take (i := 6) (v := ?vhax6) rfl (by kernel_rfl) (by kernel_rfl) (by kernel_rfl) (fun _ _ _ h => h) (Or.inl ⟨by rfl, ?hyhax6⟩) (by assumption) ?rhax6; case hyhax6 => (rintro w' ⟨hs0, hs1, hs2⟩; go_simp; try with_reducible rfl))
    try simp only [List.getElem_toArray, List.getElem_cons_zero, List.getElem_cons_succ, Act.put, List.setIfInBounds_toArray, List.set_cons_zero, List.set_cons_succ]
    first
      | (refine wpAnyH_take (i := 7) rfl (by kernel_rfl) (by kernel_rfl) (by kernel_rfl) (fun _ _ _ h => h) (Or.inr ⟨by rfl, rfl⟩) (by assumption) ?_)
      | (refine wpAnyH_take (i := 7) (v := ?vhax7) rfl (by kernel_rfl) (by kernel_rfl) (by kernel_rfl) (fun _ _ _ h => h) (Or.inl ⟨by rfl, ?hyhax7⟩) (by assumption) ?rhax7; case hyhax7 => (rintro w' ⟨hs0, hs1, hs2⟩; go_simp; try with_reducible rfl))
    try simp only [List.getElem_toArray, List.getElem_cons_zero, List.getElem_cons_succ, Act.put, List.setIfInBounds_toArray, List.set_cons_zero, List.set_cons_succ]
    first
      | (refine wpAnyH_take (i := 8) rfl (by kernel_rfl) (by kernel_rfl) (by kernel_rfl) (fun _ _ _ h => h) (Or.inr ⟨by rfl, rfl⟩) (by assumption) ?_)
      | (refine wpAnyH_take (i := 8) (v := ?vhax8) rfl (by kernel_rfl) (by kernel_rfl) (by kernel_rfl) (fun _ _ _ h => h) (Or.inl ⟨by rfl, ?hyhax8⟩) (by assumption) ?rhax8; case hyhax8 => (rintro w' ⟨hs0, hs1, hs2⟩; go_simp; try with_reducible rfl))
    try simp only [List.getElem_toArray, List.getElem_cons_zero, List.getElem_cons_succ, Act.put, List.setIfInBounds_toArray, List.set_cons_zero, List.set_cons_succ]
    first
      | (refine wpAnyH_take (i := 9) rfl (by kernel_rfl) (by kernel_rfl) (by kernel_rfl) (fun _ _ _ h => h) (Or.inr ⟨by rfl, rfl⟩) (by assumption) ?_)
      | (refine wpAnyH_take (i := 9) (v := ?vhax9) rfl (by kernel_rfl) (by kernel_rfl) (by kernel_rfl) (fun _ _ _ h => h) (Or.inl ⟨by rfl, ?hyhax9⟩) (by assumption) ?rhax9; case hyhax9 => (rintro w' ⟨hs0, hs1, hs2⟩; go_simp; try with_reducible rfl))
    try simp only [List.getElem_toArray, List.getElem_cons_zero, List.getElem_cons_succ, Act.put, List.setIfInBounds_toArray, List.set_cons_zero, List.set_cons_succ]
    first
      | (refine wpAnyH_take (i := 10) rfl (by kernel_rfl) (by kernel_rfl) (by kernel_rfl) (fun _ _ _ h => h) (Or.inr ⟨by rfl, rfl⟩) (by assumption) ?_)
      | (refine wpAnyH_take (i := 10) (v := ?vhax10) rfl (by kernel_rfl) (by kernel_rfl) (by kernel_rfl) (fun _ _ _ h => h) (Or.inl ⟨by rfl, ?hyhax10⟩) (by assumption) ?rhax10; case hyhax10 => (rintro w' ⟨hs0, hs1, hs2⟩; go_simp; try with_reducible rfl))
    try simp only [List.getElem_toArray, List.getElem_cons_zero, List.getElem_cons_succ, Act.put, List.setIfInBounds_toArray, List.set_cons_zero, List.set_cons_succ]
    first
      | (refine wpAnyH_take (i := 11) rfl (by kernel_rfl) (by kernel_rfl) (by kernel_rfl) (fun _ _ _ h => h) (Or.inr ⟨by rfl, rfl⟩) (by assumption) ?_)
      | (refine wpAnyH_take (i := 11) (v := ?vhax11) rfl (by kernel_rfl) (by kernel_rfl) (by kernel_rfl) (fun _ _ _ h => h) (Or.inl ⟨by rfl, ?hyhax11⟩) (by assumption) ?rhax11; case hyhax11 => (rintro w' ⟨hs0, hs1, hs2⟩; go_simp; try with_reducible rfl))
    try simp only [List.getElem_toArray, List.getElem_cons_zero, List.getElem_cons_succ, Act.put, List.setIfInBounds_toArray, List.set_cons_zero, List.set_cons_succ]
    refine wpAnyH_done (by kernel_rfl) ?_ _
    go_wp2
    go_ret
    exact ⟨rfl, b1.trans (hB1.mono b1.size)⟩
  | true =>
    rw [hr] at HR
    clear hr
    have hd : decide (seq ≤ G) = decide (seq ≤ G) := rfl
    generalize hD : decide (seq ≤ G) = T at *
    clear hd
    go_enter Try.func34, Try.ntmps34
    go_wp2_with fail
    refine wp_region_held_drew (S := fun w' => w'.cell? ⟨w.heap.size, 0, none⟩ = some (.int .i64 dev) ∧ w'.cell? ⟨w.heap.size, 1, none⟩ = some (.int .i64 inc) ∧ w'.cell? ⟨w.heap.size, 2, none⟩ = some (.int .i64 seq)) (by kernel_rfl) (hS0 _ hB1) (fun hHeld => ?_)
    first
      | (refine wpAnyH_take (i := 0) rfl (by kernel_rfl) (by kernel_rfl) (by kernel_rfl) (fun _ _ _ h => h) (Or.inr ⟨by rfl, rfl⟩) (by assumption) ?_)
      | (refine wpAnyH_take (i := 0) (v := ?vhbx0) rfl (by kernel_rfl) (by kernel_rfl) (by kernel_rfl) (fun _ _ _ h => h) (Or.inl ⟨by rfl, ?hyhbx0⟩) (by assumption) ?rhbx0; case hyhbx0 => (rintro w' ⟨hs0, hs1, hs2⟩; go_simp; try with_reducible rfl))
    try simp only [List.getElem_toArray, List.getElem_cons_zero, Act.put, List.setIfInBounds_toArray, List.set_cons_zero, List.set_cons_succ]
    refine wpAnyH_ready (rs := [1]) (by kernel_rfl) (by simp) ?_
    refine AllReadyH.cons (o := _) rfl (fun K hK => ?_) AllReadyH.nil
    go_simp
    go_at_call 27; (with_reducible refine (HR _).mono ?_); rintro e w2 ⟨rfl, hx⟩; have hB1 := hB1.trans (hx.mono hB1.size); clear hx
    dsimp only
    refine hK.out _ _ (hS0 _ hB1) (fun hHeld => ?_)
    clear hK K
    try simp only [List.getElem_toArray, List.getElem_cons_zero, List.getElem_cons_succ, Act.put, List.setIfInBounds_toArray, List.set_cons_zero, List.set_cons_succ]
    first
      | (refine wpAnyH_take (i := 2) rfl (by kernel_rfl) (by kernel_rfl) (by kernel_rfl) (fun _ _ _ h => h) (Or.inr ⟨by rfl, rfl⟩) (by assumption) ?_)
      | (refine wpAnyH_take (i := 2) (v := ?vhbx2) rfl (by kernel_rfl) (by kernel_rfl) (by kernel_rfl) (fun _ _ _ h => h) (Or.inl ⟨by rfl, ?hyhbx2⟩) (by assumption) ?rhbx2; case hyhbx2 => (rintro w' ⟨hs0, hs1, hs2⟩; go_simp; try with_reducible rfl))
    try simp only [List.getElem_toArray, List.getElem_cons_zero, List.getElem_cons_succ, Act.put, List.setIfInBounds_toArray, List.set_cons_zero, List.set_cons_succ]
    first
      | (refine wpAnyH_take (i := 3) rfl (by kernel_rfl) (by kernel_rfl) (by kernel_rfl) (fun _ _ _ h => h) (Or.inr ⟨by rfl, rfl⟩) (by assumption) ?_)
      | (refine wpAnyH_take (i := 3) (v := ?vhbx3) rfl (by kernel_rfl) (by kernel_rfl) (by kernel_rfl) (fun _ _ _ h => h) (Or.inl ⟨by rfl, ?hyhbx3⟩) (by assumption) ?rhbx3; case hyhbx3 => (rintro w' ⟨hs0, hs1, hs2⟩; go_simp; try with_reducible rfl))
    try simp only [List.getElem_toArray, List.getElem_cons_zero, List.getElem_cons_succ, Act.put, List.setIfInBounds_toArray, List.set_cons_zero, List.set_cons_succ]
    first
      | (refine wpAnyH_take (i := 4) rfl (by kernel_rfl) (by kernel_rfl) (by kernel_rfl) (fun _ _ _ h => h) (Or.inr ⟨by rfl, rfl⟩) (by assumption) ?_)
      | (refine wpAnyH_take (i := 4) (v := ?vhbx4) rfl (by kernel_rfl) (by kernel_rfl) (by kernel_rfl) (fun _ _ _ h => h) (Or.inl ⟨by rfl, ?hyhbx4⟩) (by assumption) ?rhbx4; case hyhbx4 => (rintro w' ⟨hs0, hs1, hs2⟩; go_simp; try with_reducible rfl))
    try simp only [List.getElem_toArray, List.getElem_cons_zero, List.getElem_cons_succ, Act.put, List.setIfInBounds_toArray, List.set_cons_zero, List.set_cons_succ]
    first
      | (refine wpAnyH_take (i := 5) rfl (by kernel_rfl) (by kernel_rfl) (by kernel_rfl) (fun _ _ _ h => h) (Or.inr ⟨by rfl, rfl⟩) (by assumption) ?_)
      | (refine wpAnyH_take (i := 5) (v := ?vhbx5) rfl (by kernel_rfl) (by kernel_rfl) (by kernel_rfl) (fun _ _ _ h => h) (Or.inl ⟨by rfl, ?hyhbx5⟩) (by assumption) ?rhbx5; case hyhbx5 => (rintro w' ⟨hs0, hs1, hs2⟩; go_simp; try with_reducible rfl))
    try simp only [List.getElem_toArray, List.getElem_cons_zero, List.getElem_cons_succ, Act.put, List.setIfInBounds_toArray, List.set_cons_zero, List.set_cons_succ]
    first
      | (refine wpAnyH_take (i := 7) rfl (by kernel_rfl) (by kernel_rfl) (by kernel_rfl) (fun _ _ _ h => h) (Or.inr ⟨by rfl, rfl⟩) (by assumption) ?_)
      | (refine wpAnyH_take (i := 7) (v := ?vhbx7) rfl (by kernel_rfl) (by kernel_rfl) (by kernel_rfl) (fun _ _ _ h => h) (Or.inl ⟨by rfl, ?hyhbx7⟩) (by assumption) ?rhbx7; case hyhbx7 => (rintro w' ⟨hs0, hs1, hs2⟩; go_simp; try with_reducible rfl))
    try simp only [List.getElem_toArray, List.getElem_cons_zero, List.getElem_cons_succ, Act.put, List.setIfInBounds_toArray, List.set_cons_zero, List.set_cons_succ]
    first
      | (refine wpAnyH_take (i := 8) rfl (by kernel_rfl) (by kernel_rfl) (by kernel_rfl) (fun _ _ _ h => h) (Or.inr ⟨by rfl, rfl⟩) (by assumption) ?_)
      | (refine wpAnyH_take (i := 8) (v := ?vhbx8) rfl (by kernel_rfl) (by kernel_rfl) (by kernel_rfl) (fun _ _ _ h => h) (Or.inl ⟨by rfl, ?hyhbx8⟩) (by assumption) ?rhbx8; case hyhbx8 => (rintro w' ⟨hs0, hs1, hs2⟩; go_simp; try with_reducible rfl))
    try simp only [List.getElem_toArray, List.getElem_cons_zero, List.getElem_cons_succ, Act.put, List.setIfInBounds_toArray, List.set_cons_zero, List.set_cons_succ]
    refine wpAnyH_ready (rs := [6]) (by kernel_rfl) (by simp) ?_
    refine AllReadyH.cons (o := _) rfl (fun K hK => ?_) AllReadyH.nil
    go_simp
    go_at_call 50; (with_reducible refine (HG _ (ha1.below hB1)).mono ?_); rintro e w3 ⟨rfl, hx⟩; have hB1 := hB1.trans (hx.mono hB1.size); clear hx
    dsimp only
    refine hK.out _ _ (hS0 _ hB1) (fun hHeld => ?_)
    clear hK K
    try simp only [List.getElem_toArray, List.getElem_cons_zero, List.getElem_cons_succ, Act.put, List.setIfInBounds_toArray, List.set_cons_zero, List.set_cons_succ]
    first
      | (refine wpAnyH_take (i := 9) rfl (by kernel_rfl) (by kernel_rfl) (by kernel_rfl) (fun _ _ _ h => h) (Or.inr ⟨by rfl, rfl⟩) (by assumption) ?_)
      | (refine wpAnyH_take (i := 9) (v := ?vhbx9) rfl (by kernel_rfl) (by kernel_rfl) (by kernel_rfl) (fun _ _ _ h => h) (Or.inl ⟨by rfl, ?hyhbx9⟩) (by assumption) ?rhbx9; case hyhbx9 => (rintro w' ⟨hs0, hs1, hs2⟩; go_simp; try with_reducible rfl))
    try simp only [List.getElem_toArray, List.getElem_cons_zero, List.getElem_cons_succ, Act.put, List.setIfInBounds_toArray, List.set_cons_zero, List.set_cons_succ]
    first
      | (refine wpAnyH_take (i := 10) rfl (by kernel_rfl) (by kernel_rfl) (by kernel_rfl) (fun _ _ _ h => h) (Or.inr ⟨by rfl, rfl⟩) (by assumption) ?_)
      | (refine wpAnyH_take (i := 10) (v := ?vhbx10) rfl (by kernel_rfl) (by kernel_rfl) (by kernel_rfl) (fun _ _ _ h => h) (Or.inl ⟨by rfl, ?hyhbx10⟩) (by assumption) ?rhbx10; case hyhbx10 => (rintro w' ⟨hs0, hs1, hs2⟩; go_simp; try with_reducible rfl))
    try simp only [List.getElem_toArray, List.getElem_cons_zero, List.getElem_cons_succ, Act.put, List.setIfInBounds_toArray, List.set_cons_zero, List.set_cons_succ]
    first
      | (refine wpAnyH_take (i := 11) rfl (by kernel_rfl) (by kernel_rfl) (by kernel_rfl) (fun _ _ _ h => h) (Or.inr ⟨by rfl, rfl⟩) (by assumption) ?_)
      | (refine wpAnyH_take (i := 11) (v := ?vhbx11) rfl (by kernel_rfl) (by kernel_rfl) (by kernel_rfl) (fun _ _ _ h => h) (Or.inl ⟨by rfl, ?hyhbx11⟩) (by assumption) ?rhbx11; case hyhbx11 => (rintro w' ⟨hs0, hs1, hs2⟩; go_simp; try with_reducible rfl))
    try simp only [List.getElem_toArray, List.getElem_cons_zero, List.getElem_cons_succ, Act.put, List.setIfInBounds_toArray, List.set_cons_zero, List.set_cons_succ]
    refine wpAnyH_done (by kernel_rfl) ?_ _
    go_wp2
    go_ret
    exact ⟨rfl, b1.trans (hB1.mono b1.size)⟩

theorem take_is {l : List DotN} {x : DotN} (h : getV l x.dev x.inc + 1 = x.seq) : takeV l x = raiseV l x := by
  unfold takeV raiseV
  by_cases c : rightD x = true
  · rw [if_pos ⟨c, h⟩, if_pos ⟨c, by omega⟩]
  · rw [if_neg (fun q => c q.1), if_neg (fun q => c q.1)]
theorem take_not {l : List DotN} {x : DotN} (h : ¬ getV l x.dev x.inc + 1 = x.seq) : takeV l x = (l, false) := by
  unfold takeV
  rw [if_neg (fun q => h q.2)]

set_option maxRecDepth 100000 in
theorem vTakeI (p k : Nat) (vs : List Value) (mv : Option Nat) (l : List DotN) (x : DotN) (w : World) (h : VecIn w p k vs mv l) (hx : FitD x) :
    Calls Try.prog 48 #[.pointer (some ⟨p, k, none⟩), .agg #[.int .i64 x.dev, .int .i64 x.inc, .int .i64 x.seq]] w (RaisedI p k vs mv (takeV l x).1 (.bool (takeV l x).2) w) := by
  have ha := h.arg
  obtain ⟨F, hF⟩ : ∃ F : Nat → Prop, (fun b => b = p ∨ mv = some b) = F := ⟨_, rfl⟩
  rw [hF] at ha
  have HG := fun ww (hv : ArgV ww (.pointer (some ⟨p, k, none⟩)) mv F l) => vGetA hv x.dev x.inc hx.dev hx.inc
  have HR := fun ww (hv : VecIn ww p k vs mv l) => vRaiseI p k vs mv l x ww hv hx
  have hrg := getV_range h.ok x.dev x.inc
  have hq1 : IntKind.i64.wrap (getV l x.dev x.inc + 1) = getV l x.dev x.inc + 1 := by rw [IntKind.wrap_i64]; omega
  have hlt : ∀ b, F b → b < w.heap.size := by rw [← hF]; exact h.lt
  have ht := take_is (l := l) (x := x)
  have hn := take_not (l := l) (x := x)
  unfold RaisedI at HR ⊢
  rw [hF] at HR ⊢
  obtain ⟨dev, inc, seq⟩ := x
  dsimp only at *
  have o1 := ObjAt.new w #[.int .i64 dev, .int .i64 inc, .int .i64 seq] 26
  have b1 := below_alloc w (.cells #[.int .i64 dev, .int .i64 inc, .int .i64 seq] 26)
  have ha1 := ha.below b1
  generalize hw1 : w.alloc (.cells #[.int .i64 dev, .int .i64 inc, .int .i64 seq] 26) = w1 at *
  have v0 := o1.cell 0 rfl; have v1 := o1.cell 1 rfl; have v2 := o1.cell 2 rfl
  have hv1 : VecIn w1 p k vs mv l := h.below b1
  have hnF : ¬ F w.heap.size := fun c => absurd (hlt _ c) (Nat.lt_irrefl _)
  generalize raiseV l ⟨dev, inc, seq⟩ = r at *
  generalize hTK : takeV l ⟨dev, inc, seq⟩ = t at *
  generalize getV l dev inc = G at *
  clear hrg hx v0 v1 v2
  by_cases hc : G + 1 = seq
  · have ht := ht hc
    clear hTK
    subst t
    have hd : (seq == G + 1) = true := beq_iff_eq.2 hc.symm
    have hd2 : seq = G + 1 := hc.symm
    obtain ⟨r1, r2⟩ := r
    dsimp only at *
    clear hn hc ha
    have hS0 : ∀ w', Keeps F w1 w' → w'.cell? ⟨w.heap.size, 0, none⟩ = some (.int .i64 dev) ∧ w'.cell? ⟨w.heap.size, 1, none⟩ = some (.int .i64 inc) ∧ w'.cell? ⟨w.heap.size, 2, none⟩ = some (.int .i64 seq) := fun w' h => ⟨(o1.keeps h hnF).cell 0 rfl, (o1.keeps h hnF).cell 1 rfl, (o1.keeps h hnF).cell 2 rfl⟩
    have hB1 : Below w1.heap.size w1 w1.drew := (Below.refl _ w1).drew
    have hK1 : Keeps F w1 w1.drew := Keeps.new hB1
    clear hd2
    go_enter Try.func48, Try.ntmps48
    go_wp2_with fail
    refine wp_region_held_drew (S := fun w' => w'.cell? ⟨w.heap.size, 0, none⟩ = some (.int .i64 dev) ∧ w'.cell? ⟨w.heap.size, 1, none⟩ = some (.int .i64 inc) ∧ w'.cell? ⟨w.heap.size, 2, none⟩ = some (.int .i64 seq)) (by kernel_rfl) (hS0 _ hK1) (fun hHeld => ?_)
    first
      | (refine wpAnyH_take (i := 0) rfl (by kernel_rfl) (by kernel_rfl) (by kernel_rfl) (fun _ _ _ h => h) (Or.inr ⟨by rfl, rfl⟩) (by assumption) ?_)
      | (refine wpAnyH_take (i := 0) (v := ?vtax0) rfl (by kernel_rfl) (by kernel_rfl) (by kernel_rfl) (fun _ _ _ h => h) (Or.inl ⟨by rfl, ?hytax0⟩) (by assumption) ?rtax0; case hytax0 => (rintro w' ⟨hs0, hs1, hs2⟩; go_simp; try with_reducible rfl))
    try simp only [List.getElem_toArray, List.getElem_cons_zero, Act.put, List.setIfInBounds_toArray, List.set_cons_zero, List.set_cons_succ]
    first
      | (refine wpAnyH_take (i := 1) rfl (by kernel_rfl) (by kernel_rfl) (by kernel_rfl) (fun _ _ _ h => h) (Or.inr ⟨by rfl, rfl⟩) (by assumption) ?_)
      | (refine wpAnyH_take (i := 1) (v := ?vtax1) rfl (by kernel_rfl) (by kernel_rfl) (by kernel_rfl) (fun _ _ _ h => h) (Or.inl ⟨by rfl, ?hytax1⟩) (by assumption) ?rtax1; case hytax1 => (rintro w' ⟨hs0, hs1, hs2⟩; go_simp; try with_reducible rfl))
    try simp only [List.getElem_toArray, List.getElem_cons_zero, List.getElem_cons_succ, Act.put, List.setIfInBounds_toArray, List.set_cons_zero, List.set_cons_succ]
    first
      | (refine wpAnyH_take (i := 2) rfl (by kernel_rfl) (by kernel_rfl) (by kernel_rfl) (fun _ _ _ h => h) (Or.inr ⟨by rfl, rfl⟩) (by assumption) ?_)
      | (refine wpAnyH_take (i := 2) (v := ?vtax2) rfl (by kernel_rfl) (by kernel_rfl) (by kernel_rfl) (fun _ _ _ h => h) (Or.inl ⟨by rfl, ?hytax2⟩) (by assumption) ?rtax2; case hytax2 => (rintro w' ⟨hs0, hs1, hs2⟩; go_simp; try with_reducible rfl))
    try simp only [List.getElem_toArray, List.getElem_cons_zero, List.getElem_cons_succ, Act.put, List.setIfInBounds_toArray, List.set_cons_zero, List.set_cons_succ]
    first
      | (refine wpAnyH_take (i := 3) rfl (by kernel_rfl) (by kernel_rfl) (by kernel_rfl) (fun _ _ _ h => h) (Or.inr ⟨by rfl, rfl⟩) (by assumption) ?_)
      | (refine wpAnyH_take (i := 3) (v := ?vtax3) rfl (by kernel_rfl) (by kernel_rfl) (by kernel_rfl) (fun _ _ _ h => h) (Or.inl ⟨by rfl, ?hytax3⟩) (by assumption) ?rtax3; case hytax3 => (rintro w' ⟨hs0, hs1, hs2⟩; go_simp; try with_reducible rfl))
    try simp only [List.getElem_toArray, List.getElem_cons_zero, List.getElem_cons_succ, Act.put, List.setIfInBounds_toArray, List.set_cons_zero, List.set_cons_succ]
    first
      | (refine wpAnyH_take (i := 4) rfl (by kernel_rfl) (by kernel_rfl) (by kernel_rfl) (fun _ _ _ h => h) (Or.inr ⟨by rfl, rfl⟩) (by assumption) ?_)
      | (refine wpAnyH_take (i := 4) (v := ?vtax4) rfl (by kernel_rfl) (by kernel_rfl) (by kernel_rfl) (fun _ _ _ h => h) (Or.inl ⟨by rfl, ?hytax4⟩) (by assumption) ?rtax4; case hytax4 => (rintro w' ⟨hs0, hs1, hs2⟩; go_simp; try with_reducible rfl))
    try simp only [List.getElem_toArray, List.getElem_cons_zero, List.getElem_cons_succ, Act.put, List.setIfInBounds_toArray, List.set_cons_zero, List.set_cons_succ]
    refine wpAnyH_ready (rs := [5]) (by kernel_rfl) (by simp) ?_
    refine AllReadyH.cons (o := _) rfl (fun K hK => ?_) AllReadyH.nil
    go_simp
    go_at_call 50; (with_reducible refine (HG _ (ha1.below hB1)).mono ?_); rintro e w2 ⟨rfl, hx⟩; have hB2 := hB1.trans (hx.mono hB1.size); have hK1 : Keeps F w1 w2 := Keeps.new hB2; have hv2 : VecIn w2 p k vs mv l := hv1.below hB2; clear hx hB1
    dsimp only
    refine hK.out _ _ (hS0 _ hK1) (fun hHeld => ?_)
    clear hK K
    try simp only [List.getElem_toArray, List.getElem_cons_zero, List.getElem_cons_succ, Act.put, List.setIfInBounds_toArray, List.set_cons_zero, List.set_cons_succ]
    first
      | (refine wpAnyH_take (i := 6) rfl (by kernel_rfl) (by kernel_rfl) (by kernel_rfl) (fun _ _ _ h => h) (Or.inr ⟨by rfl, rfl⟩) (by assumption) ?_)
      | (refine wpAnyH_take (i := 6) (v := ?vtax6) rfl (by kernel_rfl) (by kernel_rfl) (by kernel_rfl) (fun _ _ _ h => h) (Or.inl ⟨by rfl, ?hytax6⟩) (by assumption) ?rtax6; case hytax6 => (rintro w' ⟨hs0, hs1, hs2⟩; go_simp; try with_reducible rfl))
    try simp only [List.getElem_toArray, List.getElem_cons_zero, List.getElem_cons_succ, Act.put, List.setIfInBounds_toArray, List.set_cons_zero, List.set_cons_succ]
    first
      | (refine wpAnyH_take (i := 7) rfl (by kernel_rfl) (by kernel_rfl) (by kernel_rfl) (fun _ _ _ h => h) (Or.inr ⟨by rfl, rfl⟩) (by assumption) ?_)
      | (refine wpAnyH_take (i := 7) (v := ?vtax7) rfl (by kernel_rfl) (by kernel_rfl) (by kernel_rfl) (fun _ _ _ h => h) (Or.inl ⟨by rfl, ?hytax7⟩) (by assumption) ?rtax7; case hytax7 => (rintro w' ⟨hs0, hs1, hs2⟩; go_simp; try with_reducible rfl))
    try simp only [List.getElem_toArray, List.getElem_cons_zero, List.getElem_cons_succ, Act.put, List.setIfInBounds_toArray, List.set_cons_zero, List.set_cons_succ]
    first
      | (refine wpAnyH_take (i := 8) rfl (by kernel_rfl) (by kernel_rfl) (by kernel_rfl) (fun _ _ _ h => h) (Or.inr ⟨by rfl, rfl⟩) (by assumption) ?_)
      | (refine wpAnyH_take (i := 8) (v := ?vtax8) rfl (by kernel_rfl) (by kernel_rfl) (by kernel_rfl) (fun _ _ _ h => h) (Or.inl ⟨by rfl, ?hytax8⟩) (by assumption) ?rtax8; case hytax8 => (rintro w' ⟨hs0, hs1, hs2⟩; go_simp; try with_reducible rfl))
    try simp only [List.getElem_toArray, List.getElem_cons_zero, List.getElem_cons_succ, Act.put, List.setIfInBounds_toArray, List.set_cons_zero, List.set_cons_succ]
    first
      | (refine wpAnyH_take (i := 9) rfl (by kernel_rfl) (by kernel_rfl) (by kernel_rfl) (fun _ _ _ h => h) (Or.inr ⟨by rfl, rfl⟩) (by assumption) ?_)
      | (refine wpAnyH_take (i := 9) (v := ?vtax9) rfl (by kernel_rfl) (by kernel_rfl) (by kernel_rfl) (fun _ _ _ h => h) (Or.inl ⟨by rfl, ?hytax9⟩) (by assumption) ?rtax9; case hytax9 => (rintro w' ⟨hs0, hs1, hs2⟩; go_simp; try with_reducible rfl))
    try simp only [List.getElem_toArray, List.getElem_cons_zero, List.getElem_cons_succ, Act.put, List.setIfInBounds_toArray, List.set_cons_zero, List.set_cons_succ]
    first
      | (refine wpAnyH_take (i := 10) rfl (by kernel_rfl) (by kernel_rfl) (by kernel_rfl) (fun _ _ _ h => h) (Or.inr ⟨by rfl, rfl⟩) (by assumption) ?_)
      | (refine wpAnyH_take (i := 10) (v := ?vtax10) rfl (by kernel_rfl) (by kernel_rfl) (by kernel_rfl) (fun _ _ _ h => h) (Or.inl ⟨by rfl, ?hytax10⟩) (by assumption) ?rtax10; case hytax10 => (rintro w' ⟨hs0, hs1, hs2⟩; go_simp; try with_reducible rfl))
    try simp only [List.getElem_toArray, List.getElem_cons_zero, List.getElem_cons_succ, Act.put, List.setIfInBounds_toArray, List.set_cons_zero, List.set_cons_succ]
    first
      | (refine wpAnyH_take (i := 11) rfl (by kernel_rfl) (by kernel_rfl) (by kernel_rfl) (fun _ _ _ h => h) (Or.inr ⟨by rfl, rfl⟩) (by assumption) ?_)
      | (refine wpAnyH_take (i := 11) (v := ?vtax11) rfl (by kernel_rfl) (by kernel_rfl) (by kernel_rfl) (fun _ _ _ h => h) (Or.inl ⟨by rfl, ?hytax11⟩) (by assumption) ?rtax11; case hytax11 => (rintro w' ⟨hs0, hs1, hs2⟩; go_simp; try with_reducible rfl))
    try simp only [List.getElem_toArray, List.getElem_cons_zero, List.getElem_cons_succ, Act.put, List.setIfInBounds_toArray, List.set_cons_zero, List.set_cons_succ]
    first
      | (refine wpAnyH_take (i := 12) rfl (by kernel_rfl) (by kernel_rfl) (by kernel_rfl) (fun _ _ _ h => h) (Or.inr ⟨by rfl, rfl⟩) (by assumption) ?_)
      | (refine wpAnyH_take (i := 12) (v := ?vtax12) rfl (by kernel_rfl) (by kernel_rfl) (by kernel_rfl) (fun _ _ _ h => h) (Or.inl ⟨by rfl, ?hytax12⟩) (by assumption) ?rtax12; case hytax12 => (rintro w' ⟨hs0, hs1, hs2⟩; go_simp; try with_reducible rfl))
    try simp only [List.getElem_toArray, List.getElem_cons_zero, List.getElem_cons_succ, Act.put, List.setIfInBounds_toArray, List.set_cons_zero, List.set_cons_succ]
    first
      | (refine wpAnyH_take (i := 13) rfl (by kernel_rfl) (by kernel_rfl) (by kernel_rfl) (fun _ _ _ h => h) (Or.inr ⟨by rfl, rfl⟩) (by assumption) ?_)
      | (refine wpAnyH_take (i := 13) (v := ?vtax13) rfl (by kernel_rfl) (by kernel_rfl) (by kernel_rfl) (fun _ _ _ h => h) (Or.inl ⟨by rfl, ?hytax13⟩) (by assumption) ?rtax13; case hytax13 => (rintro w' ⟨hs0, hs1, hs2⟩; go_simp; try with_reducible rfl))
    try simp only [List.getElem_toArray, List.getElem_cons_zero, List.getElem_cons_succ, Act.put, List.setIfInBounds_toArray, List.set_cons_zero, List.set_cons_succ]
    refine wpAnyH_ready (rs := [14]) (by kernel_rfl) (by simp) ?_
    refine AllReadyH.cons (o := _) rfl (fun K hK => ?_) AllReadyH.nil
    go_simp
    go_at_call 51; (with_reducible refine (HR _ hv2).mono ?_); rintro e w4 ⟨rfl, F4, hv4, hk4, hn4⟩; have hK1 := hK1.trans hk4 (fun _ _ h => h)
    dsimp only
    refine hK.out _ _ (hS0 _ hK1) (fun hHeld => ?_)
    clear hK K
    try simp only [List.getElem_toArray, List.getElem_cons_zero, List.getElem_cons_succ, Act.put, List.setIfInBounds_toArray, List.set_cons_zero, List.set_cons_succ]
    first
      | (refine wpAnyH_take (i := 15) rfl (by kernel_rfl) (by kernel_rfl) (by kernel_rfl) (fun _ _ _ h => h) (Or.inr ⟨by rfl, rfl⟩) (by assumption) ?_)
      | (refine wpAnyH_take (i := 15) (v := ?vtax15) rfl (by kernel_rfl) (by kernel_rfl) (by kernel_rfl) (fun _ _ _ h => h) (Or.inl ⟨by rfl, ?hytax15⟩) (by assumption) ?rtax15; case hytax15 => (rintro w' ⟨hs0, hs1, hs2⟩; go_simp; try with_reducible rfl))
    try simp only [List.getElem_toArray, List.getElem_cons_zero, List.getElem_cons_succ, Act.put, List.setIfInBounds_toArray, List.set_cons_zero, List.set_cons_succ]
    first
      | (refine wpAnyH_take (i := 16) rfl (by kernel_rfl) (by kernel_rfl) (by kernel_rfl) (fun _ _ _ h => h) (Or.inr ⟨by rfl, rfl⟩) (by assumption) ?_)
      | (refine wpAnyH_take (i := 16) (v := ?vtax16) rfl (by kernel_rfl) (by kernel_rfl) (by kernel_rfl) (fun _ _ _ h => h) (Or.inl ⟨by rfl, ?hytax16⟩) (by assumption) ?rtax16; case hytax16 => (rintro w' ⟨hs0, hs1, hs2⟩; go_simp; try with_reducible rfl))
    try simp only [List.getElem_toArray, List.getElem_cons_zero, List.getElem_cons_succ, Act.put, List.setIfInBounds_toArray, List.set_cons_zero, List.set_cons_succ]
    refine wpAnyH_done (by kernel_rfl) ?_ _
    go_wp2
    go_ret
    exact ⟨rfl, F4, hv4, ((Keeps.new (F := F) b1).trans hK1 (fun _ _ h => h)), hn4.imp id fun ⟨B, e, hB⟩ => ⟨B, e, Nat.le_trans (Nat.le_trans b1.size hB2.size) hB⟩⟩
  · have hn := hn hc
    clear hTK
    subst hn
    have hd : (seq == G + 1) = false := beq_eq_false_iff_ne.2 (fun c => hc c.symm)
    have hd2 : ¬ seq = G + 1 := fun c => hc c.symm
    have hS0 : ∀ w', Below w1.heap.size w1 w' → w'.cell? ⟨w.heap.size, 0, none⟩ = some (.int .i64 dev) ∧ w'.cell? ⟨w.heap.size, 1, none⟩ = some (.int .i64 inc) ∧ w'.cell? ⟨w.heap.size, 2, none⟩ = some (.int .i64 seq) := fun w' h => ⟨(o1.below h o1.lt).cell 0 rfl, (o1.below h o1.lt).cell 1 rfl, (o1.below h o1.lt).cell 2 rfl⟩
    have hB1 : Below w1.heap.size w1 w1.drew := (Below.refl _ w1).drew
    clear ht hc ha HR
    go_enter Try.func48, Try.ntmps48
    go_wp2_with fail
    refine wp_region_held_drew (S := fun w' => w'.cell? ⟨w.heap.size, 0, none⟩ = some (.int .i64 dev) ∧ w'.cell? ⟨w.heap.size, 1, none⟩ = some (.int .i64 inc) ∧ w'.cell? ⟨w.heap.size, 2, none⟩ = some (.int .i64 seq)) (by kernel_rfl) (hS0 _ hB1) (fun hHeld => ?_)
    first
      | (refine wpAnyH_take (i := 0) rfl (by kernel_rfl) (by kernel_rfl) (by kernel_rfl) (fun _ _ _ h => h) (Or.inr ⟨by rfl, rfl⟩) (by assumption) ?_)
      | (refine wpAnyH_take (i := 0) (v := ?vtbx0) rfl (by kernel_rfl) (by kernel_rfl) (by kernel_rfl) (fun _ _ _ h => h) (Or.inl ⟨by rfl, ?hytbx0⟩) (by assumption) ?rtbx0; case hytbx0 => (rintro w' ⟨hs0, hs1, hs2⟩; go_simp; try with_reducible rfl))
    try simp only [List.getElem_toArray, List.getElem_cons_zero, Act.put, List.setIfInBounds_toArray, List.set_cons_zero, List.set_cons_succ]
    first
      | (refine wpAnyH_take (i := 1) rfl (by kernel_rfl) (by kernel_rfl) (by kernel_rfl) (fun _ _ _ h => h) (Or.inr ⟨by rfl, rfl⟩) (by assumption) ?_)
      | (refine wpAnyH_take (i := 1) (v := ?vtbx1) rfl (by kernel_rfl) (by kernel_rfl) (by kernel_rfl) (fun _ _ _ h => h) (Or.inl ⟨by rfl, ?hytbx1⟩) (by assumption) ?rtbx1; case hytbx1 => (rintro w' ⟨hs0, hs1, hs2⟩; go_simp; try with_reducible rfl))
    try simp only [List.getElem_toArray, List.getElem_cons_zero, List.getElem_cons_succ, Act.put, List.setIfInBounds_toArray, List.set_cons_zero, List.set_cons_succ]
    first
      | (refine wpAnyH_take (i := 2) rfl (by kernel_rfl) (by kernel_rfl) (by kernel_rfl) (fun _ _ _ h => h) (Or.inr ⟨by rfl, rfl⟩) (by assumption) ?_)
      | (refine wpAnyH_take (i := 2) (v := ?vtbx2) rfl (by kernel_rfl) (by kernel_rfl) (by kernel_rfl) (fun _ _ _ h => h) (Or.inl ⟨by rfl, ?hytbx2⟩) (by assumption) ?rtbx2; case hytbx2 => (rintro w' ⟨hs0, hs1, hs2⟩; go_simp; try with_reducible rfl))
    try simp only [List.getElem_toArray, List.getElem_cons_zero, List.getElem_cons_succ, Act.put, List.setIfInBounds_toArray, List.set_cons_zero, List.set_cons_succ]
    first
      | (refine wpAnyH_take (i := 3) rfl (by kernel_rfl) (by kernel_rfl) (by kernel_rfl) (fun _ _ _ h => h) (Or.inr ⟨by rfl, rfl⟩) (by assumption) ?_)
      | (refine wpAnyH_take (i := 3) (v := ?vtbx3) rfl (by kernel_rfl) (by kernel_rfl) (by kernel_rfl) (fun _ _ _ h => h) (Or.inl ⟨by rfl, ?hytbx3⟩) (by assumption) ?rtbx3; case hytbx3 => (rintro w' ⟨hs0, hs1, hs2⟩; go_simp; try with_reducible rfl))
    try simp only [List.getElem_toArray, List.getElem_cons_zero, List.getElem_cons_succ, Act.put, List.setIfInBounds_toArray, List.set_cons_zero, List.set_cons_succ]
    first
      | (refine wpAnyH_take (i := 4) rfl (by kernel_rfl) (by kernel_rfl) (by kernel_rfl) (fun _ _ _ h => h) (Or.inr ⟨by rfl, rfl⟩) (by assumption) ?_)
      | (refine wpAnyH_take (i := 4) (v := ?vtbx4) rfl (by kernel_rfl) (by kernel_rfl) (by kernel_rfl) (fun _ _ _ h => h) (Or.inl ⟨by rfl, ?hytbx4⟩) (by assumption) ?rtbx4; case hytbx4 => (rintro w' ⟨hs0, hs1, hs2⟩; go_simp; try with_reducible rfl))
    try simp only [List.getElem_toArray, List.getElem_cons_zero, List.getElem_cons_succ, Act.put, List.setIfInBounds_toArray, List.set_cons_zero, List.set_cons_succ]
    refine wpAnyH_ready (rs := [5]) (by kernel_rfl) (by simp) ?_
    refine AllReadyH.cons (o := _) rfl (fun K hK => ?_) AllReadyH.nil
    go_simp
    go_at_call 50; (with_reducible refine (HG _ (ha1.below hB1)).mono ?_); rintro e w2 ⟨rfl, hx⟩; have hB1 := hB1.trans (hx.mono hB1.size); clear hx
    dsimp only
    refine hK.out _ _ (hS0 _ hB1) (fun hHeld => ?_)
    clear hK K
    try simp only [List.getElem_toArray, List.getElem_cons_zero, List.getElem_cons_succ, Act.put, List.setIfInBounds_toArray, List.set_cons_zero, List.set_cons_succ]
    first
      | (refine wpAnyH_take (i := 6) rfl (by kernel_rfl) (by kernel_rfl) (by kernel_rfl) (fun _ _ _ h => h) (Or.inr ⟨by rfl, rfl⟩) (by assumption) ?_)
      | (refine wpAnyH_take (i := 6) (v := ?vtbx6) rfl (by kernel_rfl) (by kernel_rfl) (by kernel_rfl) (fun _ _ _ h => h) (Or.inl ⟨by rfl, ?hytbx6⟩) (by assumption) ?rtbx6; case hytbx6 => (rintro w' ⟨hs0, hs1, hs2⟩; go_simp; try with_reducible rfl))
    try simp only [List.getElem_toArray, List.getElem_cons_zero, List.getElem_cons_succ, Act.put, List.setIfInBounds_toArray, List.set_cons_zero, List.set_cons_succ]
    first
      | (refine wpAnyH_take (i := 7) rfl (by kernel_rfl) (by kernel_rfl) (by kernel_rfl) (fun _ _ _ h => h) (Or.inr ⟨by rfl, rfl⟩) (by assumption) ?_)
      | (refine wpAnyH_take (i := 7) (v := ?vtbx7) rfl (by kernel_rfl) (by kernel_rfl) (by kernel_rfl) (fun _ _ _ h => h) (Or.inl ⟨by rfl, ?hytbx7⟩) (by assumption) ?rtbx7; case hytbx7 => (rintro w' ⟨hs0, hs1, hs2⟩; go_simp; try with_reducible rfl))
    try simp only [List.getElem_toArray, List.getElem_cons_zero, List.getElem_cons_succ, Act.put, List.setIfInBounds_toArray, List.set_cons_zero, List.set_cons_succ]
    first
      | (refine wpAnyH_take (i := 8) rfl (by kernel_rfl) (by kernel_rfl) (by kernel_rfl) (fun _ _ _ h => h) (Or.inr ⟨by rfl, rfl⟩) (by assumption) ?_)
      | (refine wpAnyH_take (i := 8) (v := ?vtbx8) rfl (by kernel_rfl) (by kernel_rfl) (by kernel_rfl) (fun _ _ _ h => h) (Or.inl ⟨by rfl, ?hytbx8⟩) (by assumption) ?rtbx8; case hytbx8 => (rintro w' ⟨hs0, hs1, hs2⟩; go_simp; try with_reducible rfl))
    try simp only [List.getElem_toArray, List.getElem_cons_zero, List.getElem_cons_succ, Act.put, List.setIfInBounds_toArray, List.set_cons_zero, List.set_cons_succ]
    first
      | (refine wpAnyH_take (i := 9) rfl (by kernel_rfl) (by kernel_rfl) (by kernel_rfl) (fun _ _ _ h => h) (Or.inr ⟨by rfl, rfl⟩) (by assumption) ?_)
      | (refine wpAnyH_take (i := 9) (v := ?vtbx9) rfl (by kernel_rfl) (by kernel_rfl) (by kernel_rfl) (fun _ _ _ h => h) (Or.inl ⟨by rfl, ?hytbx9⟩) (by assumption) ?rtbx9; case hytbx9 => (rintro w' ⟨hs0, hs1, hs2⟩; go_simp; try with_reducible rfl))
    try simp only [List.getElem_toArray, List.getElem_cons_zero, List.getElem_cons_succ, Act.put, List.setIfInBounds_toArray, List.set_cons_zero, List.set_cons_succ]
    first
      | (refine wpAnyH_take (i := 10) rfl (by kernel_rfl) (by kernel_rfl) (by kernel_rfl) (fun _ _ _ h => h) (Or.inr ⟨by rfl, rfl⟩) (by assumption) ?_)
      | (refine wpAnyH_take (i := 10) (v := ?vtbx10) rfl (by kernel_rfl) (by kernel_rfl) (by kernel_rfl) (fun _ _ _ h => h) (Or.inl ⟨by rfl, ?hytbx10⟩) (by assumption) ?rtbx10; case hytbx10 => (rintro w' ⟨hs0, hs1, hs2⟩; go_simp; try with_reducible rfl))
    try simp only [List.getElem_toArray, List.getElem_cons_zero, List.getElem_cons_succ, Act.put, List.setIfInBounds_toArray, List.set_cons_zero, List.set_cons_succ]
    first
      | (refine wpAnyH_take (i := 11) rfl (by kernel_rfl) (by kernel_rfl) (by kernel_rfl) (fun _ _ _ h => h) (Or.inr ⟨by rfl, rfl⟩) (by assumption) ?_)
      | (refine wpAnyH_take (i := 11) (v := ?vtbx11) rfl (by kernel_rfl) (by kernel_rfl) (by kernel_rfl) (fun _ _ _ h => h) (Or.inl ⟨by rfl, ?hytbx11⟩) (by assumption) ?rtbx11; case hytbx11 => (rintro w' ⟨hs0, hs1, hs2⟩; go_simp; try with_reducible rfl))
    try simp only [List.getElem_toArray, List.getElem_cons_zero, List.getElem_cons_succ, Act.put, List.setIfInBounds_toArray, List.set_cons_zero, List.set_cons_succ]
    first
      | (refine wpAnyH_take (i := 12) rfl (by kernel_rfl) (by kernel_rfl) (by kernel_rfl) (fun _ _ _ h => h) (Or.inr ⟨by rfl, rfl⟩) (by assumption) ?_)
      | (refine wpAnyH_take (i := 12) (v := ?vtbx12) rfl (by kernel_rfl) (by kernel_rfl) (by kernel_rfl) (fun _ _ _ h => h) (Or.inl ⟨by rfl, ?hytbx12⟩) (by assumption) ?rtbx12; case hytbx12 => (rintro w' ⟨hs0, hs1, hs2⟩; go_simp; try with_reducible rfl))
    try simp only [List.getElem_toArray, List.getElem_cons_zero, List.getElem_cons_succ, Act.put, List.setIfInBounds_toArray, List.set_cons_zero, List.set_cons_succ]
    first
      | (refine wpAnyH_take (i := 13) rfl (by kernel_rfl) (by kernel_rfl) (by kernel_rfl) (fun _ _ _ h => h) (Or.inr ⟨by rfl, rfl⟩) (by assumption) ?_)
      | (refine wpAnyH_take (i := 13) (v := ?vtbx13) rfl (by kernel_rfl) (by kernel_rfl) (by kernel_rfl) (fun _ _ _ h => h) (Or.inl ⟨by rfl, ?hytbx13⟩) (by assumption) ?rtbx13; case hytbx13 => (rintro w' ⟨hs0, hs1, hs2⟩; go_simp; try with_reducible rfl))
    try simp only [List.getElem_toArray, List.getElem_cons_zero, List.getElem_cons_succ, Act.put, List.setIfInBounds_toArray, List.set_cons_zero, List.set_cons_succ]
    first
      | (refine wpAnyH_take (i := 14) rfl (by kernel_rfl) (by kernel_rfl) (by kernel_rfl) (fun _ _ _ h => h) (Or.inr ⟨by rfl, rfl⟩) (by assumption) ?_)
      | (refine wpAnyH_take (i := 14) (v := ?vtbx14) rfl (by kernel_rfl) (by kernel_rfl) (by kernel_rfl) (fun _ _ _ h => h) (Or.inl ⟨by rfl, ?hytbx14⟩) (by assumption) ?rtbx14; case hytbx14 => (rintro w' ⟨hs0, hs1, hs2⟩; go_simp; try with_reducible rfl))
    try simp only [List.getElem_toArray, List.getElem_cons_zero, List.getElem_cons_succ, Act.put, List.setIfInBounds_toArray, List.set_cons_zero, List.set_cons_succ]
    first
      | (refine wpAnyH_take (i := 15) rfl (by kernel_rfl) (by kernel_rfl) (by kernel_rfl) (fun _ _ _ h => h) (Or.inr ⟨by rfl, rfl⟩) (by assumption) ?_)
      | (refine wpAnyH_take (i := 15) (v := ?vtbx15) rfl (by kernel_rfl) (by kernel_rfl) (by kernel_rfl) (fun _ _ _ h => h) (Or.inl ⟨by rfl, ?hytbx15⟩) (by assumption) ?rtbx15; case hytbx15 => (rintro w' ⟨hs0, hs1, hs2⟩; go_simp; try with_reducible rfl))
    try simp only [List.getElem_toArray, List.getElem_cons_zero, List.getElem_cons_succ, Act.put, List.setIfInBounds_toArray, List.set_cons_zero, List.set_cons_succ]
    first
      | (refine wpAnyH_take (i := 16) rfl (by kernel_rfl) (by kernel_rfl) (by kernel_rfl) (fun _ _ _ h => h) (Or.inr ⟨by rfl, rfl⟩) (by assumption) ?_)
      | (refine wpAnyH_take (i := 16) (v := ?vtbx16) rfl (by kernel_rfl) (by kernel_rfl) (by kernel_rfl) (fun _ _ _ h => h) (Or.inl ⟨by rfl, ?hytbx16⟩) (by assumption) ?rtbx16; case hytbx16 => (rintro w' ⟨hs0, hs1, hs2⟩; go_simp; try with_reducible rfl))
    try simp only [List.getElem_toArray, List.getElem_cons_zero, List.getElem_cons_succ, Act.put, List.setIfInBounds_toArray, List.set_cons_zero, List.set_cons_succ]
    refine wpAnyH_done (by kernel_rfl) ?_ _
    go_wp2
    go_ret
    exact ⟨rfl, mv, by rw [set_as h.here]; exact h.below (b1.trans (hB1.mono b1.size)), Keeps.new (b1.trans (hB1.mono b1.size)), .inl rfl⟩

end Go.Proofs.Ytlggjijgilcloaa

/- Marks: a vector's actors in order, with their numbers: the map's round in whatever order, and slices.SortFunc. -/
namespace Go.Proofs.Ytlggjijgilcloaa
open Go.RowKit Go.Sort
set_option linter.unusedVariables false

def ordM (x y : DotN) : Int := cmpAG x.dev x.inc y.dev y.inc

set_option maxRecDepth 100000 in
theorem markOrderG (x y : DotN) (w : World) :
    Calls Try.prog 58 #[.agg #[.int .i64 x.dev, .int .i64 x.inc, .int .i64 x.seq], .agg #[.int .i64 y.dev, .int .i64 y.inc, .int .i64 y.seq]] w fun en w' => en = .returned (.int .i64 (ordM x y)) ∧ Grows w w' := by
  obtain ⟨o1, o2, hb⟩ := two_objs w #[.int .i64 x.dev, .int .i64 x.inc, .int .i64 x.seq] #[.int .i64 y.dev, .int .i64 y.inc, .int .i64 y.seq] 53 53
  have u0 := o1.cell 0 rfl; have u1 := o1.cell 1 rfl; have u2 := o1.cell 2 rfl
  have v0 := o2.cell 0 rfl; have v1 := o2.cell 1 rfl; have v2 := o2.cell 2 rfl
  have hg : Grows w ((w.alloc (.cells #[.int .i64 x.dev, .int .i64 x.inc, .int .i64 x.seq] 53)).alloc (.cells #[.int .i64 y.dev, .int .i64 y.inc, .int .i64 y.seq] 53)) := (Grows.alloc w _).trans (Grows.alloc _ _)
  clear o1 o2 hb
  have H1 := fun w => dotCompareG x.dev x.inc y.dev y.inc w
  unfold ordM
  generalize cmpAG x.dev x.inc y.dev y.inc = C1 at *
  go_enter Try.func58, Try.ntmps58
  go_wp2_with (go_at_call 59; (with_reducible refine (H1 _).mono ?_); rintro e w1 ⟨rfl, hx⟩; have hg := hg.trans hx)
  go_ret
  exact ⟨rfl, hg⟩

theorem ordM_less (x y : DotN) : ltOf ordM x y = aheadD x y := by
  show decide (ordM x y < 0) = _
  unfold ordM cmpAG cmpN
  rw [Bool.eq_iff_iff, decide_eq_true_iff, aheadD_iff]
  repeat' split
  all_goals first | omega | (constructor <;> intros <;> first | omega | contradiction)
theorem swoM : SWO (ltOf ordM) where
  irrefl x := by rw [ordM_less, ahead_irrefl]
  trans x y z h1 h2 := by rw [ordM_less, aheadD_iff] at *; omega
  ntrans x y z h1 h2 := by rw [ordM_less, aheadD_no] at *; omega

theorem marks_sorted {l d : List DotN} (hl : OkV l) (hp : d.Perm l) (hs : d.Pairwise fun x y => aheadD y x = false) : d = l := by
  have hnd : d.Nodup := hp.nodup_iff.2 hl.ord.nodup
  have ho : OrdV d := List.Pairwise.imp_of_mem (fun {a b} ha hb h => by
    obtain ⟨h1, h2⟩ := h
    rw [aheadD_no] at h1
    rw [aheadD_iff]
    by_cases e : a.dev = b.dev ∧ a.inc = b.inc
    · have g1 := getV_mem hl.ord (hp.mem_iff.1 ha)
      have g2 := getV_mem hl.ord (hp.mem_iff.1 hb)
      rw [e.1, e.2, g2] at g1
      exact absurd (DotN.ext' e.1 e.2 g1.symm) h2
    · omega) (List.Pairwise.and hs hnd)
  exact sorted_unique ho.sorted hl.ord.sorted fun x => hp.mem_iff

set_option maxHeartbeats 2000000 in
set_option maxRecDepth 100000 in
theorem vMarksA {v : Value} {mv : Option Nat} {G : Nat → Prop} {m : List DotN} (w : World) (h2 : ArgV w v mv G m) :
    Calls Try.prog 44 #[v] w (GivesZ encD 3 53 m m.length w) := by
  have HA := vAllC h2
  have hmo := h2.ok
  obtain ⟨i0, hi, hz0, hz1, hz2⟩ := info_parts infoMark
  have hcon0 := fun v => AnyF.slices_SortFunc_none Try.sortMark none 0 (.func (.func 58) #[] #[]) v
  change ∀ v, Calls Try.prog 57 _ v _ at hcon0
  rcases h2.nums with ⟨rfl, rfl⟩ | ⟨B, n, D, rfl, hB, hm, hD⟩
  · have hb := below_alloc w (.mapIter none 0 #[] 0)
    have hrg := run_range_nilMap (P := Try.prog) w 54 24 3 Try.underlying54
    have hnx : ∀ ty, (Instr.next (.pointer (some ⟨w.heap.size, 0, none⟩)) false ty).run Try.prog (w.alloc (.mapIter none 0 #[] 0)) = _ := fun ty => run_next_nilMap _ ty 0 0 #[]
    clear h2
    go_enter Try.func44, Try.ntmps44
    go_wp2_with (go_at_call 56; (with_reducible refine HA.mono ?_); rintro e wA ⟨rfl, rfl⟩)
    refine wp_loop_rounds 1 ?_
    rw [rounds_succ]
    go_wp2_with (go_at_call 57; refine (hcon0 _).mono ?_; rintro e w2 ⟨rfl, rfl⟩)
    go_ret
    exact ⟨none, 0, rfl, OwnZ.none _ _ _ _ _, hb⟩
  · have hBl := hm.lt
    have hszD := hD.size
    have hmost := hmo.most
    go_enter Try.func44, Try.ntmps44
    go_wp2_with (first
      | (go_at_call 56; (with_reducible refine HA.mono ?_); rintro e wA ⟨rfl, rfl⟩)
      | (at_range; refine wpList_range_own _ rfl _ 54 rfl 24 3 keyedActor Try.underlying54 _ B n _ rfl hm ?_; intro w0 hrg0 hg0 hs0))
    go_frame
    go_loopw [3] (fun s ww => ∃ (left : Lit → Bool) (cnt : Nat) (R : List DotN) (q : Option Addr) (k c2 : Nat), s = .slice q k c2 ∧ ww.ranges Try.prog 24 (plainElem Try.prog 3) B w.heap.size n D left cnt ∧ MetV m left R ∧ OwnZ encD 3 (w.heap.size + 1) 53 q k c2 R ww ∧ k + cnt ≤ 67108864 ∧ Below w.heap.size w ww)
      (fun _ ww => ww.rangeLeft B w.heap.size)
    case atStart => exact ⟨_, _, [], none, 0, 0, rfl, hrg0, MetV.start hD hmo, OwnZ.none _ _ _ _ _, by omega, (Keeps.ofGrownBy hg0).below (Nat.le_refl _) (fun k _ e => by cases e)⟩
    case round =>
      obtain ⟨left, cnt, R, q, k, c2, rfl, hrg, hmet, hz, hcnt, hb⟩ := hrel
      clear hrg0 hg0 hs0 HA h2 hszD hmost
      have hRl : R.length = k := hz.2.1
      have hcm := hz.2.2
      unfold maxLen at hcm
      go_wp2_with (first
        | (at_next; refine wpList_next_actors rfl rfl _ rfl B w.heap.size n D _ _ rfl hrg ?_ ?_))
      · intro hc0 hl0
        have hperm := hmet.perm hmo hl0
        have hml : m.length = k := by rw [← hperm.length_eq]; exact hRl
        rcases hz.head with ⟨rfl, rfl, rfl⟩ | ⟨g, rfl, hg1, hg2⟩
        · have hnil : m = [] := List.eq_nil_of_length_eq_zero hml
          go_wp2_with (go_at_call 57; refine (hcon0 _).mono ?_; rintro e w2 ⟨rfl, rfl⟩)
          go_ret
          rw [hnil]
          exact ⟨none, 0, rfl, OwnZ.none _ _ _ _ _, hb⟩
        · have eg : ∀ args w, (callFunc 58 args).run Try.prog w = .ok (.enter 58 args) w := enters_of Try.func58 (by kernel_rfl) rfl
          have hcmp : Go.Proofs.CmpLays Try.prog 58 #[] encD 3 ordM g 0 R.toArray.size wr := fun _ _ _ _ x y => markOrderG x y _
          have hcon := AnyQ.slices_SortFunc Try.sortMark 3 Try.isAgg53 Try.sizeOf53 encD encD_len encD_one ordM swoM 58 #[] g 0 c2 R.toArray wr eg hcmp (own_holds encD_len hz) hg2 (by simp [hRl]; omega)
          have hsz : R.toArray.size = k := by simp [hRl]
          rw [hsz] at hcon
          change Calls Try.prog 57 _ wr _ at hcon
          have HZ := Lib.hid hz
          have HP := Lib.hid hperm
          have HM := Lib.hid hml
          clear hcmp hmet hz eg hrg hcon0 hperm hml hcm hcnt
          go_wp2_with (go_at_call 57; refine hcon.mono ?_; rintro e w2 ⟨rfl, d', nn, os, hp, hso, rfl⟩)
          go_ret
          rw [← hsz] at hp
          obtain ⟨p1, p2⟩ := permIn_all hp
          rw [hsz] at p1
          have hlist : d'.toList = m := marks_sorted hmo (p2.trans (by simpa using HP.out)) (by
            have := sortedIn_all p1 hso
            simpa only [ordM_less] using this)
          have hown := own_sorted encD_len HZ.out d'.toList (by simpa using p1) nn os
          rw [Array.toArray_toList] at hown
          refine ⟨some ⟨g, 0, none⟩, c2, by rw [HM.out]; rfl, ?_, hb.trans ((keeps_sortedK d').below hb.size (fun i _ h => by subst h; omega))⟩
          have hown := hown.base (Nat.le_succ _)
          rw [HM.out]
          rw [hlist] at hown
          exact hown
      · intro d i c w1 cnt1 hfd hfi hlk hat hrg1 hlt1 hg1 hs1 hen
        obtain ⟨hmem, hmet1⟩ := hmet.step hD hmo hfd hfi hlk hat
        have k1 := Keeps.ofGrownBy hg1
        have hz1' := hz.keeps k1 (fun j hj e => by have := (hz.lt' j hj).1; have := Option.some.inj e; omega)
        have oa := ObjAt.new w1 #[.int .i64 d, .int .i64 i] 24
        have ba := below_alloc w1 (.cells #[.int .i64 d, .int .i64 i] 24)
        have hrg2 := hrg1.alloc (.cells #[.int .i64 d, .int .i64 i] 24)
        have hz2' := hz1'.below ba (Nat.le_refl _)
        have u0 := oa.cell 0 rfl; have u1 := oa.cell 1 rfl
        have hb1 := hb.trans (grown_below_at hg1 (Nat.le_refl _) hb.size)
        have hb2 := hb1.trans (ba.mono hb1.size)
        have hrl := hrg1.lt
        have hwl : w.heap.size + 1 ≤ (w1.alloc (.cells #[.int .i64 d, .int .i64 i] 24)).heap.size := Nat.le_trans hrl (Nat.le_of_lt oa.lt)
        generalize hw2 : w1.alloc (.cells #[.int .i64 d, .int .i64 i] 24) = w2 at *
        clear hs1 hz hz1' hrg1 hmet hmem hcon0 hfd hfi hlk hat hb hb1
        go_wp2_with (at_builtin; refine wpList_append_row1 encD_len (by decide) encD_one rfl (.tmp 14) (.tmp 18) 50 rfl 53 i0 (.agg #[.int .i64 0, .int .i64 0, .int .i64 0]) 24 Try.underlying50 hi hz0 hz1 hz2 rfl hz2' rfl ⟨d, i, c⟩ rfl rfl (k + 1) rfl (by unfold maxLen; omega) (by omega) hwl ?_; intro q3 c3 w3 hz3 hx3 hg3 hn3)
        have k3 := Keeps.ofGrown hx3 hg3
        have hrg3 := k3.ranges (b := B) (r := w.heap.size) (fun h => by have := (hz2'.lt' _ h).1; omega) (fun h => by have := (hz2'.lt' _ h).1; omega) hrg2
        go_roundw
        case rel => exact ⟨_, cnt1, _, q3, k + 1, c3, rfl, hrg3, hmet1, hz3, by omega, hb2.trans (hx3.mono (Nat.le_succ _))⟩
        case measure => rw [hrg3.left_eq, hrg.left_eq]; exact hlt1
end Go.Proofs.Ytlggjijgilcloaa
