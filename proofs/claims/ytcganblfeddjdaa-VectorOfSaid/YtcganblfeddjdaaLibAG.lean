/- Contracts and plain words that the laws' proofs stand on, put together. -/
import Derived.Test.YtcganblfeddjdaaLibAF
import Derived.Test.YtcganblfeddjdaaLibAA
import Derived.Deep.RegionHeld3
import Derived.BigQuiet
import Derived.DeepKeys4
import Derived.Maps.OwnOps
import Derived.Maps.OwnSet
import Derived.Maps.Views
import Derived.Maps.RangeWalk
import Derived.WalkSpells
/- Vectors in plain words: marks in order, how far each actor was heard. No program in it. -/
namespace Go.Proofs.Ytcganblfeddjdaa
open Go.RowKit
set_option linter.unusedVariables false

def sameA (x y : DotN) : Bool := x.dev == y.dev && x.inc == y.inc
def aheadD (x y : DotN) : Bool := aheadA x.dev x.inc y.dev y.inc
theorem sameA_iff {x y : DotN} : sameA x y = true ↔ x.dev = y.dev ∧ x.inc = y.inc := by unfold sameA; rw [Bool.and_eq_true, beq_iff_eq, beq_iff_eq]
theorem aheadD_iff {x y : DotN} : aheadD x y = true ↔ x.dev < y.dev ∨ (x.dev = y.dev ∧ x.inc < y.inc) := by
  unfold aheadD aheadA
  by_cases h : x.dev = y.dev
  · rw [if_neg (fun c => c h), decide_eq_true_iff]
    omega
  · rw [if_pos h, decide_eq_true_iff]
    omega
theorem aheadD_no {x y : DotN} : aheadD x y = false ↔ ¬ (x.dev < y.dev ∨ (x.dev = y.dev ∧ x.inc < y.inc)) := by rw [← aheadD_iff, Bool.not_eq_true]
theorem sameA_no {x y : DotN} : sameA x y = false ↔ ¬ (x.dev = y.dev ∧ x.inc = y.inc) := by rw [← sameA_iff, Bool.not_eq_true]

/-- Marks in order. -/
def OrdV (l : List DotN) : Prop := l.Pairwise fun x y => aheadD x y = true
structure OkV (l : List DotN) : Prop where
  ord : OrdV l
  right : ∀ x ∈ l, rightD x = true

theorem OrdV.sorted {l : List DotN} (h : OrdV l) : SortedD l := List.Pairwise.imp (fun {x y} h => by rw [lessD_iff]; rw [aheadD_iff] at h; omega) h

/-- An actor's number: 0, if there is none. -/
def getV : List DotN → Int → Int → Int
  | [], _, _ => 0
  | y :: t, d, i => if y.dev = d ∧ y.inc = i then y.seq else getV t d i
theorem getV_none {l : List DotN} {d i : Int} (h : ∀ y ∈ l, ¬ (y.dev = d ∧ y.inc = i)) : getV l d i = 0 := by
  induction l with
  | nil => rfl
  | cons y t ih =>
    unfold getV
    rw [if_neg (h y (List.mem_cons_self ..))]
    exact ih fun z hz => h z (List.mem_cons_of_mem _ hz)
theorem getV_app {a b : List DotN} {d i : Int} (h : ∀ y ∈ a, ¬ (y.dev = d ∧ y.inc = i)) : getV (a ++ b) d i = getV b d i := by
  induction a with
  | nil => rfl
  | cons y t ih =>
    rw [List.cons_append, getV, if_neg (h y (List.mem_cons_self ..))]
    exact ih fun z hz => h z (List.mem_cons_of_mem _ hz)
theorem getV_mem {l : List DotN} (h : OrdV l) {x : DotN} (hx : x ∈ l) : getV l x.dev x.inc = x.seq := by
  induction l with
  | nil => cases hx
  | cons y t ih =>
    obtain ⟨h1, h2⟩ := List.pairwise_cons.1 h
    unfold getV
    rcases List.mem_cons.1 hx with rfl | hx
    · rw [if_pos ⟨rfl, rfl⟩]
    · have := h1 x hx
      rw [aheadD_iff] at this
      rw [if_neg (by omega)]
      exact ih h2 hx
theorem getV_some {l : List DotN} {d i : Int} (h : getV l d i ≠ 0) : ∃ x ∈ l, x.dev = d ∧ x.inc = i ∧ x.seq = getV l d i := by
  induction l with
  | nil => exact absurd rfl h
  | cons y t ih =>
    unfold getV at h ⊢
    by_cases c : y.dev = d ∧ y.inc = i
    · rw [if_pos c]
      exact ⟨y, List.mem_cons_self .., c.1, c.2, rfl⟩
    · rw [if_neg c] at h ⊢
      obtain ⟨x, hx, e⟩ := ih h
      exact ⟨x, List.mem_cons_of_mem _ hx, e⟩
theorem getV_range {l : List DotN} (h : OkV l) (d i : Int) : 0 ≤ getV l d i ∧ getV l d i ≤ 4294967296 := by
  by_cases c : getV l d i = 0
  · rw [c]; omega
  · obtain ⟨x, hx, _, _, e⟩ := getV_some c
    have := right_range (h.right x hx)
    rw [← e]
    omega

/-- Marks are what their numbers say. -/
theorem okV_ext {l m : List DotN} (hl : OkV l) (hm : OkV m) (h : ∀ d i, getV l d i = getV m d i) : l = m := by
  have key : ∀ {a b : List DotN}, OkV a → OkV b → (∀ d i, getV a d i = getV b d i) → ∀ x ∈ a, x ∈ b := by
    intro a b ha hb hab x hx
    have e := getV_mem ha.ord hx
    have hr := right_range (ha.right x hx)
    have hne : getV b x.dev x.inc ≠ 0 := by rw [← hab, e]; omega
    obtain ⟨y, hy, e1, e2, e3⟩ := getV_some hne
    rw [← hab, e] at e3
    have : y = x := DotN.ext' e1 e2 e3
    rw [← this]
    exact hy
  exact sorted_unique hl.ord.sorted hm.ord.sorted fun x => ⟨key hl hm h x, key hm hl (fun d i => (h d i).symm) x⟩

def setStep (x : DotN) (s : List DotN × Bool) (y : DotN) : List DotN × Bool :=
  let s1 := if (!s.2 && !aheadD y x) = true then (s.1 ++ [x], true) else s
  if sameA y x = true then s1 else (s1.1 ++ [y], s1.2)
/-- Marks with another number of an actor. -/
def setV (l : List DotN) (x : DotN) : List DotN := if (l.foldl (setStep x) ([], false)).2 = true then (l.foldl (setStep x) ([], false)).1 else (l.foldl (setStep x) ([], false)).1 ++ [x]

theorem set_true (x : DotN) : ∀ (t o : List DotN), t.foldl (setStep x) (o, true) = (o ++ t.filter (fun y => !sameA y x), true)
  | [], o => by simp
  | y :: t, o => by
    rw [List.foldl_cons]
    cases h : sameA y x with
    | true =>
      have e : setStep x (o, true) y = (o, true) := by simp [setStep, h]
      rw [e, set_true x t o, List.filter_cons_of_neg (by simp [h])]
    | false =>
      have e : setStep x (o, true) y = (o ++ [y], true) := by simp [setStep, h]
      rw [e, set_true x t, List.filter_cons_of_pos (by simp [h])]
      simp

theorem set_is {l : List DotN} (hl : OrdV l) (x : DotN) : setV l x = l.filter (fun y => aheadD y x) ++ x :: l.filter (fun y => aheadD x y) := by
  have key : ∀ (l out : List DotN), OrdV l → (l.foldl (setStep x) (out, false) = (out ++ l, false) ∧ l.filter (fun y => aheadD y x) = l ∧ l.filter (fun y => aheadD x y) = []) ∨ l.foldl (setStep x) (out, false) = (out ++ l.filter (fun y => aheadD y x) ++ x :: l.filter (fun y => aheadD x y), true) := by
    intro l
    induction l with
    | nil => exact fun out _ => .inl ⟨by simp, rfl, rfl⟩
    | cons y t ih =>
      intro out h
      obtain ⟨h1, h2⟩ := List.pairwise_cons.1 h
      rw [List.foldl_cons]
      cases hy : aheadD y x with
      | true =>
        have hs : sameA y x = false := by rw [sameA_no]; rw [aheadD_iff] at hy; omega
        have hn : aheadD x y = false := by rw [aheadD_no]; rw [aheadD_iff] at hy; omega
        have e : setStep x (out, false) y = (out ++ [y], false) := by simp [setStep, hy, hs]
        rw [e, List.filter_cons_of_pos (p := fun y => aheadD y x) hy, List.filter_cons_of_neg (p := fun y => aheadD x y) (by rw [hn]; exact Bool.false_ne_true)]
        rcases ih (out ++ [y]) h2 with ⟨a, b, c⟩ | a
        · exact .inl ⟨by rw [a]; simp, by rw [b], c⟩
        · exact .inr (by rw [a]; simp)
      | false =>
        have hall : ∀ z ∈ t, aheadD x z = true ∧ aheadD z x = false ∧ sameA z x = false := by
          intro z hz
          have := h1 z hz
          rw [aheadD_iff] at this
          rw [aheadD_no] at hy
          refine ⟨?_, ?_, ?_⟩
          · rw [aheadD_iff]; omega
          · rw [aheadD_no]; omega
          · rw [sameA_no]; omega
        have f1 : t.filter (fun y => aheadD y x) = [] := by
          rw [List.filter_eq_nil_iff]
          intro z hz
          rw [(hall z hz).2.1]
          exact Bool.false_ne_true
        have f2 : t.filter (fun y => aheadD x y) = t := by
          rw [List.filter_eq_self]
          intro z hz
          exact (hall z hz).1
        have f3 : t.filter (fun y => !sameA y x) = t := by
          rw [List.filter_eq_self]
          intro z hz
          rw [(hall z hz).2.2]
          rfl
        right
        rw [List.filter_cons_of_neg (p := fun y => aheadD y x) (by rw [hy]; exact Bool.false_ne_true), f1]
        cases hs : sameA y x with
        | true =>
          have hn : aheadD x y = false := by rw [aheadD_no]; rw [sameA_iff] at hs; omega
          have e : setStep x (out, false) y = (out ++ [x], true) := by simp [setStep, hy, hs]
          rw [e, set_true, f3, List.filter_cons_of_neg (p := fun y => aheadD x y) (by rw [hn]; exact Bool.false_ne_true), f2]
          simp
        | false =>
          have hn : aheadD x y = true := by
            rw [aheadD_no] at hy
            rw [sameA_no] at hs
            rw [aheadD_iff]
            omega
          have e : setStep x (out, false) y = (out ++ [x] ++ [y], true) := by simp [setStep, hy, hs]
          rw [e, set_true, f3, List.filter_cons_of_pos (p := fun y => aheadD x y) hn, f2]
          simp
  unfold setV
  rcases key l [] hl with ⟨a, b, c⟩ | a
  · rw [a, b, c]
    simp
  · rw [a]
    simp

theorem set_ok {l : List DotN} (hl : OkV l) {x : DotN} (hx : rightD x = true) : OkV (setV l x) := by
  rw [set_is hl.ord]
  constructor
  · refine List.pairwise_append.2 ⟨hl.ord.filter _, List.pairwise_cons.2 ⟨fun y hy => (List.mem_filter.1 hy).2, hl.ord.filter _⟩, fun a ha b hb => ?_⟩
    have h1 := (List.mem_filter.1 ha).2
    rcases List.mem_cons.1 hb with rfl | hb
    · exact h1
    · have h2 := (List.mem_filter.1 hb).2
      rw [aheadD_iff] at *
      omega
  · intro y hy
    rcases List.mem_append.1 hy with h | h
    · exact hl.right y (List.mem_filter.1 h).1
    · rcases List.mem_cons.1 h with rfl | h
      · exact hx
      · exact hl.right y (List.mem_filter.1 h).1

theorem getV_filter {l : List DotN} (p : DotN → Bool) {d i : Int} (h : ∀ y ∈ l, y.dev = d → y.inc = i → p y = true) : getV (l.filter p) d i = getV l d i := by
  induction l with
  | nil => rfl
  | cons y t ih =>
    have ht := ih fun z hz => h z (List.mem_cons_of_mem _ hz)
    by_cases c : y.dev = d ∧ y.inc = i
    · rw [List.filter_cons_of_pos (h y (List.mem_cons_self ..) c.1 c.2), getV, getV, if_pos c, if_pos c]
    · cases hp : p y with
      | true => rw [List.filter_cons_of_pos hp, getV, getV, if_neg c, if_neg c, ht]
      | false => rw [List.filter_cons_of_neg (by rw [hp]; exact Bool.false_ne_true), getV, if_neg c, ht]

theorem getV_set {l : List DotN} (hl : OrdV l) (x : DotN) (d i : Int) : getV (setV l x) d i = if x.dev = d ∧ x.inc = i then x.seq else getV l d i := by
  rw [set_is hl]
  by_cases c : x.dev = d ∧ x.inc = i
  · rw [if_pos c, getV_app, getV, if_pos c]
    intro y hy e
    have := (List.mem_filter.1 hy).2
    rw [aheadD_iff] at this
    omega
  · rw [if_neg c]
    by_cases c2 : x.dev < d ∨ (x.dev = d ∧ x.inc < i)
    · rw [getV_app, getV, if_neg c]
      · exact getV_filter _ fun y _ e1 e2 => by rw [aheadD_iff]; omega
      · intro y hy e
        have := (List.mem_filter.1 hy).2
        rw [aheadD_iff] at this
        omega
    · have e1 : getV (l.filter fun y => aheadD y x) d i = getV l d i := getV_filter _ fun y _ e1 e2 => by rw [aheadD_iff]; omega
      rw [← e1]
      generalize (l.filter fun y => aheadD y x) = A
      have hB : getV (x :: l.filter fun y => aheadD x y) d i = 0 := by
        rw [getV, if_neg c]
        refine getV_none fun y hy e => ?_
        have := (List.mem_filter.1 hy).2
        rw [aheadD_iff] at this
        omega
      generalize (x :: l.filter fun y => aheadD x y) = B at *
      induction A with
      | nil => exact hB
      | cons y t ih =>
        rw [List.cons_append, getV, getV]
        split
        · rfl
        · exact ih

def raiseV (l : List DotN) (x : DotN) : List DotN × Bool := if rightD x = true ∧ getV l x.dev x.inc < x.seq then (setV l x, true) else (l, false)
def takeV (l : List DotN) (x : DotN) : List DotN × Bool := if rightD x = true ∧ getV l x.dev x.inc + 1 = x.seq then (setV l x, true) else (l, false)
def hasV (l : List DotN) (x : DotN) : Bool := rightD x && decide (x.seq ≤ getV l x.dev x.inc)
def joinV (l m : List DotN) : List DotN := m.foldl (fun l x => (raiseV l x).1) l
def meetStep (m : List DotN) (x : DotN) : List DotN := if 0 < min x.seq (getV m x.dev x.inc) then [⟨x.dev, x.inc, min x.seq (getV m x.dev x.inc)⟩] else []
def meetV (l m : List DotN) : List DotN := l.flatMap (meetStep m)
def coversV (l m : List DotN) : Bool := m.all fun x => decide (x.seq ≤ getV l x.dev x.inc)
def sumV (l : List DotN) : Int := (l.map (·.seq)).sum

theorem nil_ok : OkV [] := ⟨List.Pairwise.nil, fun x h => by cases h⟩
theorem raise_ok {l : List DotN} (hl : OkV l) (x : DotN) : OkV (raiseV l x).1 := by
  unfold raiseV
  split
  · rename_i h
    exact set_ok hl h.1
  · exact hl
theorem take_ok {l : List DotN} (hl : OkV l) (x : DotN) : OkV (takeV l x).1 := by
  unfold takeV
  split
  · rename_i h
    exact set_ok hl h.1
  · exact hl
theorem getV_raise {l : List DotN} (hl : OkV l) {x : DotN} (hx : rightD x = true) (d i : Int) : getV (raiseV l x).1 d i = if x.dev = d ∧ x.inc = i then max (getV l d i) x.seq else getV l d i := by
  unfold raiseV
  by_cases c : getV l x.dev x.inc < x.seq
  · rw [if_pos ⟨hx, c⟩, getV_set hl.ord]
    by_cases e : x.dev = d ∧ x.inc = i
    · rw [if_pos e, if_pos e]
      obtain ⟨rfl, rfl⟩ := e
      omega
    · rw [if_neg e, if_neg e]
  · rw [if_neg (fun h => c h.2)]
    by_cases e : x.dev = d ∧ x.inc = i
    · rw [if_pos e]
      obtain ⟨rfl, rfl⟩ := e
      show getV l x.dev x.inc = _
      omega
    · rw [if_neg e]

theorem join_all {m : List DotN} : ∀ {l : List DotN}, OkV l → OkV m → OkV (joinV l m) ∧ ∀ d i, getV (joinV l m) d i = max (getV l d i) (getV m d i) := by
  induction m with
  | nil =>
    intro l hl _
    refine ⟨hl, fun d i => ?_⟩
    have := getV_range hl d i
    show getV l d i = max (getV l d i) 0
    omega
  | cons x t ih =>
    intro l hl hm
    obtain ⟨h1, h2⟩ := List.pairwise_cons.1 hm.ord
    have hx := hm.right x (List.mem_cons_self ..)
    have ht : OkV t := ⟨h2, fun y hy => hm.right y (List.mem_cons_of_mem _ hy)⟩
    obtain ⟨a, b⟩ := ih (raise_ok hl x) ht
    refine ⟨a, fun d i => ?_⟩
    show getV (joinV (raiseV l x).1 t) d i = _
    rw [b, getV_raise hl hx, getV]
    by_cases e : x.dev = d ∧ x.inc = i
    · rw [if_pos e, if_pos e]
      have e0 : getV t d i = 0 := getV_none fun y hy c => by
        have := h1 y hy
        rw [aheadD_iff] at this
        omega
      have := right_range hx
      have := getV_range hl d i
      rw [e0]
      omega
    · rw [if_neg e, if_neg e]

theorem meet_mem {l m : List DotN} {y : DotN} (h : y ∈ meetV l m) : ∃ x ∈ l, y.dev = x.dev ∧ y.inc = x.inc ∧ y.seq = min x.seq (getV m x.dev x.inc) ∧ 0 < y.seq := by
  obtain ⟨x, hx, h⟩ := List.mem_flatMap.1 h
  unfold meetStep at h
  split at h
  · rename_i c
    rw [List.mem_singleton] at h
    subst h
    exact ⟨x, hx, rfl, rfl, rfl, c⟩
  · cases h

theorem meet_all {l m : List DotN} (hl : OkV l) (hm : OkV m) : OkV (meetV l m) ∧ ∀ d i, getV (meetV l m) d i = min (getV l d i) (getV m d i) := by
  constructor
  · constructor
    · unfold OrdV meetV
      rw [List.flatMap_def, List.pairwise_flatten]
      constructor
      · intro a ha
        obtain ⟨x, _, rfl⟩ := List.mem_map.1 ha
        unfold meetStep
        split
        · exact List.pairwise_singleton _ _
        · exact List.Pairwise.nil
      · rw [List.pairwise_map]
        refine List.Pairwise.imp ?_ hl.ord
        intro x y hxy a ha b hb
        unfold meetStep at ha hb
        split at ha
        · split at hb
          · rw [List.mem_singleton] at ha hb
            subst ha
            subst hb
            rw [aheadD_iff] at *
            exact hxy
          · cases hb
        · cases ha
    · intro y hy
      obtain ⟨x, hx, e1, e2, e3, e4⟩ := meet_mem hy
      have hr := right_range (hl.right x hx)
      have := getV_range hm x.dev x.inc
      unfold rightD actorD
      simp only [Bool.and_eq_true, decide_eq_true_iff]
      omega
  · intro d i
    have hlm : ∀ l : List DotN, OkV l → getV (meetV l m) d i = min (getV l d i) (getV m d i) := by
      intro l
      induction l with
      | nil =>
        intro _
        have := getV_range hm d i
        show (0 : Int) = min 0 (getV m d i)
        omega
      | cons x t ih =>
        intro hl
        obtain ⟨h1, h2⟩ := List.pairwise_cons.1 hl.ord
        have ht : OkV t := ⟨h2, fun y hy => hl.right y (List.mem_cons_of_mem _ hy)⟩
        have hr := right_range (hl.right x (List.mem_cons_self ..))
        have hg := getV_range hm x.dev x.inc
        show getV (meetStep m x ++ meetV t m) d i = _
        rw [getV]
        by_cases e : x.dev = d ∧ x.inc = i
        · rw [if_pos e]
          obtain ⟨rfl, rfl⟩ := e
          unfold meetStep
          by_cases c : 0 < min x.seq (getV m x.dev x.inc)
          · rw [if_pos c, List.singleton_append, getV, if_pos ⟨rfl, rfl⟩]
          · rw [if_neg c, List.nil_append, ih ht]
            have e0 : getV t x.dev x.inc = 0 := getV_none fun y hy c => by
              have := h1 y hy
              rw [aheadD_iff] at this
              omega
            rw [e0]
            omega
        · rw [if_neg e, getV_app, ih ht]
          intro y hy c
          unfold meetStep at hy
          split at hy
          · rw [List.mem_singleton] at hy
            subst hy
            exact e c
          · cases hy
    exact hlm l hl

theorem covers_iff {l m : List DotN} (hl : OkV l) (hm : OkV m) : coversV l m = true ↔ ∀ d i, getV m d i ≤ getV l d i := by
  unfold coversV
  rw [List.all_eq_true]
  constructor
  · intro h d i
    by_cases c : getV m d i = 0
    · rw [c]
      exact (getV_range hl d i).1
    · obtain ⟨x, hx, rfl, rfl, e⟩ := getV_some c
      rw [← e]
      exact of_decide_eq_true (h x hx)
  · intro h x hx
    have := h x.dev x.inc
    rw [getV_mem hm.ord hx] at this
    exact decide_eq_true this
end Go.Proofs.Ytcganblfeddjdaa

/- Contracts of the reference of layer 17: an actor's number, marks with another one. -/
namespace Go.Proofs.Ytcganblfeddjdaa
open Go.RowKit
set_option linter.unusedVariables false

theorem infoMark : (Try.prog.info? 33).map (fun i => (i.zero, i.size, i.bytes)) = some (some (.agg #[.int .i64 0, .int .i64 0, .int .i64 0]), 3, 24) := by kernel_rfl
theorem eqMark (x y : DotN) (w : World) : Sem.run Try.prog (Op.equalIn 10000 33 (.agg #[.int .i64 x.dev, .int .i64 x.inc, .int .i64 x.seq]) (.agg #[.int .i64 y.dev, .int .i64 y.inc, .int .i64 y.seq])) w = Result.ok (sameD x y) w := by
  unfold sameD
  cases h1 : x.dev == y.dev <;> cases h2 : x.inc == y.inc <;> cases h3 : x.seq == y.seq <;> simp [go_sem, h1, h2, h3]
theorem sameA_val (x y : DotN) : (x.dev == y.dev && x.inc == y.inc) = sameA x y := rfl

set_option maxRecDepth 100000 in
theorem refGetVC (a : Option Addr) (n c : Nat) (L : List DotN) (x : DotN) (w : World) (hL : RowOf encD 3 w a n c L) :
    Calls Try.prog 19 #[.slice a n c, .agg #[.int .i64 x.dev, .int .i64 x.inc]] w fun e w' => e = .returned (.int .i64 (getV L x.dev x.inc)) ∧ Below w.heap.size w w' := by
  have hn := hL.leq
  have hcm := hL.capm
  have hcl := hL.cle
  unfold maxLen at hcm
  have o1 := ObjAt.new w #[.int .i64 x.dev, .int .i64 x.inc] 25
  have b1 := below_alloc w (.cells #[.int .i64 x.dev, .int .i64 x.inc] 25)
  have HL := Lib.hid (hL.below b1)
  have Hn := Lib.hid hn
  have v0 := o1.cell 0 rfl; have v1 := o1.cell 1 rfl
  clear hL hn o1
  generalize hw1 : w.alloc (.cells #[.int .i64 x.dev, .int .i64 x.inc] 25) = w1 at *
  go_enter Try.func19, Try.ntmps19
  go_wp2
  go_loopw [5] (fun i wr => ∃ k q : Nat, k ≤ n ∧ i = .int .i64 (k : Int) ∧ Hid (getV L x.dev x.inc = getV (L.drop k) x.dev x.inc) ∧ wr = w1.drewN q) (fun i _ => n - (intOf i).toNat)
  case atStart => exact ⟨0, 0, Nat.zero_le _, rfl, rfl, rfl⟩
  case round =>
    obtain ⟨k, q, hk, rfl, hs, rfl⟩ := hrel
    by_cases hlt : k < n
    · have hlt' : (k : Int) < (n : Int) := by omega
      obtain ⟨y, g1, o1, hy, rfl, c0, c1, c2⟩ := dot_at HL.out k hlt
      have hd : L.drop k = y :: L.drop (k + 1) := by
        obtain ⟨h1, h2⟩ := List.getElem?_eq_some_iff.1 hy
        rw [← h2]
        exact List.drop_eq_getElem_cons h1
      have hE := eqActor y.dev y.inc x.dev x.inc
      rw [sameA_val] at hE
      cases hxy : sameA y x with
      | true =>
        have e : Hid (getV L x.dev x.inc = y.seq) := by unfold Hid; rw [hs.out, hd, getV, if_pos (sameA_iff.1 hxy)]
        rw [hxy] at hE
        clear hs hxy hd hy
        go_wp2_with fail
        go_quiet (fail)
        go_wp2
        go_ret
        exact ⟨by rw [e.out]; rfl, drawn_below b1 _⟩
      | false =>
        have e : Hid (getV L x.dev x.inc = getV (L.drop (k + 1)) x.dev x.inc) := by unfold Hid; rw [hs.out, hd, getV, if_neg (sameA_no.1 hxy)]
        rw [hxy] at hE
        clear hs hxy hd hy
        go_wp2_with fail
        go_quiet (fail)
        go_wp2
        go_roundw
        case rel => exact ⟨k + 1, _, by omega, by go_num, e, by first | rfl | simp⟩
        case measure => simp [intOf]; omega
    · obtain rfl : k = n := by omega
      have e : Hid (getV L x.dev x.inc = 0) := by unfold Hid; rw [hs.out, List.drop_of_length_le (by rw [Hn.out]; exact Nat.le_refl _)]; rfl
      go_wp2
      go_ret
      exact ⟨by rw [e.out]; rfl, drawn_below b1 _⟩

/-- What lies there while marks are set: the actor, boxed; the marks that are new. -/
structure StS (w : World) (x : DotN) (b : Option Addr) (m C : Nat) (R : List DotN) (v : World) : Prop where
  o1 : ObjAt v w.heap.size [.int .i64 x.dev, .int .i64 x.inc]
  hZ : OwnZ encD 3 (w.heap.size + 1) 33 b m C R v
  hB : Below w.heap.size w v
theorem StS.below {w v v' : World} {x : DotN} {b : Option Addr} {m C : Nat} {R : List DotN} (h : StS w x b m C R v) (hx : Below v.heap.size v v') : StS w x b m C R v' :=
  ⟨h.o1.below hx h.o1.lt, h.hZ.below hx (Nat.le_refl _), h.hB.trans (hx.mono h.hB.size)⟩
theorem StS.drawn {w v : World} {x : DotN} {b : Option Addr} {m C : Nat} {R : List DotN} (h : StS w x b m C R v) (q : Nat) : StS w x b m C R (v.drewN q) := h.below (drawn_below (Below.refl _ _) q)
theorem StS.lt {w v : World} {x : DotN} {b : Option Addr} {m C : Nat} {R : List DotN} (h : StS w x b m C R v) : w.heap.size + 1 ≤ v.heap.size := h.o1.lt
theorem StS.grown {w v v' : World} {x : DotN} {b b' : Option Addr} {m C m' C' : Nat} {R R' : List DotN} (h : StS w x b m C R v) (hz : OwnZ encD 3 (w.heap.size + 1) 33 b' m' C' R' v') (hx : Below (w.heap.size + 1) v v') : StS w x b' m' C' R' v' :=
  ⟨h.o1.below hx (Nat.lt_succ_self _), hz, h.hB.trans (hx.mono (Nat.le_succ _))⟩

set_option maxHeartbeats 4000000 in
set_option maxRecDepth 100000 in
theorem refSetVC (a : Option Addr) (n c : Nat) (L : List DotN) (x : DotN) (w : World) (hL : RowOf encD 3 w a n c L) (hn9 : n ≤ 1000000) :
    Calls Try.prog 40 #[.slice a n c, .agg #[.int .i64 x.dev, .int .i64 x.inc], .int .i64 x.seq] w (GivesZ encD 3 33 (setV L x) (setV L x).length w) := by
  have hn := hL.leq
  have hcm := hL.capm
  have hcl := hL.cle
  unfold maxLen at hcm
  obtain ⟨i0, hi, hz0, hz1, hz2⟩ := info_parts infoMark
  have o1 := ObjAt.new w #[.int .i64 x.dev, .int .i64 x.inc] 25
  have b1 := below_alloc w (.cells #[.int .i64 x.dev, .int .i64 x.inc] 25)
  have hs1 : (w.alloc (.cells #[.int .i64 x.dev, .int .i64 x.inc] 25)).heap.size = w.heap.size + 1 := by simp
  generalize hw1 : w.alloc (.cells #[.int .i64 x.dev, .int .i64 x.inc] 25) = w1 at *
  have hZ0 := OwnZ.lit encD 3 33 w1
  have b2 := below_alloc w1 (.cells #[] 33)
  rw [hs1] at hZ0
  have hS0 : StS w x (some ⟨w.heap.size + 1, 0, none⟩) 0 0 [] (w1.alloc (.cells #[] 33)) := ⟨o1.below b2 o1.lt, hZ0, b1.trans (b2.mono b1.size)⟩
  have HL := Lib.hid hL
  have Hn := Lib.hid hn
  clear hL hn o1 hZ0
  unfold GivesZ
  go_enter Try.func40, Try.ntmps40
  go_wp2
  go_loopw [7, 8, 9] (fun l t i wr => ∃ (k m : Nat) (b : Option Addr) (C : Nat) (R : List DotN) (u : Bool), k ≤ n ∧ m ≤ k + 1 ∧ (u = false → m ≤ k) ∧ l = .slice b m C ∧ t = .bool u ∧ i = .int .i64 (k : Int) ∧ Hid ((L.take k).foldl (setStep x) ([], false) = (R, u)) ∧ StS w x b m C R wr) (fun _ _ i _ => n - (intOf i).toNat)
  case atStart => exact ⟨0, 0, _, 0, [], false, Nat.zero_le _, by omega, fun _ => Nat.le_refl _, rfl, rfl, rfl, rfl, hS0⟩
  case round =>
    clear hS0 b1 b2 hw1 hs1
    obtain ⟨k, m, b, C, R, u, hk, hm, hmu, rfl, rfl, rfl, hs, hS⟩ := hrel
    have hRl : R.length = m := hS.hZ.2.1
    by_cases hlt : k < n
    · have hlt' : (k : Int) < (n : Int) := by omega
      have g1' : decide ((k : Int) < (n : Int)) = true := decide_eq_true hlt'
      have i1 : (0 : Int) ≤ (k : Int) := by omega
      obtain ⟨y, g, off, hy, rfl, d0, d1, d2⟩ := dot_at (HL.out.below hS.hB) k hlt
      have hC : ∀ v, Below w.heap.size w v → v.cell? ⟨g, off + k * 3, none⟩ = some (.int .i64 y.dev) ∧ v.cell? ⟨g, off + k * 3 + 1, none⟩ = some (.int .i64 y.inc) ∧ v.cell? ⟨g, off + k * 3 + 2, none⟩ = some (.int .i64 y.seq) := fun v hv => by
        obtain ⟨y', g', off', e1, e2, e3⟩ := dot_at (HL.out.below hv) k hlt
        rw [hy] at e1
        cases e1
        cases e2
        exact e3
      have hst : Hid ((L.take (k + 1)).foldl (setStep x) ([], false) = setStep x (R, u) y) := by unfold Hid; rw [take_snocI hy, List.foldl_append, hs.out]; rfl
      have hE := eqActor y.dev y.inc x.dev x.inc
      rw [sameA_val] at hE
      have HA := fun w => refAheadAC y.dev y.inc x.dev x.inc w
      have hah : aheadA y.dev y.inc x.dev x.inc = aheadD y x := rfl
      rw [hah] at HA
      have p0 := hS.o1.cell 0 rfl; have p1 := hS.o1.cell 1 rfl
      clear hs hy hah
      cases u with
      | true =>
        cases hsa : sameA y x with
        | true =>
          rw [hsa] at hE
          have h9 := Lib.hid (hst.out.trans (show setStep x (R, true) y = (R, true) by simp [setStep, hsa]))
          clear hst hsa
          go_wp2_with fail
          go_quiet (fail)
          go_wp2_with fail
          refine wp_some (fun v => StS w x b m C R v) (hS.drawn _) ?_
          intro w2 hS2
          have q0 := hS2.o1.cell 0 rfl; have q1 := hS2.o1.cell 1 rfl
          obtain ⟨e0, e1, e2⟩ := hC _ hS2.hB
          go_wp2_with fail
          go_quiet (fail)
          go_wp2
          go_roundw
          case rel => exact ⟨k + 1, m, b, C, R, true, by omega, by omega, (fun h => by first | (cases h; done) | omega), rfl, rfl, by go_num, h9, hS2.drawn _⟩
          case measure => simp [intOf]; omega
        | false =>
          rw [hsa] at hE
          have h9 := Lib.hid (hst.out.trans (show setStep x (R, true) y = (R ++ [y], true) by simp [setStep, hsa]))
          clear hst hsa
          go_wp2_with fail
          go_quiet (fail)
          go_wp2_with fail
          refine wp_some (fun v => StS w x b m C R v) (hS.drawn _) ?_
          intro w2 hS2
          have q0 := hS2.o1.cell 0 rfl; have q1 := hS2.o1.cell 1 rfl
          obtain ⟨e0, e1, e2⟩ := hC _ hS2.hB
          go_wp2_with fail
          go_quiet (fail)
          go_wp2_with (at_builtin; refine wpList_append_row1 encD_len (by decide) encD_one rfl (.tmp 42) (.tmp 47) 22 rfl 33 i0 (.agg #[.int .i64 0, .int .i64 0, .int .i64 0]) 24 Try.underlying22 hi hz0 hz1 hz2 rfl (hS2.drawn _).hZ rfl y rfl rfl (m + 1) rfl (by unfold maxLen; omega) (by omega) (hS2.drawn _).lt ?_; intro b6 C6 w6 hz6 hx6 hg6 hn6; have hS6 := (hS2.drawn _).grown hz6 hx6)
          go_roundw
          case rel => exact ⟨k + 1, m + 1, b6, C6, R ++ [y], true, by omega, by omega, (fun h => by first | (cases h; done) | omega), rfl, rfl, by go_num, h9, hS6⟩
          case measure => simp [intOf]; omega
      | false =>
        have hmk := hmu rfl
        cases hah : aheadD y x with
        | true =>
          have hsa : sameA y x = false := by rw [sameA_no]; rw [aheadD_iff] at hah; omega
          rw [hsa] at hE
          simp only [hah] at HA
          have h9 := Lib.hid (hst.out.trans (show setStep x (R, false) y = (R ++ [y], false) by simp [setStep, hah, hsa]))
          clear hst hah hsa
          go_wp2_with fail
          have hdr : Below wr.heap.size wr wr.drew := (Below.refl _ wr).drew
          have hS9 : ∀ w', Below wr.heap.size wr w' → w'.cell? ⟨w.heap.size, 0, none⟩ = some (.int .i64 x.dev) ∧ w'.cell? ⟨w.heap.size, 1, none⟩ = some (.int .i64 x.inc) ∧ w'.cell? ⟨g, off + k * 3, none⟩ = some (.int .i64 y.dev) ∧ w'.cell? ⟨g, off + k * 3 + 1, none⟩ = some (.int .i64 y.inc) ∧ w'.cell? ⟨g, off + k * 3 + 2, none⟩ = some (.int .i64 y.seq) := fun w' h => ⟨(hS.below h).o1.cell 0 rfl, (hS.below h).o1.cell 1 rfl, hC _ (hS.below h).hB⟩
          go_region_held3 (fun w' => w'.cell? ⟨w.heap.size, 0, none⟩ = some (.int .i64 x.dev) ∧ w'.cell? ⟨w.heap.size, 1, none⟩ = some (.int .i64 x.inc) ∧ w'.cell? ⟨g, off + k * 3, none⟩ = some (.int .i64 y.dev) ∧ w'.cell? ⟨g, off + k * 3 + 1, none⟩ = some (.int .i64 y.inc) ∧ w'.cell? ⟨g, off + k * 3 + 2, none⟩ = some (.int .i64 y.seq))
            (first | exact hS9 _ hdr | exact hS9 _ (hdr.trans hx))
            (first | (go_at_call 49; (with_reducible refine (HA _).mono ?_); rintro e w2 ⟨rfl, hx⟩))
          have hS2 := hS.below (hdr.trans hx)
          clear hS9 hdr hx
          go_wp2_with fail
          have q0 := hS2.o1.cell 0 rfl; have q1 := hS2.o1.cell 1 rfl
          obtain ⟨e0, e1, e2⟩ := hC _ hS2.hB
          go_wp2_with fail
          go_quiet (fail)
          go_wp2_with (at_builtin; refine wpList_append_row1 encD_len (by decide) encD_one rfl (.tmp 42) (.tmp 47) 22 rfl 33 i0 (.agg #[.int .i64 0, .int .i64 0, .int .i64 0]) 24 Try.underlying22 hi hz0 hz1 hz2 rfl (hS2.drawn _).hZ rfl y rfl rfl (m + 1) rfl (by unfold maxLen; omega) (by omega) (hS2.drawn _).lt ?_; intro b6 C6 w6 hz6 hx6 hg6 hn6; have hS6 := (hS2.drawn _).grown hz6 hx6)
          go_roundw
          case rel => exact ⟨k + 1, m + 1, b6, C6, R ++ [y], false, by omega, by omega, (fun h => by first | (cases h; done) | omega), rfl, rfl, by go_num, h9, hS6⟩
          case measure => simp [intOf]; omega
        | false =>
          simp only [hah] at HA
          cases hsa : sameA y x with
          | true =>
            rw [hsa] at hE
            have h9 := Lib.hid (hst.out.trans (show setStep x (R, false) y = (R ++ [x], true) by simp [setStep, hah, hsa]))
            clear hst hah hsa
            go_wp2_with fail
            have hdr : Below wr.heap.size wr wr.drew := (Below.refl _ wr).drew
            have hS9 : ∀ w', Below wr.heap.size wr w' → w'.cell? ⟨w.heap.size, 0, none⟩ = some (.int .i64 x.dev) ∧ w'.cell? ⟨w.heap.size, 1, none⟩ = some (.int .i64 x.inc) ∧ w'.cell? ⟨g, off + k * 3, none⟩ = some (.int .i64 y.dev) ∧ w'.cell? ⟨g, off + k * 3 + 1, none⟩ = some (.int .i64 y.inc) ∧ w'.cell? ⟨g, off + k * 3 + 2, none⟩ = some (.int .i64 y.seq) := fun w' h => ⟨(hS.below h).o1.cell 0 rfl, (hS.below h).o1.cell 1 rfl, hC _ (hS.below h).hB⟩
            go_region_held3 (fun w' => w'.cell? ⟨w.heap.size, 0, none⟩ = some (.int .i64 x.dev) ∧ w'.cell? ⟨w.heap.size, 1, none⟩ = some (.int .i64 x.inc) ∧ w'.cell? ⟨g, off + k * 3, none⟩ = some (.int .i64 y.dev) ∧ w'.cell? ⟨g, off + k * 3 + 1, none⟩ = some (.int .i64 y.inc) ∧ w'.cell? ⟨g, off + k * 3 + 2, none⟩ = some (.int .i64 y.seq))
              (first | exact hS9 _ hdr | exact hS9 _ (hdr.trans hx))
              (first | (go_at_call 49; (with_reducible refine (HA _).mono ?_); rintro e w2 ⟨rfl, hx⟩))
            have hS2 := hS.below (hdr.trans hx)
            clear hS9 hdr hx
            obtain ⟨q0, q1⟩ : _ ∧ _ := ⟨hS2.o1.cell 0 rfl, hS2.o1.cell 1 rfl⟩
            go_wp2_with (at_builtin; refine wpList_append_row1 encD_len (by decide) encD_one rfl (.tmp 29) (.tmp 33) 22 rfl 33 i0 (.agg #[.int .i64 0, .int .i64 0, .int .i64 0]) 24 Try.underlying22 hi hz0 hz1 hz2 rfl hS2.hZ rfl x rfl rfl (m + 1) rfl (by unfold maxLen; omega) (by omega) hS2.lt ?_; intro b3 C3 w3 hz3 hx3 hg3 hn3; have hS3 := hS2.grown hz3 hx3)
            have q0 := hS3.o1.cell 0 rfl; have q1 := hS3.o1.cell 1 rfl
            obtain ⟨e0, e1, e2⟩ := hC _ hS3.hB
            go_wp2_with fail
            go_quiet (fail)
            go_wp2
            go_roundw
            case rel => exact ⟨k + 1, m + 1, b3, C3, R ++ [x], true, by omega, by omega, (fun h => by first | (cases h; done) | omega), rfl, rfl, by go_num, h9, hS3.drawn _⟩
            case measure => simp [intOf]; omega
          | false =>
            rw [hsa] at hE
            have h9 := Lib.hid (hst.out.trans (show setStep x (R, false) y = (R ++ [x] ++ [y], true) by simp [setStep, hah, hsa]))
            clear hst hah hsa
            go_wp2_with fail
            have hdr : Below wr.heap.size wr wr.drew := (Below.refl _ wr).drew
            have hS9 : ∀ w', Below wr.heap.size wr w' → w'.cell? ⟨w.heap.size, 0, none⟩ = some (.int .i64 x.dev) ∧ w'.cell? ⟨w.heap.size, 1, none⟩ = some (.int .i64 x.inc) ∧ w'.cell? ⟨g, off + k * 3, none⟩ = some (.int .i64 y.dev) ∧ w'.cell? ⟨g, off + k * 3 + 1, none⟩ = some (.int .i64 y.inc) ∧ w'.cell? ⟨g, off + k * 3 + 2, none⟩ = some (.int .i64 y.seq) := fun w' h => ⟨(hS.below h).o1.cell 0 rfl, (hS.below h).o1.cell 1 rfl, hC _ (hS.below h).hB⟩
            go_region_held3 (fun w' => w'.cell? ⟨w.heap.size, 0, none⟩ = some (.int .i64 x.dev) ∧ w'.cell? ⟨w.heap.size, 1, none⟩ = some (.int .i64 x.inc) ∧ w'.cell? ⟨g, off + k * 3, none⟩ = some (.int .i64 y.dev) ∧ w'.cell? ⟨g, off + k * 3 + 1, none⟩ = some (.int .i64 y.inc) ∧ w'.cell? ⟨g, off + k * 3 + 2, none⟩ = some (.int .i64 y.seq))
              (first | exact hS9 _ hdr | exact hS9 _ (hdr.trans hx))
              (first | (go_at_call 49; (with_reducible refine (HA _).mono ?_); rintro e w2 ⟨rfl, hx⟩))
            have hS2 := hS.below (hdr.trans hx)
            clear hS9 hdr hx
            obtain ⟨q0, q1⟩ : _ ∧ _ := ⟨hS2.o1.cell 0 rfl, hS2.o1.cell 1 rfl⟩
            go_wp2_with (at_builtin; refine wpList_append_row1 encD_len (by decide) encD_one rfl (.tmp 29) (.tmp 33) 22 rfl 33 i0 (.agg #[.int .i64 0, .int .i64 0, .int .i64 0]) 24 Try.underlying22 hi hz0 hz1 hz2 rfl hS2.hZ rfl x rfl rfl (m + 1) rfl (by unfold maxLen; omega) (by omega) hS2.lt ?_; intro b3 C3 w3 hz3 hx3 hg3 hn3; have hS3 := hS2.grown hz3 hx3)
            have q0 := hS3.o1.cell 0 rfl; have q1 := hS3.o1.cell 1 rfl
            obtain ⟨e0, e1, e2⟩ := hC _ hS3.hB
            go_wp2_with fail
            go_quiet (fail)
            go_wp2_with (at_builtin; refine wpList_append_row1 encD_len (by decide) encD_one rfl (.tmp 42) (.tmp 47) 22 rfl 33 i0 (.agg #[.int .i64 0, .int .i64 0, .int .i64 0]) 24 Try.underlying22 hi hz0 hz1 hz2 rfl (hS3.drawn _).hZ rfl y rfl rfl (m + 1 + 1) rfl (by unfold maxLen; omega) (by omega) (hS3.drawn _).lt ?_; intro b6 C6 w6 hz6 hx6 hg6 hn6; have hS6 := (hS3.drawn _).grown hz6 hx6)
            go_roundw
            case rel => exact ⟨k + 1, m + 1 + 1, b6, C6, R ++ [x] ++ [y], true, by omega, by omega, (fun h => by first | (cases h; done) | omega), rfl, rfl, by go_num, h9, hS6⟩
            case measure => simp [intOf]; omega
    · obtain rfl : k = n := by omega
      have e0 : L.take k = L := List.take_of_length_le (by rw [Hn.out]; exact Nat.le_refl _)
      have hE := hs.out
      rw [e0] at hE
      cases u with
      | true =>
        have e : Hid (setV L x = R) := by unfold Hid setV; rw [hE]; rfl
        clear hs hE
        go_wp2
        go_ret
        exact ⟨b, C, by rw [e.out, hRl]; rfl, by rw [e.out, hRl]; exact hS.hZ.base (Nat.le_succ _), hS.hB⟩
      | false =>
        have e : Hid (setV L x = R ++ [x]) := by unfold Hid setV; rw [hE]; rfl
        have p0 := hS.o1.cell 0 rfl; have p1 := hS.o1.cell 1 rfl
        clear hs hE
        go_wp2_with (at_builtin; refine wpList_append_row1 encD_len (by decide) encD_one rfl (.tmp 51) (.tmp 55) 22 rfl 33 i0 (.agg #[.int .i64 0, .int .i64 0, .int .i64 0]) 24 Try.underlying22 hi hz0 hz1 hz2 rfl hS.hZ rfl x rfl rfl (m + 1) rfl (by unfold maxLen; omega) (by omega) hS.lt ?_; intro b3 C3 w3 hz3 hx3 hg3 hn3; have hS3 := hS.grown hz3 hx3)
        go_ret
        exact ⟨b3, C3, by rw [e.out, List.length_append, hRl]; rfl, by rw [e.out, List.length_append, hRl]; exact hS3.hZ.base (Nat.le_succ _), hS3.hB⟩
end Go.Proofs.Ytcganblfeddjdaa

/- Contracts of the reference of layer 17: raising, taking, having, holding against one another. -/
namespace Go.Proofs.Ytcganblfeddjdaa
open Go.RowKit
set_option linter.unusedVariables false

theorem set_fold_len (x : DotN) : ∀ (l o : List DotN) (u : Bool), (l.foldl (setStep x) (o, u)).1.length + (if (l.foldl (setStep x) (o, u)).2 = true then 0 else 1) ≤ o.length + l.length + (if u = true then 0 else 1)
  | [], o, u => by show o.length + _ ≤ o.length + 0 + _; exact Nat.le_refl _
  | y :: t, o, u => by
    rw [List.foldl_cons]
    cases h : setStep x (o, u) y with
    | mk o2 u2 =>
      have ih := set_fold_len x t o2 u2
      have h2 : o2.length + (if u2 = true then 0 else 1) ≤ o.length + 1 + (if u = true then 0 else 1) := by
        unfold setStep at h
        cases u <;> cases hy : aheadD y x <;> cases hs : sameA y x <;> simp [hy, hs] at h <;> obtain ⟨rfl, rfl⟩ := h <;> simp
      rw [List.length_cons]
      omega
theorem set_len (l : List DotN) (x : DotN) : (setV l x).length ≤ l.length + 1 := by
  have h := set_fold_len x l [] false
  unfold setV
  split
  · rename_i c
    rw [if_pos c] at h
    simpa using h
  · rename_i c
    rw [if_neg c] at h
    simp at h ⊢
    omega

/-- A call's marks, that are read: they may be those that it was given. -/
def GivesV (a0 : Option Addr) (L : List DotN) (t : Bool) (n : Nat) (w : World) (e : Ending) (w' : World) : Prop :=
  ∃ a n' c, e = .returned (.tuple #[.slice a n' c, .bool t]) ∧ RowOf encD 3 w' a n' c L ∧ n' ≤ n + 1 ∧ (∀ k, At a k → At a0 k ∨ (w.heap.size ≤ k ∧ k < w'.heap.size)) ∧ Below w.heap.size w w'

set_option maxRecDepth 100000 in
theorem refRaiseVC (a : Option Addr) (n c : Nat) (L : List DotN) (x : DotN) (w : World) (hL : RowOf encD 3 w a n c L) (hn9 : n ≤ 1000000) :
    Calls Try.prog 10 #[.slice a n c, .agg #[.int .i64 x.dev, .int .i64 x.inc], .int .i64 x.seq] w (GivesV a (raiseV L x).1 (raiseV L x).2 n w) := by
  have o1 := ObjAt.new w #[.int .i64 x.dev, .int .i64 x.inc] 25
  have b1 := below_alloc w (.cells #[.int .i64 x.dev, .int .i64 x.inc] 25)
  generalize hw1 : w.alloc (.cells #[.int .i64 x.dev, .int .i64 x.inc] 25) = w1 at *
  have hL1 := hL.below b1
  have v0 := o1.cell 0 rfl; have v1 := o1.cell 1 rfl
  have HR := fun v => refDRightC x v
  have hlen := set_len L x
  have hleq := hL.leq
  unfold raiseV GivesV
  cases hr : rightD x with
  | false =>
    simp only [hr] at HR
    rw [if_neg (fun h => Bool.false_ne_true h.1)]
    go_enter Try.func10, Try.ntmps10
    go_wp2_with (go_at_call 39; (with_reducible refine (HR _).mono ?_); rintro e w2 ⟨rfl, hx⟩; have hL2 := hL1.below hx; have b2 := b1.trans (hx.mono b1.size))
    go_ret2
    exact ⟨a, n, c, rfl, hL2, Nat.le_succ _, fun k h => .inl h, b2⟩
  | true =>
    simp only [hr] at HR
    have HG := fun v h => refGetVC a n c L x v h
    have HS := fun v h => refSetVC a n c L x v h hn9
    unfold GivesZ at HS
    by_cases hg : getV L x.dev x.inc < x.seq
    · rw [if_pos ⟨rfl, hg⟩]
      have hg1 : ¬ x.seq ≤ getV L x.dev x.inc := by omega
      generalize getV L x.dev x.inc = gv at *
      generalize setV L x = Z at *
      go_enter Try.func10, Try.ntmps10
      go_wp2_with (first
        | (go_at_call 39; (with_reducible refine (HR _).mono ?_); rintro e w2 ⟨rfl, hx⟩; have hL2 := hL1.below hx; have b2 := b1.trans (hx.mono b1.size); have o2 := o1.below hx o1.lt; have u0 := o2.cell 0 rfl; have u1 := o2.cell 1 rfl)
        | (go_at_call 19; (with_reducible refine (HG _ hL2).mono ?_); rintro e w3 ⟨rfl, hx⟩; have hL3 := hL2.below hx; have b3 := b2.trans (hx.mono b2.size); have o3 := o2.below hx o2.lt; have t0 := o3.cell 0 rfl; have t1 := o3.cell 1 rfl)
        | (go_at_call 40; (with_reducible refine (HS _ hL3).mono ?_); rintro e w4 ⟨a4, c4, rfl, hz4, hx⟩; have b4 := b3.trans (hx.mono b3.size)))
      go_ret2
      exact ⟨a4, _, c4, rfl, hz4.row encD_len, by omega, fun k h => .inr ⟨Nat.le_trans b3.size (hz4.lt' k h).1, (hz4.lt' k h).2⟩, b4⟩
    · rw [if_neg (fun h => hg h.2)]
      have hg1 : x.seq ≤ getV L x.dev x.inc := by omega
      generalize getV L x.dev x.inc = gv at *
      go_enter Try.func10, Try.ntmps10
      go_wp2_with (first
        | (go_at_call 39; (with_reducible refine (HR _).mono ?_); rintro e w2 ⟨rfl, hx⟩; have hL2 := hL1.below hx; have b2 := b1.trans (hx.mono b1.size); have o2 := o1.below hx o1.lt; have u0 := o2.cell 0 rfl; have u1 := o2.cell 1 rfl)
        | (go_at_call 19; (with_reducible refine (HG _ hL2).mono ?_); rintro e w3 ⟨rfl, hx⟩; have hL3 := hL2.below hx; have b3 := b2.trans (hx.mono b2.size)))
      go_ret2
      exact ⟨a, n, c, rfl, hL3, Nat.le_succ _, fun k h => .inl h, b3⟩

set_option maxHeartbeats 2000000 in
set_option maxRecDepth 100000 in
theorem refTakeVC (a : Option Addr) (n c : Nat) (L : List DotN) (x : DotN) (w : World) (hL : RowOf encD 3 w a n c L) (hO : OkV L) (hn9 : n ≤ 1000000) :
    Calls Try.prog 11 #[.slice a n c, .agg #[.int .i64 x.dev, .int .i64 x.inc, .int .i64 x.seq]] w (GivesV a (takeV L x).1 (takeV L x).2 n w) := by
  have o1 := ObjAt.new w #[.int .i64 x.dev, .int .i64 x.inc, .int .i64 x.seq] 27
  have b1 := below_alloc w (.cells #[.int .i64 x.dev, .int .i64 x.inc, .int .i64 x.seq] 27)
  generalize hw1 : w.alloc (.cells #[.int .i64 x.dev, .int .i64 x.inc, .int .i64 x.seq] 27) = w1 at *
  have hL1 := hL.below b1
  have v0 := o1.cell 0 rfl; have v1 := o1.cell 1 rfl; have v2 := o1.cell 2 rfl
  have HR := fun v => refDRightC x v
  have hlen := set_len L x
  have hleq := hL.leq
  have hrg := getV_range hO x.dev x.inc
  have hS0 : ∀ w', Below w1.heap.size w1 w' → w'.cell? ⟨w.heap.size, 0, none⟩ = some (.int .i64 x.dev) ∧ w'.cell? ⟨w.heap.size, 1, none⟩ = some (.int .i64 x.inc) ∧ w'.cell? ⟨w.heap.size, 2, none⟩ = some (.int .i64 x.seq) := fun w' h => ⟨(o1.below h o1.lt).cell 0 rfl, (o1.below h o1.lt).cell 1 rfl, (o1.below h o1.lt).cell 2 rfl⟩
  have hB1 : Below w1.heap.size w1 w1.drew := (Below.refl _ w1).drew
  unfold takeV GivesV
  cases hr : rightD x with
  | false =>
    simp only [hr] at HR
    rw [if_neg (fun h => Bool.false_ne_true h.1)]
    go_enter Try.func11, Try.ntmps11
    go_wp2_with fail
    refine wp_region_held_drew (S := fun w' => w'.cell? ⟨w.heap.size, 0, none⟩ = some (.int .i64 x.dev) ∧ w'.cell? ⟨w.heap.size, 1, none⟩ = some (.int .i64 x.inc) ∧ w'.cell? ⟨w.heap.size, 2, none⟩ = some (.int .i64 x.seq)) (by kernel_rfl) (hS0 _ hB1) (fun hHeld => ?_)
    first
      | (refine wpAnyH_take (i := 0) rfl (by kernel_rfl) (by kernel_rfl) (by kernel_rfl) (fun _ _ _ h => h) (Or.inr ⟨by rfl, rfl⟩) (by assumption) ?_)
      | (refine wpAnyH_take (i := 0) (v := ?vax0) rfl (by kernel_rfl) (by kernel_rfl) (by kernel_rfl) (fun _ _ _ h => h) (Or.inl ⟨by rfl, ?hyax0⟩) (by assumption) ?rax0; case hyax0 => (rintro w' ⟨hs0, hs1, hs2⟩; go_simp; try with_reducible rfl))
    try simp only [List.getElem_toArray, List.getElem_cons_zero, Act.put, List.setIfInBounds_toArray, List.set_cons_zero, List.set_cons_succ]
    refine wpAnyH_ready (rs := [1]) (by kernel_rfl) (by simp) ?_
    refine AllReadyH.cons (o := _) rfl (fun K hK => ?_) AllReadyH.nil
    go_simp
    go_at_call 39; (with_reducible refine (HR _).mono ?_); rintro e w2 ⟨rfl, hx⟩; have hB1 := hB1.trans (hx.mono hB1.size); clear hx
    dsimp only
    refine hK.out _ _ (hS0 _ hB1) (fun hHeld => ?_)
    clear hK K
    try simp only [List.getElem_toArray, List.getElem_cons_zero, List.getElem_cons_succ, Act.put, List.setIfInBounds_toArray, List.set_cons_zero, List.set_cons_succ]
    first
      | (refine wpAnyH_take (i := 2) rfl (by kernel_rfl) (by kernel_rfl) (by kernel_rfl) (fun _ _ _ h => h) (Or.inr ⟨by rfl, rfl⟩) (by assumption) ?_)
      | (refine wpAnyH_take (i := 2) (v := ?vax2) rfl (by kernel_rfl) (by kernel_rfl) (by kernel_rfl) (fun _ _ _ h => h) (Or.inl ⟨by rfl, ?hyax2⟩) (by assumption) ?rax2; case hyax2 => (rintro w' ⟨hs0, hs1, hs2⟩; go_simp; try with_reducible rfl))
    try simp only [List.getElem_toArray, List.getElem_cons_zero, List.getElem_cons_succ, Act.put, List.setIfInBounds_toArray, List.set_cons_zero, List.set_cons_succ]
    first
      | (refine wpAnyH_take (i := 3) rfl (by kernel_rfl) (by kernel_rfl) (by kernel_rfl) (fun _ _ _ h => h) (Or.inr ⟨by rfl, rfl⟩) (by assumption) ?_)
      | (refine wpAnyH_take (i := 3) (v := ?vax3) rfl (by kernel_rfl) (by kernel_rfl) (by kernel_rfl) (fun _ _ _ h => h) (Or.inl ⟨by rfl, ?hyax3⟩) (by assumption) ?rax3; case hyax3 => (rintro w' ⟨hs0, hs1, hs2⟩; go_simp; try with_reducible rfl))
    try simp only [List.getElem_toArray, List.getElem_cons_zero, List.getElem_cons_succ, Act.put, List.setIfInBounds_toArray, List.set_cons_zero, List.set_cons_succ]
    first
      | (refine wpAnyH_take (i := 4) rfl (by kernel_rfl) (by kernel_rfl) (by kernel_rfl) (fun _ _ _ h => h) (Or.inr ⟨by rfl, rfl⟩) (by assumption) ?_)
      | (refine wpAnyH_take (i := 4) (v := ?vax4) rfl (by kernel_rfl) (by kernel_rfl) (by kernel_rfl) (fun _ _ _ h => h) (Or.inl ⟨by rfl, ?hyax4⟩) (by assumption) ?rax4; case hyax4 => (rintro w' ⟨hs0, hs1, hs2⟩; go_simp; try with_reducible rfl))
    try simp only [List.getElem_toArray, List.getElem_cons_zero, List.getElem_cons_succ, Act.put, List.setIfInBounds_toArray, List.set_cons_zero, List.set_cons_succ]
    first
      | (refine wpAnyH_take (i := 5) rfl (by kernel_rfl) (by kernel_rfl) (by kernel_rfl) (fun _ _ _ h => h) (Or.inr ⟨by rfl, rfl⟩) (by assumption) ?_)
      | (refine wpAnyH_take (i := 5) (v := ?vax5) rfl (by kernel_rfl) (by kernel_rfl) (by kernel_rfl) (fun _ _ _ h => h) (Or.inl ⟨by rfl, ?hyax5⟩) (by assumption) ?rax5; case hyax5 => (rintro w' ⟨hs0, hs1, hs2⟩; go_simp; try with_reducible rfl))
    try simp only [List.getElem_toArray, List.getElem_cons_zero, List.getElem_cons_succ, Act.put, List.setIfInBounds_toArray, List.set_cons_zero, List.set_cons_succ]
    first
      | (refine wpAnyH_take (i := 6) rfl (by kernel_rfl) (by kernel_rfl) (by kernel_rfl) (fun _ _ _ h => h) (Or.inr ⟨by rfl, rfl⟩) (by assumption) ?_)
      | (refine wpAnyH_take (i := 6) (v := ?vax6) rfl (by kernel_rfl) (by kernel_rfl) (by kernel_rfl) (fun _ _ _ h => h) (Or.inl ⟨by rfl, ?hyax6⟩) (by assumption) ?rax6; case hyax6 => (rintro w' ⟨hs0, hs1, hs2⟩; go_simp; try with_reducible rfl))
    try simp only [List.getElem_toArray, List.getElem_cons_zero, List.getElem_cons_succ, Act.put, List.setIfInBounds_toArray, List.set_cons_zero, List.set_cons_succ]
    first
      | (refine wpAnyH_take (i := 7) rfl (by kernel_rfl) (by kernel_rfl) (by kernel_rfl) (fun _ _ _ h => h) (Or.inr ⟨by rfl, rfl⟩) (by assumption) ?_)
      | (refine wpAnyH_take (i := 7) (v := ?vax7) rfl (by kernel_rfl) (by kernel_rfl) (by kernel_rfl) (fun _ _ _ h => h) (Or.inl ⟨by rfl, ?hyax7⟩) (by assumption) ?rax7; case hyax7 => (rintro w' ⟨hs0, hs1, hs2⟩; go_simp; try with_reducible rfl))
    try simp only [List.getElem_toArray, List.getElem_cons_zero, List.getElem_cons_succ, Act.put, List.setIfInBounds_toArray, List.set_cons_zero, List.set_cons_succ]
    first
      | (refine wpAnyH_take (i := 8) rfl (by kernel_rfl) (by kernel_rfl) (by kernel_rfl) (fun _ _ _ h => h) (Or.inr ⟨by rfl, rfl⟩) (by assumption) ?_)
      | (refine wpAnyH_take (i := 8) (v := ?vax8) rfl (by kernel_rfl) (by kernel_rfl) (by kernel_rfl) (fun _ _ _ h => h) (Or.inl ⟨by rfl, ?hyax8⟩) (by assumption) ?rax8; case hyax8 => (rintro w' ⟨hs0, hs1, hs2⟩; go_simp; try with_reducible rfl))
    try simp only [List.getElem_toArray, List.getElem_cons_zero, List.getElem_cons_succ, Act.put, List.setIfInBounds_toArray, List.set_cons_zero, List.set_cons_succ]
    first
      | (refine wpAnyH_take (i := 9) rfl (by kernel_rfl) (by kernel_rfl) (by kernel_rfl) (fun _ _ _ h => h) (Or.inr ⟨by rfl, rfl⟩) (by assumption) ?_)
      | (refine wpAnyH_take (i := 9) (v := ?vax9) rfl (by kernel_rfl) (by kernel_rfl) (by kernel_rfl) (fun _ _ _ h => h) (Or.inl ⟨by rfl, ?hyax9⟩) (by assumption) ?rax9; case hyax9 => (rintro w' ⟨hs0, hs1, hs2⟩; go_simp; try with_reducible rfl))
    try simp only [List.getElem_toArray, List.getElem_cons_zero, List.getElem_cons_succ, Act.put, List.setIfInBounds_toArray, List.set_cons_zero, List.set_cons_succ]
    first
      | (refine wpAnyH_take (i := 10) rfl (by kernel_rfl) (by kernel_rfl) (by kernel_rfl) (fun _ _ _ h => h) (Or.inr ⟨by rfl, rfl⟩) (by assumption) ?_)
      | (refine wpAnyH_take (i := 10) (v := ?vax10) rfl (by kernel_rfl) (by kernel_rfl) (by kernel_rfl) (fun _ _ _ h => h) (Or.inl ⟨by rfl, ?hyax10⟩) (by assumption) ?rax10; case hyax10 => (rintro w' ⟨hs0, hs1, hs2⟩; go_simp; try with_reducible rfl))
    try simp only [List.getElem_toArray, List.getElem_cons_zero, List.getElem_cons_succ, Act.put, List.setIfInBounds_toArray, List.set_cons_zero, List.set_cons_succ]
    first
      | (refine wpAnyH_take (i := 11) rfl (by kernel_rfl) (by kernel_rfl) (by kernel_rfl) (fun _ _ _ h => h) (Or.inr ⟨by rfl, rfl⟩) (by assumption) ?_)
      | (refine wpAnyH_take (i := 11) (v := ?vax11) rfl (by kernel_rfl) (by kernel_rfl) (by kernel_rfl) (fun _ _ _ h => h) (Or.inl ⟨by rfl, ?hyax11⟩) (by assumption) ?rax11; case hyax11 => (rintro w' ⟨hs0, hs1, hs2⟩; go_simp; try with_reducible rfl))
    try simp only [List.getElem_toArray, List.getElem_cons_zero, List.getElem_cons_succ, Act.put, List.setIfInBounds_toArray, List.set_cons_zero, List.set_cons_succ]
    first
      | (refine wpAnyH_take (i := 12) rfl (by kernel_rfl) (by kernel_rfl) (by kernel_rfl) (fun _ _ _ h => h) (Or.inr ⟨by rfl, rfl⟩) (by assumption) ?_)
      | (refine wpAnyH_take (i := 12) (v := ?vax12) rfl (by kernel_rfl) (by kernel_rfl) (by kernel_rfl) (fun _ _ _ h => h) (Or.inl ⟨by rfl, ?hyax12⟩) (by assumption) ?rax12; case hyax12 => (rintro w' ⟨hs0, hs1, hs2⟩; go_simp; try with_reducible rfl))
    try simp only [List.getElem_toArray, List.getElem_cons_zero, List.getElem_cons_succ, Act.put, List.setIfInBounds_toArray, List.set_cons_zero, List.set_cons_succ]
    refine wpAnyH_done (by kernel_rfl) ?_ _
    all_goals (
      go_wp2
      go_ret2
      exact ⟨a, n, c, rfl, hL1.below hB1, Nat.le_succ _, fun k h => .inl h, b1.trans (hB1.mono b1.size)⟩)
  | true =>
    simp only [hr] at HR
    have HG := fun v h => refGetVC a n c L x v h
    have HS := fun v h => refSetVC a n c L x v h hn9
    unfold GivesZ at HS
    by_cases hg : getV L x.dev x.inc + 1 = x.seq
    · rw [if_pos ⟨rfl, hg⟩]
      generalize getV L x.dev x.inc = gv at *
      have hw64 : IntKind.i64.wrap (gv + 1) = gv + 1 := by rw [IntKind.wrap_i64]; omega
      have hg1 : (gv + 1 != x.seq) = false := by rw [hg]; simp
      clear hg
      generalize setV L x = Z at *
      go_enter Try.func11, Try.ntmps11
      go_wp2_with fail
      go_region_held3 (fun w' => w'.cell? ⟨w.heap.size, 0, none⟩ = some (.int .i64 x.dev) ∧ w'.cell? ⟨w.heap.size, 1, none⟩ = some (.int .i64 x.inc) ∧ w'.cell? ⟨w.heap.size, 2, none⟩ = some (.int .i64 x.seq))
        (first | exact hS0 _ hB1)
        (first
          | (go_at_call 39; (with_reducible refine (HR _).mono ?_); rintro e w2 ⟨rfl, hx⟩; have hB1 := hB1.trans (hx.mono hB1.size); clear hx)
          | (go_at_call 19; (with_reducible refine (HG _ (hL1.below hB1)).mono ?_); rintro e w3 ⟨rfl, hx⟩; have hB1 := hB1.trans (hx.mono hB1.size); clear hx))
      all_goals (
        obtain ⟨u0, u1, u2⟩ := hS0 _ hB1
        go_wp2_with (go_at_call 40; (with_reducible refine (HS _ (hL1.below hB1)).mono ?_); rintro e w4 ⟨a4, c4, rfl, hz4, hx⟩; have b4 := (b1.trans (hB1.mono b1.size)).trans (hx.mono (Nat.le_trans b1.size hB1.size)))
        go_ret2
        exact ⟨a4, _, c4, rfl, hz4.row encD_len, by omega, fun k h => .inr ⟨Nat.le_trans (Nat.le_trans b1.size hB1.size) (hz4.lt' k h).1, (hz4.lt' k h).2⟩, b4⟩)
    · rw [if_neg (fun h => hg h.2)]
      generalize getV L x.dev x.inc = gv at *
      have hw64 : IntKind.i64.wrap (gv + 1) = gv + 1 := by rw [IntKind.wrap_i64]; omega
      have hg1 : (gv + 1 != x.seq) = true := by simp [hg]
      go_enter Try.func11, Try.ntmps11
      go_wp2_with fail
      go_region_held3 (fun w' => w'.cell? ⟨w.heap.size, 0, none⟩ = some (.int .i64 x.dev) ∧ w'.cell? ⟨w.heap.size, 1, none⟩ = some (.int .i64 x.inc) ∧ w'.cell? ⟨w.heap.size, 2, none⟩ = some (.int .i64 x.seq))
        (first | exact hS0 _ hB1)
        (first
          | (go_at_call 39; (with_reducible refine (HR _).mono ?_); rintro e w2 ⟨rfl, hx⟩; have hB1 := hB1.trans (hx.mono hB1.size); clear hx)
          | (go_at_call 19; (with_reducible refine (HG _ (hL1.below hB1)).mono ?_); rintro e w3 ⟨rfl, hx⟩; have hB1 := hB1.trans (hx.mono hB1.size); clear hx))
      all_goals (
        go_wp2
        go_ret2
        exact ⟨a, n, c, rfl, hL1.below hB1, Nat.le_succ _, fun k h => .inl h, b1.trans (hB1.mono b1.size)⟩)

set_option maxRecDepth 100000 in
theorem refHasVC (a : Option Addr) (n c : Nat) (L : List DotN) (x : DotN) (w : World) (hL : RowOf encD 3 w a n c L) :
    Calls Try.prog 17 #[.slice a n c, .agg #[.int .i64 x.dev, .int .i64 x.inc, .int .i64 x.seq]] w fun e w' => e = .returned (.bool (hasV L x)) ∧ Below w.heap.size w w' := by
  have o1 := ObjAt.new w #[.int .i64 x.dev, .int .i64 x.inc, .int .i64 x.seq] 27
  have b1 := below_alloc w (.cells #[.int .i64 x.dev, .int .i64 x.inc, .int .i64 x.seq] 27)
  generalize hw1 : w.alloc (.cells #[.int .i64 x.dev, .int .i64 x.inc, .int .i64 x.seq] 27) = w1 at *
  have hL1 := hL.below b1
  have v0 := o1.cell 0 rfl; have v1 := o1.cell 1 rfl; have v2 := o1.cell 2 rfl
  have HR := fun v => refDRightC x v
  have HG := fun v h => refGetVC a n c L x v h
  have hS0 : ∀ w', Below w1.heap.size w1 w' → w'.cell? ⟨w.heap.size, 0, none⟩ = some (.int .i64 x.dev) ∧ w'.cell? ⟨w.heap.size, 1, none⟩ = some (.int .i64 x.inc) ∧ w'.cell? ⟨w.heap.size, 2, none⟩ = some (.int .i64 x.seq) := fun w' h => ⟨(o1.below h o1.lt).cell 0 rfl, (o1.below h o1.lt).cell 1 rfl, (o1.below h o1.lt).cell 2 rfl⟩
  have hB1 : Below w1.heap.size w1 w1.drew := (Below.refl _ w1).drew
  unfold hasV
  generalize getV L x.dev x.inc = gv at *
  cases hr : rightD x with
  | false =>
    simp only [hr] at HR
    rw [Bool.false_and]
    go_enter Try.func17, Try.ntmps17
    go_wp2_with fail
    refine wp_region_held_drew (S := fun w' => w'.cell? ⟨w.heap.size, 0, none⟩ = some (.int .i64 x.dev) ∧ w'.cell? ⟨w.heap.size, 1, none⟩ = some (.int .i64 x.inc) ∧ w'.cell? ⟨w.heap.size, 2, none⟩ = some (.int .i64 x.seq)) (by kernel_rfl) (hS0 _ hB1) (fun hHeld => ?_)
    first
      | (refine wpAnyH_take (i := 0) rfl (by kernel_rfl) (by kernel_rfl) (by kernel_rfl) (fun _ _ _ h => h) (Or.inr ⟨by rfl, rfl⟩) (by assumption) ?_)
      | (refine wpAnyH_take (i := 0) (v := ?vbx0) rfl (by kernel_rfl) (by kernel_rfl) (by kernel_rfl) (fun _ _ _ h => h) (Or.inl ⟨by rfl, ?hybx0⟩) (by assumption) ?rbx0; case hybx0 => (rintro w' ⟨hs0, hs1, hs2⟩; go_simp; try with_reducible rfl))
    try simp only [List.getElem_toArray, List.getElem_cons_zero, Act.put, List.setIfInBounds_toArray, List.set_cons_zero, List.set_cons_succ]
    refine wpAnyH_ready (rs := [1]) (by kernel_rfl) (by simp) ?_
    refine AllReadyH.cons (o := _) rfl (fun K hK => ?_) AllReadyH.nil
    go_simp
    go_at_call 39; (with_reducible refine (HR _).mono ?_); rintro e w2 ⟨rfl, hx⟩; have hB1 := hB1.trans (hx.mono hB1.size); clear hx
    dsimp only
    refine hK.out _ _ (hS0 _ hB1) (fun hHeld => ?_)
    clear hK K
    try simp only [List.getElem_toArray, List.getElem_cons_zero, List.getElem_cons_succ, Act.put, List.setIfInBounds_toArray, List.set_cons_zero, List.set_cons_succ]
    first
      | (refine wpAnyH_take (i := 2) rfl (by kernel_rfl) (by kernel_rfl) (by kernel_rfl) (fun _ _ _ h => h) (Or.inr ⟨by rfl, rfl⟩) (by assumption) ?_)
      | (refine wpAnyH_take (i := 2) (v := ?vbx2) rfl (by kernel_rfl) (by kernel_rfl) (by kernel_rfl) (fun _ _ _ h => h) (Or.inl ⟨by rfl, ?hybx2⟩) (by assumption) ?rbx2; case hybx2 => (rintro w' ⟨hs0, hs1, hs2⟩; go_simp; try with_reducible rfl))
    try simp only [List.getElem_toArray, List.getElem_cons_zero, List.getElem_cons_succ, Act.put, List.setIfInBounds_toArray, List.set_cons_zero, List.set_cons_succ]
    first
      | (refine wpAnyH_take (i := 3) rfl (by kernel_rfl) (by kernel_rfl) (by kernel_rfl) (fun _ _ _ h => h) (Or.inr ⟨by rfl, rfl⟩) (by assumption) ?_)
      | (refine wpAnyH_take (i := 3) (v := ?vbx3) rfl (by kernel_rfl) (by kernel_rfl) (by kernel_rfl) (fun _ _ _ h => h) (Or.inl ⟨by rfl, ?hybx3⟩) (by assumption) ?rbx3; case hybx3 => (rintro w' ⟨hs0, hs1, hs2⟩; go_simp; try with_reducible rfl))
    try simp only [List.getElem_toArray, List.getElem_cons_zero, List.getElem_cons_succ, Act.put, List.setIfInBounds_toArray, List.set_cons_zero, List.set_cons_succ]
    first
      | (refine wpAnyH_take (i := 4) rfl (by kernel_rfl) (by kernel_rfl) (by kernel_rfl) (fun _ _ _ h => h) (Or.inr ⟨by rfl, rfl⟩) (by assumption) ?_)
      | (refine wpAnyH_take (i := 4) (v := ?vbx4) rfl (by kernel_rfl) (by kernel_rfl) (by kernel_rfl) (fun _ _ _ h => h) (Or.inl ⟨by rfl, ?hybx4⟩) (by assumption) ?rbx4; case hybx4 => (rintro w' ⟨hs0, hs1, hs2⟩; go_simp; try with_reducible rfl))
    try simp only [List.getElem_toArray, List.getElem_cons_zero, List.getElem_cons_succ, Act.put, List.setIfInBounds_toArray, List.set_cons_zero, List.set_cons_succ]
    first
      | (refine wpAnyH_take (i := 5) rfl (by kernel_rfl) (by kernel_rfl) (by kernel_rfl) (fun _ _ _ h => h) (Or.inr ⟨by rfl, rfl⟩) (by assumption) ?_)
      | (refine wpAnyH_take (i := 5) (v := ?vbx5) rfl (by kernel_rfl) (by kernel_rfl) (by kernel_rfl) (fun _ _ _ h => h) (Or.inl ⟨by rfl, ?hybx5⟩) (by assumption) ?rbx5; case hybx5 => (rintro w' ⟨hs0, hs1, hs2⟩; go_simp; try with_reducible rfl))
    try simp only [List.getElem_toArray, List.getElem_cons_zero, List.getElem_cons_succ, Act.put, List.setIfInBounds_toArray, List.set_cons_zero, List.set_cons_succ]
    first
      | (refine wpAnyH_take (i := 6) rfl (by kernel_rfl) (by kernel_rfl) (by kernel_rfl) (fun _ _ _ h => h) (Or.inr ⟨by rfl, rfl⟩) (by assumption) ?_)
      | (refine wpAnyH_take (i := 6) (v := ?vbx6) rfl (by kernel_rfl) (by kernel_rfl) (by kernel_rfl) (fun _ _ _ h => h) (Or.inl ⟨by rfl, ?hybx6⟩) (by assumption) ?rbx6; case hybx6 => (rintro w' ⟨hs0, hs1, hs2⟩; go_simp; try with_reducible rfl))
    try simp only [List.getElem_toArray, List.getElem_cons_zero, List.getElem_cons_succ, Act.put, List.setIfInBounds_toArray, List.set_cons_zero, List.set_cons_succ]
    first
      | (refine wpAnyH_take (i := 7) rfl (by kernel_rfl) (by kernel_rfl) (by kernel_rfl) (fun _ _ _ h => h) (Or.inr ⟨by rfl, rfl⟩) (by assumption) ?_)
      | (refine wpAnyH_take (i := 7) (v := ?vbx7) rfl (by kernel_rfl) (by kernel_rfl) (by kernel_rfl) (fun _ _ _ h => h) (Or.inl ⟨by rfl, ?hybx7⟩) (by assumption) ?rbx7; case hybx7 => (rintro w' ⟨hs0, hs1, hs2⟩; go_simp; try with_reducible rfl))
    try simp only [List.getElem_toArray, List.getElem_cons_zero, List.getElem_cons_succ, Act.put, List.setIfInBounds_toArray, List.set_cons_zero, List.set_cons_succ]
    first
      | (refine wpAnyH_take (i := 8) rfl (by kernel_rfl) (by kernel_rfl) (by kernel_rfl) (fun _ _ _ h => h) (Or.inr ⟨by rfl, rfl⟩) (by assumption) ?_)
      | (refine wpAnyH_take (i := 8) (v := ?vbx8) rfl (by kernel_rfl) (by kernel_rfl) (by kernel_rfl) (fun _ _ _ h => h) (Or.inl ⟨by rfl, ?hybx8⟩) (by assumption) ?rbx8; case hybx8 => (rintro w' ⟨hs0, hs1, hs2⟩; go_simp; try with_reducible rfl))
    try simp only [List.getElem_toArray, List.getElem_cons_zero, List.getElem_cons_succ, Act.put, List.setIfInBounds_toArray, List.set_cons_zero, List.set_cons_succ]
    first
      | (refine wpAnyH_take (i := 9) rfl (by kernel_rfl) (by kernel_rfl) (by kernel_rfl) (fun _ _ _ h => h) (Or.inr ⟨by rfl, rfl⟩) (by assumption) ?_)
      | (refine wpAnyH_take (i := 9) (v := ?vbx9) rfl (by kernel_rfl) (by kernel_rfl) (by kernel_rfl) (fun _ _ _ h => h) (Or.inl ⟨by rfl, ?hybx9⟩) (by assumption) ?rbx9; case hybx9 => (rintro w' ⟨hs0, hs1, hs2⟩; go_simp; try with_reducible rfl))
    try simp only [List.getElem_toArray, List.getElem_cons_zero, List.getElem_cons_succ, Act.put, List.setIfInBounds_toArray, List.set_cons_zero, List.set_cons_succ]
    first
      | (refine wpAnyH_take (i := 10) rfl (by kernel_rfl) (by kernel_rfl) (by kernel_rfl) (fun _ _ _ h => h) (Or.inr ⟨by rfl, rfl⟩) (by assumption) ?_)
      | (refine wpAnyH_take (i := 10) (v := ?vbx10) rfl (by kernel_rfl) (by kernel_rfl) (by kernel_rfl) (fun _ _ _ h => h) (Or.inl ⟨by rfl, ?hybx10⟩) (by assumption) ?rbx10; case hybx10 => (rintro w' ⟨hs0, hs1, hs2⟩; go_simp; try with_reducible rfl))
    try simp only [List.getElem_toArray, List.getElem_cons_zero, List.getElem_cons_succ, Act.put, List.setIfInBounds_toArray, List.set_cons_zero, List.set_cons_succ]
    first
      | (refine wpAnyH_take (i := 11) rfl (by kernel_rfl) (by kernel_rfl) (by kernel_rfl) (fun _ _ _ h => h) (Or.inr ⟨by rfl, rfl⟩) (by assumption) ?_)
      | (refine wpAnyH_take (i := 11) (v := ?vbx11) rfl (by kernel_rfl) (by kernel_rfl) (by kernel_rfl) (fun _ _ _ h => h) (Or.inl ⟨by rfl, ?hybx11⟩) (by assumption) ?rbx11; case hybx11 => (rintro w' ⟨hs0, hs1, hs2⟩; go_simp; try with_reducible rfl))
    try simp only [List.getElem_toArray, List.getElem_cons_zero, List.getElem_cons_succ, Act.put, List.setIfInBounds_toArray, List.set_cons_zero, List.set_cons_succ]
    refine wpAnyH_done (by kernel_rfl) ?_ _
    all_goals (
      go_wp2
      go_ret
      exact ⟨rfl, b1.trans (hB1.mono b1.size)⟩)
  | true =>
    simp only [hr] at HR
    rw [Bool.true_and]
    obtain ⟨t, ht⟩ : ∃ t, decide (x.seq ≤ gv) = t := ⟨_, rfl⟩
    rw [ht]
    go_enter Try.func17, Try.ntmps17
    go_wp2_with fail
    go_region_held3 (fun w' => w'.cell? ⟨w.heap.size, 0, none⟩ = some (.int .i64 x.dev) ∧ w'.cell? ⟨w.heap.size, 1, none⟩ = some (.int .i64 x.inc) ∧ w'.cell? ⟨w.heap.size, 2, none⟩ = some (.int .i64 x.seq))
      (first | exact hS0 _ hB1)
      (first
        | (go_at_call 39; (with_reducible refine (HR _).mono ?_); rintro e w2 ⟨rfl, hx⟩; have hB1 := hB1.trans (hx.mono hB1.size); clear hx)
        | (go_at_call 19; (with_reducible refine (HG _ (hL1.below hB1)).mono ?_); rintro e w3 ⟨rfl, hx⟩; have hB1 := hB1.trans (hx.mono hB1.size); clear hx))
    all_goals (
      go_wp2
      go_ret
      exact ⟨by first | rfl | simp [ht], b1.trans (hB1.mono b1.size)⟩)
end Go.Proofs.Ytcganblfeddjdaa

/- Contracts of the reference of layer 17: the same marks; covering, joining, meeting. -/
namespace Go.Proofs.Ytcganblfeddjdaa
open Go.RowKit
set_option linter.unusedVariables false

set_option maxHeartbeats 1000000 in
set_option maxRecDepth 100000 in
theorem refSameMC (a b : Option Addr) (n m c1 c2 : Nat) (L M : List DotN) (w : World) (hL : RowOf encD 3 w a n c1 L) (hM : RowOf encD 3 w b m c2 M) :
    Calls Try.prog 14 #[.slice a n c1, .slice b m c2] w fun e w' => e = .returned (.bool (sameDs L M)) ∧ ∃ k, w' = w.drewN k := by
  have hn := hL.leq
  have hm := hM.leq
  by_cases hnm : n = m
  · subst hnm
    have hcm := hL.capm
    have hcl := hL.cle
    unfold maxLen at hcm
    have HL := Lib.hid hL
    have HM := Lib.hid hM
    have Hn := Lib.hid hn
    have Hm := Lib.hid hm
    clear hL hM hn hm
    go_enter Try.func14, Try.ntmps14
    go_wp2
    go_loopw [5] (fun i wr => ∃ k q : Nat, k ≤ n ∧ i = .int .i64 (k : Int) ∧ Hid (L.take k = M.take k) ∧ wr = w.drewN q) (fun i _ => n - (intOf i).toNat)
    case atStart => exact ⟨0, 0, Nat.zero_le _, rfl, rfl, rfl⟩
    case round =>
      obtain ⟨k, q, hk, rfl, hs, rfl⟩ := hrel
      by_cases hlt : k < n
      · have hlt' : (k : Int) < (n : Int) := by omega
        obtain ⟨x, g1, o1, hx, rfl, c0, c1, c2⟩ := dot_at HL.out k hlt
        obtain ⟨y, g2, o2, hy, rfl, d0, d1, d2⟩ := dot_at HM.out k hlt
        have hT : Hid (x = y → L.take (k + 1) = M.take (k + 1)) := fun e => by rw [take_snocI hx, take_snocI hy, hs.out, e]
        have hN : Hid (x ≠ y → sameDs L M = false) := fun e => by
          rw [Bool.eq_false_iff]
          intro c
          rw [sameDs_iff] at c
          subst c
          rw [hx] at hy
          exact e (by cases hy; rfl)
        have hE := eqMark x y
        clear hx hy
        by_cases hxy : x = y
        · have h3 := Lib.hid (hT.out hxy)
          rw [sameD_iff.2 hxy] at hE
          clear hT hN hs hxy
          go_wp2_with fail
          go_quiet (fail)
          go_wp2
          go_roundw
          case rel => exact ⟨k + 1, _, by omega, by go_num, h3, by first | rfl | simp⟩
          case measure => simp [intOf]; omega
        · have h2 := Lib.hid (hN.out hxy)
          rw [Bool.eq_false_iff.2 (fun c => hxy (sameD_iff.1 c))] at hE
          clear hT hN hs hxy
          go_wp2_with fail
          go_quiet (fail)
          go_wp2
          go_ret
          exact ⟨by rw [h2.out]; rfl, _, World.drewN_drewN _ _ _⟩
      · obtain rfl : k = n := by omega
        have e : Hid (sameDs L M = true) := by
          have h1 := hs.out
          rw [List.take_of_length_le (by rw [Hn.out]; exact Nat.le_refl _), List.take_of_length_le (by rw [Hm.out]; exact Nat.le_refl _)] at h1
          unfold Hid
          rw [sameDs_iff]
          exact h1
        go_wp2
        go_ret
        exact ⟨by rw [e.out]; rfl, q, rfl⟩
  · have h1 : sameDs L M = false := by
      rw [Bool.eq_false_iff]
      intro c
      rw [sameDs_iff] at c
      subst c
      exact hnm (hn.symm.trans hm)
    have h2 : ¬ (n : Int) = (m : Int) := by omega
    have h3 : ((n : Int) == (m : Int)) = false := beq_eq_false_iff_ne.2 h2
    rw [h1]
    clear hL hM hn hm
    go_enter Try.func14, Try.ntmps14
    go_wp2
    go_ret
    exact ⟨rfl, 0, rfl⟩

theorem covers_drop {L M : List DotN} {k : Nat} {y : DotN} (h : M[k]? = some y) : coversV L (M.drop k) = (decide (y.seq ≤ getV L y.dev y.inc) && coversV L (M.drop (k + 1))) := by
  obtain ⟨hk, rfl⟩ := List.getElem?_eq_some_iff.1 h
  rw [List.drop_eq_getElem_cons hk]
  rfl

set_option maxHeartbeats 1000000 in
set_option maxRecDepth 100000 in
theorem refCoversVC (a b : Option Addr) (n m c1 c2 : Nat) (L M : List DotN) (w : World) (hL : RowOf encD 3 w a n c1 L) (hM : RowOf encD 3 w b m c2 M) :
    Calls Try.prog 25 #[.slice a n c1, .slice b m c2] w fun e w' => e = .returned (.bool (coversV L M)) ∧ Below w.heap.size w w' := by
  have hcm := hM.capm
  have hcl := hM.cle
  have hleq := hM.leq
  unfold maxLen at hcm
  have HL := Lib.hid hL
  have HM := Lib.hid hM
  have Hm := Lib.hid hleq
  have hb0 := Below.refl w.heap.size w
  clear hL hM hleq
  go_enter Try.func25, Try.ntmps25
  go_wp2
  go_loopw [5] (fun i wr => ∃ k : Nat, k ≤ m ∧ i = .int .i64 (k : Int) ∧ Hid (coversV L M = coversV L (M.drop k)) ∧ Below w.heap.size w wr) (fun i _ => m - (intOf i).toNat)
  case atStart => exact ⟨0, Nat.zero_le _, rfl, rfl, hb0⟩
  case round =>
    clear hb0
    obtain ⟨k, hk, rfl, hs, hb⟩ := hrel
    by_cases hlt : k < m
    · have hlt' : (k : Int) < (m : Int) := by omega
      have g1' : decide ((k : Int) < (m : Int)) = true := decide_eq_true hlt'
      have i1 : (0 : Int) ≤ (k : Int) := by omega
      obtain ⟨y, g, off, hy, rfl, d0, d1, d2⟩ := dot_at (HM.out.below hb) k hlt
      have hd := covers_drop (L := L) hy
      have HG := fun v h => refGetVC a n c1 L y v h
      have hS0 : ∀ w', Below wr.heap.size wr w' → w'.cell? ⟨g, off + k * 3, none⟩ = some (.int .i64 y.dev) ∧ w'.cell? ⟨g, off + k * 3 + 1, none⟩ = some (.int .i64 y.inc) ∧ w'.cell? ⟨g, off + k * 3 + 2, none⟩ = some (.int .i64 y.seq) := fun w' h => by
        obtain ⟨y', g', off', e1, e2, e3⟩ := dot_at (HM.out.below (hb.trans (h.mono hb.size))) k hlt
        rw [hy] at e1
        cases e1
        cases e2
        exact e3
      have hB1 : Below wr.heap.size wr wr.drew := (Below.refl _ wr).drew
      have HD := Lib.hid hd
      clear hd hy
      generalize getV L y.dev y.inc = gv at *
      by_cases hg : gv < y.seq
      · have e : Hid (coversV L M = false) := by unfold Hid; rw [hs.out, HD.out, decide_eq_false (by omega)]; rfl
        clear hs HD
        go_wp2_with fail
        go_region_held3 (fun w' => w'.cell? ⟨g, off + k * 3, none⟩ = some (.int .i64 y.dev) ∧ w'.cell? ⟨g, off + k * 3 + 1, none⟩ = some (.int .i64 y.inc) ∧ w'.cell? ⟨g, off + k * 3 + 2, none⟩ = some (.int .i64 y.seq))
          (first | exact hS0 _ hB1)
          (first
            | (go_at_call 19; (with_reducible refine (HG _ (HL.out.below (hb.trans (hB1.mono hb.size)))).mono ?_); rintro e w3 ⟨rfl, hx⟩; have hB1 := hB1.trans (hx.mono hB1.size); clear hx))
        all_goals (
          go_wp2
          go_ret
          exact ⟨by rw [e.out]; rfl, hb.trans (hB1.mono hb.size)⟩)
      · have e : Hid (coversV L M = coversV L (M.drop (k + 1))) := by unfold Hid; rw [hs.out, HD.out, decide_eq_true (by omega)]; rfl
        clear hs HD
        go_wp2_with fail
        go_region_held3 (fun w' => w'.cell? ⟨g, off + k * 3, none⟩ = some (.int .i64 y.dev) ∧ w'.cell? ⟨g, off + k * 3 + 1, none⟩ = some (.int .i64 y.inc) ∧ w'.cell? ⟨g, off + k * 3 + 2, none⟩ = some (.int .i64 y.seq))
          (first | exact hS0 _ hB1)
          (first
            | (go_at_call 19; (with_reducible refine (HG _ (HL.out.below (hb.trans (hB1.mono hb.size)))).mono ?_); rintro e w3 ⟨rfl, hx⟩; have hB1 := hB1.trans (hx.mono hB1.size); clear hx))
        all_goals (
          go_wp2
          go_roundw
          case rel => exact ⟨k + 1, by omega, by go_num, e, hb.trans (hB1.mono hb.size)⟩
          case measure => simp [intOf]; omega)
    · obtain rfl : k = m := by omega
      have e : Hid (coversV L M = true) := by unfold Hid; rw [hs.out, List.drop_of_length_le (by rw [Hm.out]; exact Nat.le_refl _)]; rfl
      go_wp2
      go_ret
      exact ⟨by rw [e.out]; rfl, hb⟩

theorem at_steps {a3 : Option Addr} {j n m k : Nat} {A : Prop} (h3 : At a3 j ∨ (m ≤ j ∧ j < k)) (h : At a3 j → A ∨ (n ≤ j ∧ j < m)) (h1 : n ≤ m) (h2 : m ≤ k) : A ∨ (n ≤ j ∧ j < k) := by
  rcases h3 with h3 | h3
  · rcases h h3 with h4 | h4
    · exact .inl h4
    · exact .inr ⟨h4.1, by omega⟩
  · exact .inr ⟨by omega, h3.2⟩

theorem join_snoc {L M : List DotN} {k : Nat} {y : DotN} (h : M[k]? = some y) : joinV L (M.take (k + 1)) = (raiseV (joinV L (M.take k)) y).1 := by
  rw [take_snocI h]
  unfold joinV
  rw [List.foldl_append]
  rfl

/-- A call's marks alone, that are read. -/
def GivesV1 (a0 : Option Addr) (L : List DotN) (n : Nat) (w : World) (e : Ending) (w' : World) : Prop :=
  ∃ a n' c, e = .returned (.slice a n' c) ∧ RowOf encD 3 w' a n' c L ∧ n' ≤ n ∧ (∀ k, At a k → At a0 k ∨ (w.heap.size ≤ k ∧ k < w'.heap.size)) ∧ Below w.heap.size w w'

set_option maxHeartbeats 1000000 in
set_option maxRecDepth 100000 in
theorem refJoinVC (a b : Option Addr) (n m c1 c2 : Nat) (L M : List DotN) (w : World) (hL : RowOf encD 3 w a n c1 L) (hM : RowOf encD 3 w b m c2 M) (h9 : n + m ≤ 1000000) :
    Calls Try.prog 27 #[.slice a n c1, .slice b m c2] w (GivesV1 a (joinV L M) (n + m) w) := by
  have hcm := hM.capm
  have hcl := hM.cle
  have hleq := hM.leq
  unfold maxLen at hcm
  have HM := Lib.hid hM
  have Hm := Lib.hid hleq
  have hb0 := Below.refl w.heap.size w
  unfold GivesV1
  clear hM hleq
  go_enter Try.func27, Try.ntmps27
  go_wp2
  go_loopw [0, 5] (fun l i wr => ∃ (k n' c' : Nat) (a' : Option Addr) (R : List DotN), k ≤ m ∧ i = .int .i64 (k : Int) ∧ l = .slice a' n' c' ∧ n' ≤ n + k ∧ Hid (joinV L (M.take k) = R) ∧ RowOf encD 3 wr a' n' c' R ∧ (∀ k, At a' k → At a k ∨ (w.heap.size ≤ k ∧ k < wr.heap.size)) ∧ Below w.heap.size w wr) (fun _ i _ => m - (intOf i).toNat)
  case atStart => exact ⟨0, n, c1, a, L, Nat.zero_le _, rfl, rfl, Nat.le_refl _, rfl, hL, fun k h => .inl h, hb0⟩
  case round =>
    clear hb0 hL
    obtain ⟨k, n', c', a', R, hk, rfl, rfl, hn', hs, hR, hat, hb⟩ := hrel
    by_cases hlt : k < m
    · have hlt' : (k : Int) < (m : Int) := by omega
      have g1' : decide ((k : Int) < (m : Int)) = true := decide_eq_true hlt'
      have i1 : (0 : Int) ≤ (k : Int) := by omega
      obtain ⟨y, g, off, hy, rfl, d0, d1, d2⟩ := dot_at (HM.out.below hb) k hlt
      have hd := join_snoc (L := L) hy
      rw [hs.out] at hd
      have HG := fun v h => refRaiseVC a' n' c' R y v h (by omega)
      unfold GivesV at HG
      have hS0 : ∀ w', Below wr.heap.size wr w' → w'.cell? ⟨g, off + k * 3, none⟩ = some (.int .i64 y.dev) ∧ w'.cell? ⟨g, off + k * 3 + 1, none⟩ = some (.int .i64 y.inc) ∧ w'.cell? ⟨g, off + k * 3 + 2, none⟩ = some (.int .i64 y.seq) := fun w' h => by
        obtain ⟨y', g', off', e1, e2, e3⟩ := dot_at (HM.out.below (hb.trans (h.mono hb.size))) k hlt
        rw [hy] at e1
        cases e1
        cases e2
        exact e3
      have hB1 : Below wr.heap.size wr wr.drew := (Below.refl _ wr).drew
      have HD := Lib.hid hd
      obtain ⟨R2, t2, hr2⟩ : ∃ R2 t2, raiseV R y = (R2, t2) := ⟨_, _, rfl⟩
      simp only [hr2] at HG
      clear hd hy hs
      go_wp2_with fail
      go_region_held3 (fun w' => w'.cell? ⟨g, off + k * 3, none⟩ = some (.int .i64 y.dev) ∧ w'.cell? ⟨g, off + k * 3 + 1, none⟩ = some (.int .i64 y.inc) ∧ w'.cell? ⟨g, off + k * 3 + 2, none⟩ = some (.int .i64 y.seq))
        (first | exact hS0 _ hB1)
        (first
          | (go_at_call 10; (with_reducible refine (HG _ (hR.below hB1)).mono ?_); rintro e w3 ⟨a3, n3, c3, rfl, hR3, hn3, hat3, hx⟩; have hsz1 := hB1.size; have hsz2 := hx.size; have hB1 := hB1.trans (hx.mono hB1.size); clear hx))
      all_goals (
        go_wp2
        go_roundw
        case rel => exact ⟨k + 1, n3, c3, a3, R2, by omega, by go_num, rfl, by omega, Lib.hid (by rw [HD.out, hr2]), hR3, (fun j h => at_steps (hat3 j h) (hat j) (by have := hb.size; omega) (by omega)), hb.trans (hB1.mono hb.size)⟩
        case measure => simp [intOf]; omega)
    · obtain rfl : k = m := by omega
      have e0 : M.take k = M := List.take_of_length_le (by rw [Hm.out]; exact Nat.le_refl _)
      have e := hs.out
      rw [e0] at e
      have E := Lib.hid e
      clear e hs
      go_wp2
      go_ret
      exact ⟨a', n', c', rfl, by rw [E.out]; exact hR, hn', hat, hb⟩

theorem meet_snoc {L M : List DotN} {k : Nat} {y : DotN} (h : L[k]? = some y) : meetV (L.take (k + 1)) M = meetV (L.take k) M ++ meetStep M y := by
  rw [take_snocI h]
  unfold meetV
  rw [List.flatMap_append]
  simp

set_option maxHeartbeats 1000000 in
set_option maxRecDepth 100000 in
theorem refMeetVC (a b : Option Addr) (n m c1 c2 : Nat) (L M : List DotN) (w : World) (hL : RowOf encD 3 w a n c1 L) (hM : RowOf encD 3 w b m c2 M) (h9 : n ≤ 1000000) :
    Calls Try.prog 26 #[.slice a n c1, .slice b m c2] w (GivesZ encD 3 33 (meetV L M) (meetV L M).length w) := by
  have hcm := hL.capm
  have hcl := hL.cle
  have hleq := hL.leq
  unfold maxLen at hcm
  obtain ⟨i0, hi, hz0, hz1, hz2⟩ := info_parts infoMark
  have HL := Lib.hid hL
  have HM := Lib.hid hM
  have Hn := Lib.hid hleq
  have hO0 := OwnZ.lit encD 3 33 w
  have hb0 := below_alloc w (.cells #[] 33)
  unfold GivesZ
  clear hM hL hleq
  go_enter Try.func26, Try.ntmps26
  go_wp2
  go_loopw [5, 6] (fun l i wr => ∃ (k m' c' : Nat) (q : Option Addr) (R : List DotN), k ≤ n ∧ m' ≤ k ∧ i = .int .i64 (k : Int) ∧ l = .slice q m' c' ∧ Hid (meetV (L.take k) M = R) ∧ OwnZ encD 3 w.heap.size 33 q m' c' R wr ∧ Below w.heap.size w wr) (fun _ i _ => n - (intOf i).toNat)
  case atStart => exact ⟨0, 0, _, _, [], Nat.zero_le _, Nat.le_refl _, rfl, rfl, rfl, hO0, hb0⟩
  case round =>
    clear hb0 hO0
    obtain ⟨k, m', c', q, R, hk, hmk, rfl, rfl, hs, hO, hb⟩ := hrel
    have hRl : R.length = m' := hO.2.1
    by_cases hlt : k < n
    · have hlt' : (k : Int) < (n : Int) := by omega
      have g1' : decide ((k : Int) < (n : Int)) = true := decide_eq_true hlt'
      have i1 : (0 : Int) ≤ (k : Int) := by omega
      obtain ⟨y, g, off, hy, rfl, d0, d1, d2⟩ := dot_at (HL.out.below hb) k hlt
      have hd := meet_snoc (M := M) hy
      rw [hs.out] at hd
      have HG := fun v h => refGetVC b m c2 M y v h
      have hS0 : ∀ w', Below wr.heap.size wr w' → w'.cell? ⟨g, off + k * 3, none⟩ = some (.int .i64 y.dev) ∧ w'.cell? ⟨g, off + k * 3 + 1, none⟩ = some (.int .i64 y.inc) ∧ w'.cell? ⟨g, off + k * 3 + 2, none⟩ = some (.int .i64 y.seq) := fun w' h => by
        obtain ⟨y', g', off', e1, e2, e3⟩ := dot_at (HL.out.below (hb.trans (h.mono hb.size))) k hlt
        rw [hy] at e1
        cases e1
        cases e2
        exact e3
      have hB1 : Below wr.heap.size wr wr.drew := (Below.refl _ wr).drew
      unfold meetStep at hd
      generalize getV M y.dev y.inc = gv at *
      have HD := Lib.hid hd
      clear hd hy hs
      by_cases hp : 0 < min y.seq gv
      · have e : Hid (meetV (L.take (k + 1)) M = R ++ [⟨y.dev, y.inc, min y.seq gv⟩]) := by unfold Hid; rw [HD.out, if_pos hp]
        obtain ⟨mn, hmn⟩ : ∃ mn, min y.seq gv = mn := ⟨_, rfl⟩
        rw [hmn] at e hp
        clear HD
        go_wp2_with fail
        go_region_held3 (fun w' => w'.cell? ⟨g, off + k * 3, none⟩ = some (.int .i64 y.dev) ∧ w'.cell? ⟨g, off + k * 3 + 1, none⟩ = some (.int .i64 y.inc) ∧ w'.cell? ⟨g, off + k * 3 + 2, none⟩ = some (.int .i64 y.seq))
          (first | exact hS0 _ hB1)
          (first
            | (go_at_call 19; (with_reducible refine (HG _ (HM.out.below (hb.trans (hB1.mono hb.size)))).mono ?_); rintro e w3 ⟨rfl, hx⟩; have hB1 := hB1.trans (hx.mono hB1.size); clear hx))
        all_goals (
          obtain ⟨f0, f1, f2⟩ := hS0 _ hB1
          have hO3 := hO.below hB1 (Nat.le_refl _)
          have hb3 := hb.trans (hB1.mono hb.size)
          go_wp2_with (at_builtin; refine wpList_append_row1 encD_len (by decide) encD_one rfl (.tmp 30) (.tmp 38) 22 rfl 33 i0 (.agg #[.int .i64 0, .int .i64 0, .int .i64 0]) 24 Try.underlying22 hi hz0 hz1 hz2 rfl hO3 rfl ⟨y.dev, y.inc, mn⟩ rfl rfl (m' + 1) rfl (by unfold maxLen; omega) (by omega) hb3.size ?_; intro q4 c4 w4 hO4 hx4 hg4 hn4)
          go_roundw
          case rel => exact ⟨k + 1, m' + 1, c4, q4, _, by omega, by omega, by go_num, rfl, e, hO4, hb3.trans hx4⟩
          case measure => simp [intOf]; omega)
      · have e : Hid (meetV (L.take (k + 1)) M = R) := by unfold Hid; rw [HD.out, if_neg hp, List.append_nil]
        obtain ⟨mn, hmn⟩ : ∃ mn, min y.seq gv = mn := ⟨_, rfl⟩
        rw [hmn] at hp
        clear HD
        go_wp2_with fail
        go_region_held3 (fun w' => w'.cell? ⟨g, off + k * 3, none⟩ = some (.int .i64 y.dev) ∧ w'.cell? ⟨g, off + k * 3 + 1, none⟩ = some (.int .i64 y.inc) ∧ w'.cell? ⟨g, off + k * 3 + 2, none⟩ = some (.int .i64 y.seq))
          (first | exact hS0 _ hB1)
          (first
            | (go_at_call 19; (with_reducible refine (HG _ (HM.out.below (hb.trans (hB1.mono hb.size)))).mono ?_); rintro e w3 ⟨rfl, hx⟩; have hB1 := hB1.trans (hx.mono hB1.size); clear hx))
        all_goals (
          go_wp2
          go_roundw
          case rel => exact ⟨k + 1, m', c', q, R, by omega, by omega, by go_num, rfl, e, hO.below hB1 (Nat.le_refl _), hb.trans (hB1.mono hb.size)⟩
          case measure => simp [intOf]; omega)
    · obtain rfl : k = n := by omega
      have e0 : L.take k = L := List.take_of_length_le (by rw [Hn.out]; exact Nat.le_refl _)
      have e := hs.out
      rw [e0] at e
      have E := Lib.hid e
      clear e hs
      go_wp2
      go_ret
      exact ⟨q, c', by rw [E.out, hRl]; rfl, by rw [E.out, hRl]; exact hO, hb⟩
end Go.Proofs.Ytcganblfeddjdaa

/- Vectors in plain words: which marks may be, and how they are packed. No program in it. -/
namespace Go.Proofs.Ytcganblfeddjdaa
open Go.RowKit
set_option linter.unusedVariables false

/-- Why marks may not be: 4 (ErrRange), 6 (ErrOrder), mark by mark. -/
def chkF : Option DotN → List DotN → Int
  | _, [] => 0
  | pr, y :: t => if rightD y = false then 4 else if (pr.map fun z => aheadD z y) = some false then 6 else chkF (some y) t
def checkV (l : List DotN) : Int := if 4096 < l.length then 3 else chkF none l

theorem chkF_ok : ∀ {l : List DotN} {pr : Option DotN}, chkF pr l = 0 → OkV l ∧ ∀ z, pr = some z → ∀ y ∈ l, aheadD z y = true
  | [], pr, _ => ⟨⟨List.Pairwise.nil, fun x h => by cases h⟩, fun z _ y h => by cases h⟩
  | x :: t, pr, h => by
    unfold chkF at h
    by_cases h1 : rightD x = false
    · rw [if_pos h1] at h
      cases h
    · rw [if_neg h1] at h
      by_cases h2 : (pr.map fun z => aheadD z x) = some false
      · rw [if_pos h2] at h
        cases h
      · rw [if_neg h2] at h
        obtain ⟨ht, hp⟩ := chkF_ok h
        have h3 := hp x rfl
        refine ⟨⟨List.pairwise_cons.2 ⟨h3, ht.ord⟩, fun y hy => ?_⟩, fun z hz y hy => ?_⟩
        · rcases List.mem_cons.1 hy with rfl | hy
          · simpa using h1
          · exact ht.right y hy
        · subst hz
          have hzx : aheadD z x = true := by
            cases hb : aheadD z x with
            | true => rfl
            | false => exact absurd (by rw [Option.map_some, hb]) h2
          rcases List.mem_cons.1 hy with rfl | hy
          · exact hzx
          · have := h3 y hy
            rw [aheadD_iff] at *
            omega
theorem checkV_ok {l : List DotN} (h : checkV l = 0) : OkV l ∧ l.length ≤ 4096 := by
  unfold checkV at h
  split at h
  · cases h
  · exact ⟨(chkF_ok h).1, by omega⟩
theorem chkF_drop {pr : Option DotN} {L : List DotN} {k : Nat} {y : DotN} (h : L[k]? = some y) : chkF pr (L.drop k) = if rightD y = false then 4 else if (pr.map fun z => aheadD z y) = some false then 6 else chkF (some y) (L.drop (k + 1)) := by
  obtain ⟨hk, rfl⟩ := List.getElem?_eq_some_iff.1 h
  rw [List.drop_eq_getElem_cons hk]
  rfl

/-- Marks, packed. -/
def packV (l : List DotN) : List Int := short l.length ++ l.flatMap bytesD
theorem packs_snoc {L : List DotN} {k : Nat} {y : DotN} (h : L[k]? = some y) : (L.take (k + 1)).flatMap bytesD = (L.take k).flatMap bytesD ++ bytesD y := by
  obtain ⟨hk, rfl⟩ := List.getElem?_eq_some_iff.1 h
  rw [List.take_succ_eq_append_getElem hk, List.flatMap_append]
  simp
theorem bytesD_len {x : DotN} (h : rightD x = true) : (bytesD x).length ≤ 30 := by
  have := putD_len x
  unfold putD at this
  rw [if_pos h] at this
  exact this
theorem packs_len : ∀ {l : List DotN}, (∀ x ∈ l, rightD x = true) → (l.flatMap bytesD).length ≤ 30 * l.length
  | [], _ => Nat.zero_le _
  | x :: t, h => by
    have h1 := bytesD_len (h x (List.mem_cons_self ..))
    have h2 := packs_len (l := t) fun y hy => h y (List.mem_cons_of_mem _ hy)
    rw [List.flatMap_cons, List.length_append, List.length_cons]
    omega
end Go.Proofs.Ytcganblfeddjdaa

/- Contracts of the reference of layer 17: which marks may be; marks, packed. -/
namespace Go.Proofs.Ytcganblfeddjdaa
open Go.RowKit
set_option linter.unusedVariables false

def prevV (L : List DotN) (k : Nat) : Option DotN := if k = 0 then none else L[k - 1]?

set_option maxHeartbeats 4000000 in
set_option maxRecDepth 100000 in
theorem refCheckVC (a : Option Addr) (n c : Nat) (L : List DotN) (w : World) (hL : RowOf encD 3 w a n c L) :
    Calls Try.prog 32 #[.slice a n c] w fun e w' => e = .returned (.int .i64 (checkV L)) ∧ Below w.heap.size w w' := by
  have hcm := hL.capm
  have hcl := hL.cle
  have hleq := hL.leq
  unfold maxLen at hcm
  have hb0 := Below.refl w.heap.size w
  by_cases h9 : 4096 < n
  · have h9' : (4096 : Int) < (n : Int) := by omega
    have e : checkV L = 3 := by unfold checkV; rw [if_pos (by omega)]
    rw [e]
    go_enter Try.func32, Try.ntmps32
    go_wp2
    go_ret
    exact ⟨rfl, hb0⟩
  have h9' : ¬ (4096 : Int) < (n : Int) := by omega
  have E : Hid (checkV L = chkF none L) := by unfold Hid checkV; rw [if_neg (by omega)]
  have HL := Lib.hid hL
  have Hn := Lib.hid hleq
  clear hL hleq
  go_enter Try.func32, Try.ntmps32
  go_wp2
  go_loopw [3] (fun i wr => ∃ k : Nat, k ≤ n ∧ i = .int .i64 (k : Int) ∧ Hid (checkV L = chkF (prevV L k) (L.drop k)) ∧ Below w.heap.size w wr) (fun i _ => n - (intOf i).toNat)
  case atStart => exact ⟨0, Nat.zero_le _, rfl, E, hb0⟩
  case round =>
    clear hb0 E
    obtain ⟨k, hk, rfl, hs, hb⟩ := hrel
    by_cases hlt : k < n
    · have hlt' : (k : Int) < (n : Int) := by omega
      have g1' : decide ((k : Int) < (n : Int)) = true := decide_eq_true hlt'
      have i1 : (0 : Int) ≤ (k : Int) := by omega
      obtain ⟨y, g, off, hy, rfl, d0, d1, d2⟩ := dot_at (HL.out.below hb) k hlt
      have hd := chkF_drop (pr := prevV L k) hy
      have HR := fun v => refDRightC y v
      have hS0 : ∀ w', Below wr.heap.size wr w' → w'.cell? ⟨g, off + k * 3, none⟩ = some (.int .i64 y.dev) ∧ w'.cell? ⟨g, off + k * 3 + 1, none⟩ = some (.int .i64 y.inc) ∧ w'.cell? ⟨g, off + k * 3 + 2, none⟩ = some (.int .i64 y.seq) := fun w' h => by
        obtain ⟨y', g', off', e1, e2, e3⟩ := dot_at (HL.out.below (hb.trans (h.mono hb.size))) k hlt
        rw [hy] at e1
        cases e1
        cases e2
        exact e3
      have hB1 : Below wr.heap.size wr wr.drew := (Below.refl _ wr).drew
      have hpn : prevV L (k + 1) = some y := by unfold prevV; rw [if_neg (Nat.succ_ne_zero k)]; exact hy
      cases hr : rightD y with
      | false =>
        have e : Hid (checkV L = 4) := by unfold Hid; rw [hs.out, hd, if_pos hr]
        simp only [hr] at HR
        clear hd hs hr hpn hy
        go_wp2_with fail
        go_region_held3 (fun w' => w'.cell? ⟨g, off + k * 3, none⟩ = some (.int .i64 y.dev) ∧ w'.cell? ⟨g, off + k * 3 + 1, none⟩ = some (.int .i64 y.inc) ∧ w'.cell? ⟨g, off + k * 3 + 2, none⟩ = some (.int .i64 y.seq))
          (first | exact hS0 _ hB1)
          (first
            | (go_at_call 39; (with_reducible refine (HR _).mono ?_); rintro e w3 ⟨rfl, hx⟩; have hB1 := hB1.trans (hx.mono hB1.size); clear hx))
        all_goals (
          go_wp2
          go_ret
          exact ⟨by rw [e.out]; rfl, hb.trans (hB1.mono hb.size)⟩)
      | true =>
        simp only [hr] at HR
        rw [if_neg (by rw [hr]; exact Bool.noConfusion)] at hd
        rcases Nat.eq_zero_or_pos k with h0 | h0
        · have e : Hid (checkV L = chkF (prevV L (k + 1)) (L.drop (k + 1))) := by
            unfold Hid
            have hp0 : prevV L k = none := by unfold prevV; rw [if_pos h0]
            rw [hs.out, hd, hp0, hpn]
            rfl
          subst h0
          simp only [Nat.zero_mul, Nat.add_zero] at hS0 d0 d1 d2
          clear hd hs hr hpn hy
          go_wp2_with fail
          go_region_held3 (fun w' => w'.cell? ⟨g, off, none⟩ = some (.int .i64 y.dev) ∧ w'.cell? ⟨g, off + 1, none⟩ = some (.int .i64 y.inc) ∧ w'.cell? ⟨g, off + 2, none⟩ = some (.int .i64 y.seq))
            (first | exact hS0 _ hB1)
            (first
              | (go_at_call 39; (with_reducible refine (HR _).mono ?_); rintro e w3 ⟨rfl, hx⟩; have hB1 := hB1.trans (hx.mono hB1.size); clear hx))
          all_goals (
            obtain ⟨f0, f1, f2⟩ := hS0 _ hB1
            go_wp2_with fail
            go_quiet (fail)
            go_wp2
            go_roundw
            case rel => exact ⟨0 + 1, by omega, by go_num, e, drawn_below (hb.trans (hB1.mono hb.size)) _⟩
            case measure => simp [intOf]; omega)
        · obtain ⟨j, hjk⟩ : ∃ j, k = j + 1 := ⟨k - 1, by omega⟩
          obtain ⟨z, g2, off2, hz, hgz, z0, z1, z2⟩ := dot_at (HL.out.below hb) j (by omega)
          cases hgz
          have hS1 : ∀ w', Below wr.heap.size wr w' → w'.cell? ⟨g, off + k * 3, none⟩ = some (.int .i64 y.dev) ∧ w'.cell? ⟨g, off + k * 3 + 1, none⟩ = some (.int .i64 y.inc) ∧ w'.cell? ⟨g, off + k * 3 + 2, none⟩ = some (.int .i64 y.seq) ∧ w'.cell? ⟨g, off + j * 3, none⟩ = some (.int .i64 z.dev) ∧ w'.cell? ⟨g, off + j * 3 + 1, none⟩ = some (.int .i64 z.inc) ∧ w'.cell? ⟨g, off + j * 3 + 2, none⟩ = some (.int .i64 z.seq) := fun w' h => by
            obtain ⟨q0, q1, q2⟩ := hS0 w' h
            obtain ⟨y', g', off', e1, e2, e3⟩ := dot_at (HL.out.below (hb.trans (h.mono hb.size))) j (by omega)
            rw [hz] at e1
            cases e1
            cases e2
            exact ⟨q0, q1, q2, e3⟩
          have HA := fun v => refAheadAC z.dev z.inc y.dev y.inc v
          have hah : aheadA z.dev z.inc y.dev y.inc = aheadD z y := rfl
          rw [hah] at HA
          have hp0 : prevV L k = some z := by unfold prevV; rw [if_neg (by omega), hjk]; exact hz
          rw [hp0] at hd
          have hg1 : (0 : Int) < (k : Int) := by omega
          have hg0 : decide ((0 : Int) < (k : Int)) = true := decide_eq_true hg1
          have hj1 : (k : Int) - 1 = (j : Int) := by omega
          have hj4 : wrap64 ((k : Int) - 1) = (j : Int) := by rw [hj1]; unfold wrap64; omega
          have hj2 : IntKind.i64.wrap ((k : Int) - 1) = (j : Int) := by rw [hj1, IntKind.wrap_i64]; omega
          have hj5 : IntKind.i64.wrap (j : Int) = (j : Int) := by rw [IntKind.wrap_i64]; omega
          have hj3 : (j : Int) < (n : Int) := by omega
          have hj0 : (0 : Int) ≤ (j : Int) := by omega
          cases hb2 : aheadD z y with
          | false =>
            have e : Hid (checkV L = 6) := by unfold Hid; rw [hs.out, hp0, hd, Option.map_some, hb2, if_pos rfl]
            simp only [hb2] at HA
            clear hd hs hr hpn hy hz hp0 hb2 hah hjk
            have hg2 : decide (0 < k) = true := decide_eq_true h0
            go_wp2_with fail
            go_region_held3 (fun w' => w'.cell? ⟨g, off + k * 3, none⟩ = some (.int .i64 y.dev) ∧ w'.cell? ⟨g, off + k * 3 + 1, none⟩ = some (.int .i64 y.inc) ∧ w'.cell? ⟨g, off + k * 3 + 2, none⟩ = some (.int .i64 y.seq))
              (first | exact hS0 _ hB1)
              (first
                | (go_at_call 39; (with_reducible refine (HR _).mono ?_); rintro e w3 ⟨rfl, hx⟩; have hB1 := hB1.trans (hx.mono hB1.size); clear hx))
            all_goals (
              obtain ⟨f0, f1, f2, f3, f4, f5⟩ := hS1 _ hB1
              go_wp2_with fail
              have hB1 := hB1.drew
              go_region_held3 (fun w' => w'.cell? ⟨g, off + k * 3, none⟩ = some (.int .i64 y.dev) ∧ w'.cell? ⟨g, off + k * 3 + 1, none⟩ = some (.int .i64 y.inc) ∧ w'.cell? ⟨g, off + k * 3 + 2, none⟩ = some (.int .i64 y.seq) ∧ w'.cell? ⟨g, off + j * 3, none⟩ = some (.int .i64 z.dev) ∧ w'.cell? ⟨g, off + j * 3 + 1, none⟩ = some (.int .i64 z.inc) ∧ w'.cell? ⟨g, off + j * 3 + 2, none⟩ = some (.int .i64 z.seq))
                (first | exact hS1 _ hB1)
                (first
                  | (go_at_call 49; (with_reducible refine (HA _).mono ?_); rintro e w4 ⟨rfl, hx⟩; have hB1 := hB1.trans (hx.mono hB1.size); clear hx))
              all_goals (
                go_wp2
                go_ret
                exact ⟨by rw [e.out]; rfl, hb.trans (hB1.mono hb.size)⟩))
          | true =>
            have e : Hid (checkV L = chkF (prevV L (k + 1)) (L.drop (k + 1))) := by unfold Hid; rw [hs.out, hp0, hd, Option.map_some, hb2, if_neg (fun c => by cases c), hpn]
            simp only [hb2] at HA
            clear hd hs hr hpn hy hz hp0 hb2 hah hjk
            have hg2 : decide (0 < k) = true := decide_eq_true h0
            go_wp2_with fail
            go_region_held3 (fun w' => w'.cell? ⟨g, off + k * 3, none⟩ = some (.int .i64 y.dev) ∧ w'.cell? ⟨g, off + k * 3 + 1, none⟩ = some (.int .i64 y.inc) ∧ w'.cell? ⟨g, off + k * 3 + 2, none⟩ = some (.int .i64 y.seq))
              (first | exact hS0 _ hB1)
              (first
                | (go_at_call 39; (with_reducible refine (HR _).mono ?_); rintro e w3 ⟨rfl, hx⟩; have hB1 := hB1.trans (hx.mono hB1.size); clear hx))
            all_goals (
              obtain ⟨f0, f1, f2, f3, f4, f5⟩ := hS1 _ hB1
              go_wp2_with fail
              have hB1 := hB1.drew
              go_region_held3 (fun w' => w'.cell? ⟨g, off + k * 3, none⟩ = some (.int .i64 y.dev) ∧ w'.cell? ⟨g, off + k * 3 + 1, none⟩ = some (.int .i64 y.inc) ∧ w'.cell? ⟨g, off + k * 3 + 2, none⟩ = some (.int .i64 y.seq) ∧ w'.cell? ⟨g, off + j * 3, none⟩ = some (.int .i64 z.dev) ∧ w'.cell? ⟨g, off + j * 3 + 1, none⟩ = some (.int .i64 z.inc) ∧ w'.cell? ⟨g, off + j * 3 + 2, none⟩ = some (.int .i64 z.seq))
                (first | exact hS1 _ hB1)
                (first
                  | (go_at_call 49; (with_reducible refine (HA _).mono ?_); rintro e w4 ⟨rfl, hx⟩; have hB1 := hB1.trans (hx.mono hB1.size); clear hx))
              all_goals (
                go_wp2
                go_roundw
                case rel => exact ⟨k + 1, by omega, by go_num, e, hb.trans (hB1.mono hb.size)⟩
                case measure => simp [intOf]; omega))
    · obtain rfl : k = n := by omega
      have e : Hid (checkV L = 0) := by unfold Hid; rw [hs.out, List.drop_of_length_le (by rw [Hn.out]; exact Nat.le_refl _)]; rfl
      go_wp2
      go_ret
      exact ⟨by rw [e.out]; rfl, hb⟩
end Go.Proofs.Ytcganblfeddjdaa

/- Contracts of the reference of layer 17: marks, packed. -/
namespace Go.Proofs.Ytcganblfeddjdaa
open Go.RowKit
set_option linter.unusedVariables false

/-- Bytes as a row of elements of one cell. -/
def encB (x : Int) : List Value := [.int .u8 x]
theorem encB_len (x : Int) : (encB x).length = 1 := rfl
theorem encB_one (x : Int) : ∀ u ∈ encB x, u.oneCell' = true := by
  intro u hu
  rw [encB, List.mem_singleton] at hu
  subst hu
  rfl
theorem flat_bytes (P : List Int) : flatC encB P = P.map (Value.int .u8) := by
  induction P with
  | nil => rfl
  | cons x t ih => rw [List.map_cons, ← ih]; rfl
theorem own_bytes {base : Nat} {e : TypeId} {a : Option Addr} {n c : Nat} {P : List Int} {w : World} (h : Owned base e a n c (P.map (Value.int .u8)) w) : OwnZ encB 1 base e a n c P w :=
  ⟨by rw [flat_bytes]; exact h.1, by have := h.len; rwa [List.length_map] at this, h.le, h.capm⟩
theorem bytes_own {base : Nat} {e : TypeId} {a : Option Addr} {n c : Nat} {P : List Int} {w : World} (h : OwnZ encB 1 base e a n c P w) : Owned base e a n c (P.map (Value.int .u8)) w := by
  have h1 := h.1
  rw [flat_bytes] at h1
  obtain ⟨a', c', e1, h2⟩ := owns_open h1
  cases e1
  exact ⟨h1, h2⟩

set_option maxHeartbeats 4000000 in
set_option maxRecDepth 100000 in
theorem refVPutC (a : Option Addr) (n c : Nat) (L : List DotN) (w : World) (hL : RowOf encD 3 w a n c L) (hR : ∀ x ∈ L, rightD x = true) (h9 : n ≤ 5000) :
    Calls Try.prog 37 #[.slice a n c] w (GivesOwned 5 ((packV L).map (Value.int .u8)) (packV L).length w) := by
  have hcm := hL.capm
  have hcl := hL.cle
  have hleq := hL.leq
  unfold maxLen at hcm
  obtain ⟨i0, hi, hz0, hz1, hz2⟩ := info_parts info8
  have HN := fun v => refNumC (short n) n (short n).length v rfl rfl (by omega)
  have hs10 := short_ten n (by omega)
  have HL := Lib.hid hL
  have Hn := Lib.hid hleq
  unfold packV
  rw [hleq]
  clear hL hleq
  obtain ⟨m0, hm0⟩ : ∃ m, (short n).length = m := ⟨_, rfl⟩
  rw [hm0] at HN hs10
  generalize short n = N at *
  have HM0 := Lib.hid hm0
  clear hm0
  unfold GivesOwned
  have hn64 : (n : Int) < 18446744073709551616 := by omega
  go_enter Try.func37, Try.ntmps37
  go_wp2_with (go_at_call 54; (with_reducible refine (HN _).mono ?_); rintro e w1 ⟨a1, c1, rfl, ho1, hb1⟩)
  go_loopw [3, 4] (fun l i wr => ∃ (k m c' : Nat) (q : Option Addr), k ≤ n ∧ m ≤ 10 + 30 * k ∧ i = .int .i64 (k : Int) ∧ l = .slice q m c' ∧ OwnZ encB 1 w.heap.size 5 q m c' (N ++ (L.take k).flatMap bytesD) wr ∧ Below w.heap.size w wr) (fun _ i _ => n - (intOf i).toNat)
  case atStart => exact ⟨0, m0, c1, a1, Nat.zero_le _, by omega, rfl, rfl, by rw [show (L.take 0).flatMap bytesD = [] from rfl, List.append_nil]; exact own_bytes ho1, hb1⟩
  case round =>
    clear ho1 hb1 HN
    obtain ⟨k, m, c', q, hk, hmk, rfl, rfl, hO, hb⟩ := hrel
    by_cases hlt : k < n
    · have hlt' : (k : Int) < (n : Int) := by omega
      have g1' : decide ((k : Int) < (n : Int)) = true := decide_eq_true hlt'
      have i1 : (0 : Int) ≤ (k : Int) := by omega
      obtain ⟨y, g, off, hy, rfl, d0, d1, d2⟩ := dot_at (HL.out.below hb) k hlt
      have hry := hR y (List.mem_of_getElem? hy)
      have hyl := bytesD_len hry
      have HP := fun v => refDPutC y _ v hry rfl
      obtain ⟨d, hd⟩ : ∃ d, (bytesD y).length = d := ⟨_, rfl⟩
      rw [hd] at HP hyl
      have hsn := packs_snoc hy
      have hS0 : ∀ w', Below w.heap.size w w' → w'.cell? ⟨g, off + k * 3, none⟩ = some (.int .i64 y.dev) ∧ w'.cell? ⟨g, off + k * 3 + 1, none⟩ = some (.int .i64 y.inc) ∧ w'.cell? ⟨g, off + k * 3 + 2, none⟩ = some (.int .i64 y.seq) := fun w' h => by
        obtain ⟨y', g', off', e1, e2, e3⟩ := dot_at (HL.out.below h) k hlt
        rw [hy] at e1
        cases e1
        cases e2
        exact e3
      have HSN := Lib.hid hsn
      generalize (L.take k).flatMap bytesD = B at *
      generalize bytesD y = yb at *
      clear hsn hy hry hd
      go_wp2_with fail
      have hOd := hO.below (B := wr.heap.size) (w' := wr.drew) ((Below.refl _ wr).drew) (Nat.le_refl _)
      have hBW := hb.drew
      refine wp_region_held_drew (S := fun w' => w'.cell? ⟨g, off + k * 3, none⟩ = some (.int .i64 y.dev) ∧ w'.cell? ⟨g, off + k * 3 + 1, none⟩ = some (.int .i64 y.inc) ∧ w'.cell? ⟨g, off + k * 3 + 2, none⟩ = some (.int .i64 y.seq)) (by kernel_rfl) (hS0 _ hBW) (fun hHeld => ?_)
      first
        | (refine wpAnyH_take (i := 0) rfl (by kernel_rfl) (by kernel_rfl) (by kernel_rfl) (fun _ _ _ h => h) (Or.inr ⟨by rfl, rfl⟩) (by assumption) ?_)
        | (refine wpAnyH_take (i := 0) (v := ?vp0) rfl (by kernel_rfl) (by kernel_rfl) (by kernel_rfl) (fun _ _ _ h => h) (Or.inl ⟨by rfl, ?hyp0⟩) (by assumption) ?rp0; case hyp0 => (rintro w' ⟨hs0, hs1, hs2⟩; go_simp; try with_reducible rfl))
      try simp only [List.getElem_toArray, List.getElem_cons_zero, Act.put, List.setIfInBounds_toArray, List.set_cons_zero, List.set_cons_succ]
      first
        | (refine wpAnyH_take (i := 1) rfl (by kernel_rfl) (by kernel_rfl) (by kernel_rfl) (fun _ _ _ h => h) (Or.inr ⟨by rfl, rfl⟩) (by assumption) ?_)
        | (refine wpAnyH_take (i := 1) (v := ?vp1) rfl (by kernel_rfl) (by kernel_rfl) (by kernel_rfl) (fun _ _ _ h => h) (Or.inl ⟨by rfl, ?hyp1⟩) (by assumption) ?rp1; case hyp1 => (rintro w' ⟨hs0, hs1, hs2⟩; go_simp; try with_reducible rfl))
      try simp only [List.getElem_toArray, List.getElem_cons_zero, List.getElem_cons_succ, Act.put, List.setIfInBounds_toArray, List.set_cons_zero, List.set_cons_succ]
      first
        | (refine wpAnyH_take (i := 2) rfl (by kernel_rfl) (by kernel_rfl) (by kernel_rfl) (fun _ _ _ h => h) (Or.inr ⟨by rfl, rfl⟩) (by assumption) ?_)
        | (refine wpAnyH_take (i := 2) (v := ?vp2) rfl (by kernel_rfl) (by kernel_rfl) (by kernel_rfl) (fun _ _ _ h => h) (Or.inl ⟨by rfl, ?hyp2⟩) (by assumption) ?rp2; case hyp2 => (rintro w' ⟨hs0, hs1, hs2⟩; go_simp; try with_reducible rfl))
      try simp only [List.getElem_toArray, List.getElem_cons_zero, List.getElem_cons_succ, Act.put, List.setIfInBounds_toArray, List.set_cons_zero, List.set_cons_succ]
      first
        | (refine wpAnyH_take (i := 3) rfl (by kernel_rfl) (by kernel_rfl) (by kernel_rfl) (fun _ _ _ h => h) (Or.inr ⟨by rfl, rfl⟩) (by assumption) ?_)
        | (refine wpAnyH_take (i := 3) (v := ?vp3) rfl (by kernel_rfl) (by kernel_rfl) (by kernel_rfl) (fun _ _ _ h => h) (Or.inl ⟨by rfl, ?hyp3⟩) (by assumption) ?rp3; case hyp3 => (rintro w' ⟨hs0, hs1, hs2⟩; go_simp; try with_reducible rfl))
      try simp only [List.getElem_toArray, List.getElem_cons_zero, List.getElem_cons_succ, Act.put, List.setIfInBounds_toArray, List.set_cons_zero, List.set_cons_succ]
      first
        | (refine wpAnyH_take (i := 4) rfl (by kernel_rfl) (by kernel_rfl) (by kernel_rfl) (fun _ _ _ h => h) (Or.inr ⟨by rfl, rfl⟩) (by assumption) ?_)
        | (refine wpAnyH_take (i := 4) (v := ?vp4) rfl (by kernel_rfl) (by kernel_rfl) (by kernel_rfl) (fun _ _ _ h => h) (Or.inl ⟨by rfl, ?hyp4⟩) (by assumption) ?rp4; case hyp4 => (rintro w' ⟨hs0, hs1, hs2⟩; go_simp; try with_reducible rfl))
      try simp only [List.getElem_toArray, List.getElem_cons_zero, List.getElem_cons_succ, Act.put, List.setIfInBounds_toArray, List.set_cons_zero, List.set_cons_succ]
      first
        | (refine wpAnyH_take (i := 5) rfl (by kernel_rfl) (by kernel_rfl) (by kernel_rfl) (fun _ _ _ h => h) (Or.inr ⟨by rfl, rfl⟩) (by assumption) ?_)
        | (refine wpAnyH_take (i := 5) (v := ?vp5) rfl (by kernel_rfl) (by kernel_rfl) (by kernel_rfl) (fun _ _ _ h => h) (Or.inl ⟨by rfl, ?hyp5⟩) (by assumption) ?rp5; case hyp5 => (rintro w' ⟨hs0, hs1, hs2⟩; go_simp; try with_reducible rfl))
      try simp only [List.getElem_toArray, List.getElem_cons_zero, List.getElem_cons_succ, Act.put, List.setIfInBounds_toArray, List.set_cons_zero, List.set_cons_succ]
      first
        | (refine wpAnyH_take (i := 6) rfl (by kernel_rfl) (by kernel_rfl) (by kernel_rfl) (fun _ _ _ h => h) (Or.inr ⟨by rfl, rfl⟩) (by assumption) ?_)
        | (refine wpAnyH_take (i := 6) (v := ?vp6) rfl (by kernel_rfl) (by kernel_rfl) (by kernel_rfl) (fun _ _ _ h => h) (Or.inl ⟨by rfl, ?hyp6⟩) (by assumption) ?rp6; case hyp6 => (rintro w' ⟨hs0, hs1, hs2⟩; go_simp; try with_reducible rfl))
      try simp only [List.getElem_toArray, List.getElem_cons_zero, List.getElem_cons_succ, Act.put, List.setIfInBounds_toArray, List.set_cons_zero, List.set_cons_succ]
      first
        | (refine wpAnyH_take (i := 7) rfl (by kernel_rfl) (by kernel_rfl) (by kernel_rfl) (fun _ _ _ h => h) (Or.inr ⟨by rfl, rfl⟩) (by assumption) ?_)
        | (refine wpAnyH_take (i := 7) (v := ?vp7) rfl (by kernel_rfl) (by kernel_rfl) (by kernel_rfl) (fun _ _ _ h => h) (Or.inl ⟨by rfl, ?hyp7⟩) (by assumption) ?rp7; case hyp7 => (rintro w' ⟨hs0, hs1, hs2⟩; go_simp; try with_reducible rfl))
      try simp only [List.getElem_toArray, List.getElem_cons_zero, List.getElem_cons_succ, Act.put, List.setIfInBounds_toArray, List.set_cons_zero, List.set_cons_succ]
      first
        | (refine wpAnyH_take (i := 8) rfl (by kernel_rfl) (by kernel_rfl) (by kernel_rfl) (fun _ _ _ h => h) (Or.inr ⟨by rfl, rfl⟩) (by assumption) ?_)
        | (refine wpAnyH_take (i := 8) (v := ?vp8) rfl (by kernel_rfl) (by kernel_rfl) (by kernel_rfl) (fun _ _ _ h => h) (Or.inl ⟨by rfl, ?hyp8⟩) (by assumption) ?rp8; case hyp8 => (rintro w' ⟨hs0, hs1, hs2⟩; go_simp; try with_reducible rfl))
      try simp only [List.getElem_toArray, List.getElem_cons_zero, List.getElem_cons_succ, Act.put, List.setIfInBounds_toArray, List.set_cons_zero, List.set_cons_succ]
      first
        | (refine wpAnyH_take (i := 9) rfl (by kernel_rfl) (by kernel_rfl) (by kernel_rfl) (fun _ _ _ h => h) (Or.inr ⟨by rfl, rfl⟩) (by assumption) ?_)
        | (refine wpAnyH_take (i := 9) (v := ?vp9) rfl (by kernel_rfl) (by kernel_rfl) (by kernel_rfl) (fun _ _ _ h => h) (Or.inl ⟨by rfl, ?hyp9⟩) (by assumption) ?rp9; case hyp9 => (rintro w' ⟨hs0, hs1, hs2⟩; go_simp; try with_reducible rfl))
      try simp only [List.getElem_toArray, List.getElem_cons_zero, List.getElem_cons_succ, Act.put, List.setIfInBounds_toArray, List.set_cons_zero, List.set_cons_succ]
      first
        | (refine wpAnyH_take (i := 10) rfl (by kernel_rfl) (by kernel_rfl) (by kernel_rfl) (fun _ _ _ h => h) (Or.inr ⟨by rfl, rfl⟩) (by assumption) ?_)
        | (refine wpAnyH_take (i := 10) (v := ?vp10) rfl (by kernel_rfl) (by kernel_rfl) (by kernel_rfl) (fun _ _ _ h => h) (Or.inl ⟨by rfl, ?hyp10⟩) (by assumption) ?rp10; case hyp10 => (rintro w' ⟨hs0, hs1, hs2⟩; go_simp; try with_reducible rfl))
      try simp only [List.getElem_toArray, List.getElem_cons_zero, List.getElem_cons_succ, Act.put, List.setIfInBounds_toArray, List.set_cons_zero, List.set_cons_succ]
      first
        | (refine wpAnyH_take (i := 11) rfl (by kernel_rfl) (by kernel_rfl) (by kernel_rfl) (fun _ _ _ h => h) (Or.inr ⟨by rfl, rfl⟩) (by assumption) ?_)
        | (refine wpAnyH_take (i := 11) (v := ?vp11) rfl (by kernel_rfl) (by kernel_rfl) (by kernel_rfl) (fun _ _ _ h => h) (Or.inl ⟨by rfl, ?hyp11⟩) (by assumption) ?rp11; case hyp11 => (rintro w' ⟨hs0, hs1, hs2⟩; go_simp; try with_reducible rfl))
      try simp only [List.getElem_toArray, List.getElem_cons_zero, List.getElem_cons_succ, Act.put, List.setIfInBounds_toArray, List.set_cons_zero, List.set_cons_succ]
      refine wpAnyH_ready (rs := [12]) (by kernel_rfl) (by simp) ?_
      refine AllReadyH.cons (o := _) rfl (fun K hK => ?_) AllReadyH.nil
      go_simp
      go_at_call 55; (with_reducible refine (HP _).mono ?_); rintro e w4 ⟨a4, c4, rfl, ho4, hx4⟩; have hO4 := hOd.below hx4 (Nat.le_refl _); have hr4 := (own_bytes ho4).row encB_len; have hBW := hBW.trans (hx4.mono hBW.size)
      dsimp only
      refine hK.out _ _ (hS0 _ hBW) (fun hHeld => ?_)
      clear hK K
      try simp only [List.getElem_toArray, List.getElem_cons_zero, List.getElem_cons_succ, Act.put, List.setIfInBounds_toArray, List.set_cons_zero, List.set_cons_succ]
      refine wpAnyH_ready (rs := [13]) (by kernel_rfl) (by simp) ?_
      refine AllReadyH.cons (o := _) rfl (fun K hK => ?_) AllReadyH.nil
      refine step_append_rows encB_len (by decide) encB_one (by rfl) (.tmp 15) (.tmp 27) 55 (by rfl) 5 i0 (.int .u8 0) 1 Try.underlying55 hi hz0 hz1 hz2 rfl hO4 rfl hr4 rfl (m + d) rfl (by unfold maxLen; omega) (by omega) hBW.size ?_; intro a5 c5 w5 hO5 hx5 hg5 hn5; have hBW := hBW.trans hx5
      refine hK.out _ _ (hS0 _ hBW) (fun hHeld => ?_)
      clear hK K
      try simp only [List.getElem_toArray, List.getElem_cons_zero, List.getElem_cons_succ, Act.put, List.setIfInBounds_toArray, List.set_cons_zero, List.set_cons_succ]
      first
        | (refine wpAnyH_take (i := 14) rfl (by kernel_rfl) (by kernel_rfl) (by kernel_rfl) (fun _ _ _ h => h) (Or.inr ⟨by rfl, rfl⟩) (by assumption) ?_)
        | (refine wpAnyH_take (i := 14) (v := ?vp14) rfl (by kernel_rfl) (by kernel_rfl) (by kernel_rfl) (fun _ _ _ h => h) (Or.inl ⟨by rfl, ?hyp14⟩) (by assumption) ?rp14; case hyp14 => (rintro w' ⟨hs0, hs1, hs2⟩; go_simp; try with_reducible rfl))
      try simp only [List.getElem_toArray, List.getElem_cons_zero, List.getElem_cons_succ, Act.put, List.setIfInBounds_toArray, List.set_cons_zero, List.set_cons_succ]
      refine wpAnyH_done (by kernel_rfl) ?_ _
      go_wp2
      go_roundw
      case rel => exact ⟨k + 1, m + d, c5, a5, by omega, by omega, by go_num, rfl, by rw [HSN.out, ← List.append_assoc]; exact hO5, hBW⟩
      case measure => simp [intOf]; omega
    · obtain rfl : k = n := by omega
      have e0 : L.take k = L := List.take_of_length_le (by rw [Hn.out]; exact Nat.le_refl _)
      rw [e0] at hO
      have hlen := hO.2.1
      have HLE := Lib.hid hlen
      have hOb := bytes_own hO
      clear hlen hO e0
      go_wp2
      go_ret
      exact ⟨q, c', by rw [HLE.out]; rfl, by rw [HLE.out]; exact hOb, hb⟩
end Go.Proofs.Ytcganblfeddjdaa

/- Actors as keys of maps. -/
namespace Go.Proofs.Ytcganblfeddjdaa
open Go.RowKit Go.WideMaps
set_option linter.unusedVariables false

theorem laidOutA : laidOutB Try.prog = true := by kernel_rfl
theorem lawActor : KeyLaw Try.prog 25 := deep_law_laid laidOutA (m := 4) (by omega) (of_decide_eq_true (by kernel_rfl)) (by kernel_rfl) (by kernel_rfl)
theorem keyedActor : Go.Maps.Keyed Try.prog 25 := Go.Maps.Keyed.of_law lawActor

/-- What an actor reads as, as a key. -/
def keyA (d i : Int) : Lit := .string (keyBytes [.int .i64 d, .int .i64 i])
theorem is64_wf {n : Int} : is64 n ↔ (Lit.int .i64 n).wf = true := by
  show (IntKind.i64.min ≤ n ∧ n ≤ IntKind.i64.max) ↔ _
  simp only [Lit.wf, Bool.and_eq_true, decide_eq_true_eq]

set_option maxRecDepth 100000 in
theorem key_actor {d i : Int} (hd : is64 d) (hi : is64 i) : keyOf Try.prog 25 (.agg #[.int .i64 d, .int .i64 i]) = some (keyA d i) := by
  have w1 := is64_wf.1 hd
  have w2 := is64_wf.1 hi
  have hk : Try.prog.keyType 25 = true := by kernel_rfl
  obtain ⟨m, hm⟩ : ∃ m, Try.prog.types.size = m + 1 := ⟨Try.prog.types.size - 1, by kernel_rfl⟩
  have hc2 : Try.prog.cellsOf 25 = 2 := by kernel_rfl
  have hc3 : Try.prog.cellsOf 3 = 1 := by kernel_rfl
  have hf : (Value.agg #[.int .i64 d, .int .i64 i]).formed Try.prog 25 = true := by simp [Value.formed, Try.underlying25, hc2]
  have hl : Try.prog.keyLits (Try.prog.types.size + 1) 25 [.int .i64 d, .int .i64 i] = some [.int .i64 d, .int .i64 i] := by
    rw [hm]
    simp [Program.keyLits, Try.underlying25, Try.underlying3, hc2, hc3, w1, w2]
  unfold keyOf
  rw [Try.underlying25]
  simp only [hk, hf]
  show Option.map _ (Try.prog.keyLits _ _ [.int .i64 d, .int .i64 i]) = _
  rw [hl]
  rfl

theorem keyA_inj {d i e j : Int} (hd : is64 d) (hi : is64 i) (he : is64 e) (hj : is64 j) (h : keyA d i = keyA e j) : d = e ∧ i = j := by
  have e := keyedActor.inj (key_actor hd hi) (h ▸ key_actor he hj)
  simpa only [Value.agg.injEq, Array.mk.injEq, List.cons.injEq, Value.int.injEq, true_and, and_true] using e

set_option maxRecDepth 100000 in
/-- What reads as an actor's key is an actor. -/
theorem key_actor_inv {key : Value} {kl : Lit} (h : keyOf Try.prog 25 key = some kl) : ∃ d i, is64 d ∧ is64 i ∧ key = .agg #[.int .i64 d, .int .i64 i] ∧ kl = keyA d i := by
  obtain ⟨m, hm⟩ : ∃ m, Try.prog.types.size = m + 1 := ⟨Try.prog.types.size - 1, by kernel_rfl⟩
  have hc2 : Try.prog.cellsOf 25 = 2 := by kernel_rfl
  have hc3 : Try.prog.cellsOf 3 = 1 := by kernel_rfl
  have h0 := h
  unfold keyOf at h
  rw [Try.underlying25] at h
  dsimp only at h
  split at h
  case isFalse => cases h
  case isTrue hh =>
    rw [Bool.and_eq_true] at hh
    have hf := hh.2
    cases key
    case agg cs =>
      obtain ⟨l⟩ := cs
      have hs : l.length = 2 := by simpa [Value.formed, Try.underlying25, hc2] using hf
      match l, hs with
      | [x, y], _ =>
        cases hl : Try.prog.keyLits (Try.prog.types.size + 1) 25 (Value.agg #[x, y]).cells.toList with
        | none => rw [hl] at h; cases h
        | some ls =>
          rw [hm] at hl
          have hxy : ∃ d i, is64 d ∧ is64 i ∧ x = .int .i64 d ∧ y = .int .i64 i := by
            simp only [is64_wf]
            clear h h0 hh hf
            cases x with
            | int q1 n1 =>
              by_cases a1 : q1 = .i64 ∧ (Lit.int .i64 n1).wf = true
              · cases y with
                | int q2 n2 =>
                  by_cases a2 : q2 = .i64 ∧ (Lit.int .i64 n2).wf = true
                  · exact ⟨n1, n2, a1.2, a2.2, by rw [a1.1], by rw [a2.1]⟩
                  · exfalso; simp [Program.keyLits, Value.cells, Try.underlying25, Try.underlying3, hc2, hc3, a1, a2] at hl
                | _ => exfalso; simp [Program.keyLits, Value.cells, Try.underlying25, Try.underlying3, hc2, hc3, a1] at hl
              · exfalso; simp [Program.keyLits, Value.cells, Try.underlying25, Try.underlying3, hc2, hc3, a1] at hl
            | _ => exfalso; simp [Program.keyLits, Value.cells, Try.underlying25, Try.underlying3, hc2, hc3] at hl
          obtain ⟨d, i, hd, hi, rfl, rfl⟩ := hxy
          refine ⟨d, i, hd, hi, rfl, ?_⟩
          rw [key_actor hd hi] at h0
          exact (Option.some.inj h0).symm
    all_goals simp [Value.formed, Try.underlying25] at hf
end Go.Proofs.Ytcganblfeddjdaa

/- Vectors in plain words: in whatever order numbers are raised; how many marks there may be. No program in it. -/
namespace Go.Proofs.Ytcganblfeddjdaa
open Go.RowKit
set_option linter.unusedVariables false

theorem ahead_irrefl (x : DotN) : aheadD x x = false := by rw [aheadD_no]; omega
theorem OrdV.nodup {l : List DotN} (h : OrdV l) : l.Nodup := List.Pairwise.imp (fun {x y} hxy e => by subst e; rw [ahead_irrefl] at hxy; cases hxy) h

/-- How many marks there may be. -/
theorem ordV_most : ∀ (l : List DotN) (lo : Int), OrdV l → (∀ x ∈ l, rightD x = true) → (∀ x ∈ l, lo ≤ x.dev * 1048576 + x.inc - 1) → lo ≤ 67108864 → lo + (l.length : Int) ≤ 67108864
  | [], lo, _, _, _, h => by simpa using h
  | x :: t, lo, ho, hr, hl, h => by
    obtain ⟨h1, h2⟩ := List.pairwise_cons.1 ho
    have hx := right_range (hr x (List.mem_cons_self ..))
    have hlx := hl x (List.mem_cons_self ..)
    have := ordV_most t (x.dev * 1048576 + x.inc) h2 (fun y hy => hr y (List.mem_cons_of_mem _ hy)) (fun y hy => by
      have a := h1 y hy
      have hy := right_range (hr y (List.mem_cons_of_mem _ hy))
      rw [aheadD_iff] at a
      omega) (by omega)
    rw [List.length_cons]
    omega
theorem OkV.most {l : List DotN} (h : OkV l) : l.length ≤ 67108864 := by
  have := ordV_most l 0 h.ord h.right (fun x hx => by have := right_range (h.right x hx); omega) (by omega)
  omega

theorem set_count {l : List DotN} (h : OkV l) (x : DotN) : l.length + (if getV l x.dev x.inc = 0 then 1 else 0) ≤ (setV l x).length := by
  rw [set_is h.ord]
  have key : ∀ (l : List DotN), OkV l → l.length + (if getV l x.dev x.inc = 0 then 1 else 0) ≤ (l.filter (fun y => aheadD y x)).length + (l.filter (fun y => aheadD x y)).length + 1 := by
    intro l
    induction l with
    | nil => intro _; simp [getV]
    | cons y t ih =>
      intro h
      obtain ⟨h1, h2⟩ := List.pairwise_cons.1 h.ord
      have hy := right_range (h.right y (List.mem_cons_self ..))
      have := ih ⟨h2, fun z hz => h.right z (List.mem_cons_of_mem _ hz)⟩
      unfold getV
      by_cases c : y.dev = x.dev ∧ y.inc = x.inc
      · have e : getV t x.dev x.inc = 0 := getV_none fun z hz c2 => by
          have := h1 z hz
          rw [aheadD_iff] at this
          omega
        have a1 : aheadD y x = false := by rw [aheadD_no]; omega
        have a2 : aheadD x y = false := by rw [aheadD_no]; omega
        rw [if_pos c, if_neg (by omega), List.filter_cons_of_neg (by simp [a1]), List.filter_cons_of_neg (by simp [a2]), List.length_cons]
        rw [e, if_pos rfl] at this
        omega
      · rw [if_neg c, List.length_cons]
        by_cases a1 : aheadD y x = true
        · have e1 : (y :: t).filter (fun y => aheadD y x) = y :: t.filter (fun y => aheadD y x) := List.filter_cons_of_pos a1
          have : (t.filter (fun y => aheadD x y)).length ≤ ((y :: t).filter (fun y => aheadD x y)).length := by
            rw [List.filter_cons]; split
            · exact Nat.le_succ _
            · exact Nat.le_refl _
          rw [e1, List.length_cons]
          omega
        · have a2 : aheadD x y = true := by
            rw [Bool.not_eq_true, aheadD_no] at a1
            rw [aheadD_iff]
            omega
          have e1 : (y :: t).filter (fun y => aheadD y x) = t.filter (fun y => aheadD y x) := List.filter_cons_of_neg (by simpa using a1)
          have e2 : (y :: t).filter (fun y => aheadD x y) = y :: t.filter (fun y => aheadD x y) := List.filter_cons_of_pos a2
          rw [e1, e2, List.length_cons]
          omega
  have := key l h
  rw [List.length_append, List.length_cons]
  omega

/-- What is joined, number by number: in whatever order. -/
theorem join_le {l R : List DotN} : OkV l → OkV (joinV l R) ∧ ∀ n d i, n ≤ getV (joinV l R) d i ↔ n ≤ getV l d i ∨ ∃ x ∈ R, rightD x = true ∧ x.dev = d ∧ x.inc = i ∧ n ≤ x.seq := by
  induction R generalizing l with
  | nil => exact fun h => ⟨h, fun n d i => by simp [joinV]⟩
  | cons y t ih =>
    intro h
    obtain ⟨h1, h2⟩ := ih (raise_ok h y)
    have e : joinV l (y :: t) = joinV (raiseV l y).1 t := rfl
    rw [e]
    refine ⟨h1, fun n d i => ?_⟩
    rw [h2]
    have hr : n ≤ getV (raiseV l y).1 d i ↔ n ≤ getV l d i ∨ (rightD y = true ∧ y.dev = d ∧ y.inc = i ∧ n ≤ y.seq) := by
      by_cases c : rightD y = true
      · rw [getV_raise h c]
        split
        · rename_i q
          simp only [c, q.1, q.2, true_and]
          omega
        · rename_i q
          constructor
          · exact .inl
          · rintro (a | ⟨_, b1, b2, _⟩)
            · exact a
            · exact absurd ⟨b1, b2⟩ q
      · have e2 : raiseV l y = (l, false) := by unfold raiseV; rw [if_neg (fun c2 => c c2.1)]
        rw [e2]
        simp [c]
    rw [hr]
    constructor
    · rintro ((a | a) | ⟨x, hx, a⟩)
      · exact .inl a
      · exact .inr ⟨y, List.mem_cons_self .., a⟩
      · exact .inr ⟨x, List.mem_cons_of_mem _ hx, a⟩
    · rintro (a | ⟨x, hx, a⟩)
      · exact .inl (.inl a)
      · rcases List.mem_cons.1 hx with rfl | hx
        · exact .inl (.inr a)
        · exact .inr ⟨x, hx, a⟩
theorem join_any {l R m : List DotN} (h : OkV l) (hp : ∀ x, x ∈ R ↔ x ∈ m) : joinV l R = joinV l m := by
  obtain ⟨h1, h2⟩ := join_le (R := R) h
  obtain ⟨h3, h4⟩ := join_le (R := m) h
  refine okV_ext h1 h3 fun d i => ?_
  have key : ∀ n, n ≤ getV (joinV l R) d i ↔ n ≤ getV (joinV l m) d i := fun n => by rw [h2, h4]; simp only [hp]
  have a := (key _).1 (Int.le_refl _)
  have b := (key _).2 (Int.le_refl _)
  omega
theorem join_nil {l : List DotN} (h : OkV l) : joinV [] l = l := by
  obtain ⟨h1, h2⟩ := join_all nil_ok h
  refine okV_ext h1 h fun d i => ?_
  rw [h2]
  have := getV_range h d i
  show max 0 _ = _
  omega
theorem joinV_snoc (l R : List DotN) (x : DotN) : joinV l (R ++ [x]) = (raiseV (joinV l R) x).1 := by unfold joinV; rw [List.foldl_append]; rfl

/-- A mark with the lesser number of both. -/
def lessM (m : List DotN) (x : DotN) : DotN := ⟨x.dev, x.inc, min x.seq (getV m x.dev x.inc)⟩
theorem meet_any {l m R : List DotN} (hl : OkV l) (hm : OkV m) (hp : ∀ x, x ∈ R ↔ x ∈ l) : joinV [] (R.map (lessM m)) = meetV l m := by
  obtain ⟨h1, h2⟩ := join_le (R := R.map (lessM m)) nil_ok
  obtain ⟨h3, h4⟩ := meet_all hl hm
  refine okV_ext h1 h3 fun d i => ?_
  rw [h4]
  have gl := getV_range hl d i
  have gm := getV_range hm d i
  have gj := getV_range h1 d i
  have key : ∀ n, n ≤ getV (joinV [] (R.map (lessM m))) d i ↔ n ≤ min (getV l d i) (getV m d i) := fun n => by
    rw [h2]
    show n ≤ 0 ∨ _ ↔ _
    constructor
    · rintro (a | ⟨x, hx, hr, rfl, rfl, a⟩)
      · omega
      · obtain ⟨y, hy, rfl⟩ := List.mem_map.1 hx
        have := getV_mem hl.ord ((hp y).1 hy)
        simp only [lessM] at *
        omega
    · intro a
      by_cases c : n ≤ 0
      · exact .inl c
      · right
        obtain ⟨x, hx, rfl, rfl, e⟩ := getV_some (l := l) (d := d) (i := i) (by omega)
        refine ⟨lessM m x, List.mem_map.2 ⟨x, (hp x).2 hx, rfl⟩, ?_, rfl, rfl, ?_⟩
        · have hr := right_range (hl.right x hx)
          have h0 := hl.right x hx
          unfold rightD at h0 ⊢
          simp only [lessM, Bool.and_eq_true, decide_eq_true_eq] at h0 ⊢
          exact ⟨h0.1, decide_eq_true (by omega), decide_eq_true (by omega)⟩
        · simp only [lessM]
          omega
  have a := (key _).1 (Int.le_refl _)
  have b := (key _).2 (Int.le_refl _)
  omega
theorem meet_nil1 (m : List DotN) : meetV [] m = [] := rfl
theorem meet_nil2 (l : List DotN) : meetV l [] = [] := by
  unfold meetV
  rw [List.flatMap_eq_nil_iff]
  intro x _
  unfold meetStep
  rw [if_neg (by show ¬ 0 < min x.seq 0; omega)]

theorem covers_any {l m R : List DotN} (hp : ∀ x, x ∈ R ↔ x ∈ m) (h : ∀ x ∈ R, x.seq ≤ getV l x.dev x.inc) : coversV l m = true := by
  unfold coversV
  rw [List.all_eq_true]
  exact fun x hx => decide_eq_true (h x ((hp x).2 hx))
theorem covers_not {l m : List DotN} {x : DotN} (hx : x ∈ m) (h : ¬ x.seq ≤ getV l x.dev x.inc) : coversV l m = false := by
  unfold coversV
  rw [List.all_eq_false]
  exact ⟨x, hx, by simpa using h⟩

theorem sum_cons (x : DotN) (R : List DotN) : sumV (x :: R) = x.seq + sumV R := by simp [sumV]
theorem sum_perm {l R : List DotN} (h : R.Perm l) : sumV R = sumV l := by
  induction h with
  | nil => rfl
  | cons x _ ih => rw [sum_cons, sum_cons, ih]
  | swap x y t => rw [sum_cons, sum_cons, sum_cons, sum_cons]; omega
  | trans _ _ h1 h2 => rw [h1, h2]
theorem sum_snoc (R : List DotN) (x : DotN) : sumV (R ++ [x]) = sumV R + x.seq := by unfold sumV; rw [List.map_append, List.sum_append]; simp
theorem sum_range : ∀ {R : List DotN}, (∀ x ∈ R, rightD x = true) → 0 ≤ sumV R ∧ sumV R ≤ 4294967296 * (R.length : Int)
  | [], _ => by simp [sumV]
  | x :: t, h => by
    have h1 := right_range (h x (List.mem_cons_self ..))
    have h2 := sum_range (R := t) fun y hy => h y (List.mem_cons_of_mem _ hy)
    have e : sumV (x :: t) = x.seq + sumV t := by simp [sumV]
    rw [e, List.length_cons]
    push_cast
    omega
end Go.Proofs.Ytcganblfeddjdaa

/- A vector's numbers in a map: what it holds, and what a round over it has met. -/
namespace Go.Proofs.Ytcganblfeddjdaa
open Go.RowKit
set_option linter.unusedVariables false

/-- A map that holds the numbers of l, and nothing else. -/
structure VecD (D : DataW Unit) (l : List DotN) : Prop where
  size : Go.Maps.size D ≤ l.length
  num : ∀ d i, is64 d → is64 i → NumAt D (keyA d i) (getV l d i)
  has : ∀ d i, is64 d → is64 i → Go.Maps.has D (keyA d i) = !(getV l d i == 0)
theorem VecD.empty : VecD (.map []) [] := ⟨Nat.le_refl _, fun _ _ _ _ => NumAt.empty _, fun _ _ _ _ => rfl⟩

theorem right_fit {x : DotN} (h : rightD x = true) : is64 x.dev ∧ is64 x.inc := by
  have := right_range h
  unfold is64
  omega

theorem VecD.put {D : DataW Unit} {l : List DotN} (h : VecD D l) (hD : Go.Maps.Tidy D) (hl : OkV l) {x : DotN} (hx : rightD x = true) : VecD (D.put (keyA x.dev x.inc) (.lit (.int .i64 x.seq))) (setV l x) := by
  obtain ⟨f1, f2⟩ := right_fit hx
  have hk := keyedActor.key (key_actor f1 f2)
  have hr := right_range hx
  refine ⟨?_, fun d i hd hi => ?_, fun d i hd hi => ?_⟩
  · rw [Go.Maps.size_put hD]
    have h1 := set_count hl x
    have h2 := h.size
    have h3 := h.has x.dev x.inc f1 f2
    by_cases c : getV l x.dev x.inc = 0
    · rw [if_pos c] at h1
      split <;> omega
    · have e : (getV l x.dev x.inc == 0) = false := by simpa using c
      rw [e] at h3
      rw [if_pos (by rw [h3]; rfl)]
      rw [if_neg c] at h1
      omega
  · rw [getV_set hl.ord]
    by_cases c : x.dev = d ∧ x.inc = i
    · obtain ⟨rfl, rfl⟩ := c
      rw [if_pos ⟨rfl, rfl⟩]
      exact NumAt.put hD.isMap hk _
    · rw [if_neg c]
      exact (h.num d i hd hi).other (fun e => c (keyA_inj f1 f2 hd hi e.symm)) _
  · rw [getV_set hl.ord]
    by_cases c : x.dev = d ∧ x.inc = i
    · obtain ⟨rfl, rfl⟩ := c
      rw [if_pos ⟨rfl, rfl⟩, Go.Maps.has_put_same hD.isMap hk]
      have : (x.seq == 0) = false := by
        rw [beq_eq_false_iff_ne]
        omega
      rw [this]
      rfl
    · rw [if_neg c, Go.Maps.has_put_other (fun e => c (keyA_inj f1 f2 hd hi e.symm))]
      exact h.has d i hd hi

/-- What a round over the map has met: marks of l, each once; what is left is still to come. -/
structure MetV (l : List DotN) (left : Lit → Bool) (R : List DotN) : Prop where
  nodup : R.Nodup
  mem : ∀ x, x ∈ R ↔ x ∈ l ∧ left (keyA x.dev x.inc) = false

theorem MetV.start {D : DataW Unit} {l : List DotN} (h : VecD D l) (hl : OkV l) : MetV l (Go.Maps.has D) [] := by
  refine ⟨List.nodup_nil, fun x => Iff.intro (fun c => absurd c List.not_mem_nil) (fun c => ?_)⟩
  obtain ⟨c1, c2⟩ := c
  have hr := right_range (hl.right x c1)
  obtain ⟨f1, f2⟩ := right_fit (hl.right x c1)
  rw [h.has _ _ f1 f2, getV_mem hl.ord c1] at c2
  simp only [Bool.not_eq_false', beq_iff_eq] at c2
  omega

theorem MetV.step {D : DataW Unit} {l R : List DotN} {left : Lit → Bool} (h : MetV l left R) (hD : VecD D l) (hl : OkV l) {d i c : Int} (hd : is64 d) (hi : is64 i) (hlk : left (keyA d i) = true) (hat : ∀ zd, D.atKey (keyA d i) zd = .lit (.int .i64 c)) :
    (⟨d, i, c⟩ : DotN) ∈ l ∧ MetV l (fun z => left z && !z.sameKey (keyA d i)) (R ++ [⟨d, i, c⟩]) := by
  have hc : c = getV l d i := (show NumAt D (keyA d i) c from hat _).one (hD.num d i hd hi)
  have hh := Go.Maps.has_true_of_atKey hat
  rw [hD.has d i hd hi] at hh
  have hne : getV l d i ≠ 0 := by simpa using hh
  obtain ⟨y, hy, rfl, rfl, e⟩ := getV_some hne
  have ey : (⟨y.dev, y.inc, c⟩ : DotN) = y := DotN.ext' rfl rfl (by show c = y.seq; omega)
  rw [ey]
  refine ⟨hy, List.nodup_append.2 ⟨h.nodup, by simp, fun a ha b hb => ?_⟩, fun x => ?_⟩
  · rw [List.mem_singleton] at hb
    subst hb
    rintro rfl
    have := ((h.mem a).1 ha).2
    rw [hlk] at this
    cases this
  · rw [List.mem_append, h.mem, List.mem_singleton]
    have hk := keyedActor.key (key_actor hd hi)
    constructor
    · rintro (⟨a, b⟩ | rfl)
      · exact ⟨a, by rw [b]; rfl⟩
      · refine ⟨hy, ?_⟩
        rw [WideAt.sameKey_self hk]
        simp
    · rintro ⟨a, b⟩
      by_cases q : x = y
      · exact .inr q
      · refine .inl ⟨a, ?_⟩
        obtain ⟨f1, f2⟩ := right_fit (hl.right x a)
        have hq : keyA x.dev x.inc ≠ keyA y.dev y.inc := fun e2 => by
          obtain ⟨e3, e4⟩ := keyA_inj f1 f2 hd hi e2
          have g1 := getV_mem hl.ord a
          have g2 := getV_mem hl.ord hy
          rw [e3, e4, g2] at g1
          exact q (DotN.ext' e3 e4 g1.symm)
        rw [Go.Maps.sameKey_ne hq] at b
        simpa using b
theorem MetV.all {l R : List DotN} {left : Lit → Bool} (h : MetV l left R) (h0 : ∀ kl, left kl = false) : ∀ x, x ∈ R ↔ x ∈ l := fun x => by rw [h.mem, h0]; simp
theorem MetV.perm {l R : List DotN} {left : Lit → Bool} (h : MetV l left R) (hl : OkV l) (h0 : ∀ kl, left kl = false) : R.Perm l := (List.perm_ext_iff_of_nodup h.nodup hl.ord.nodup).2 (h.all h0)

/-- A round under way stays while other blocks are written. -/
theorem Keeps.ranges {F : Nat → Prop} {w w' : World} (h : Keeps F w w') {b r : Nat} (hb : ¬ F b) (hr : ¬ F r) : ∀ {H : Type} {P : Program} {k : TypeId} {R : Value → Option (DataW H × List MemPlace)} {n : Nat} {D : DataW H} {left : Lit → Bool} {cnt : Nat}, w.ranges P k R b r n D left cnt → w'.ranges P k R b r n D left cnt := by
  intro H P k R n D left cnt hm
  obtain ⟨es, clock, since, seen, c0, h1, h2, h3, h4, h5, h6⟩ := hm
  exact ⟨es, clock, since, seen, c0, (h.block b (Array.getElem?_eq_some_iff.1 h1).1 hb).trans h1, h2, h3, h4, (h.block r (Array.getElem?_eq_some_iff.1 h5).1 hr).trans h5, h6⟩
/-- A round that is drawn on writes the iterator alone. -/
theorem grown_below_at {w w' : World} {r B : Nat} (h : w.grownBy w' (some r)) (hB : B ≤ r) (hw : B ≤ w.heap.size) : Below B w w' := (Keeps.ofGrownBy h).below hw fun k _ e => by cases e; exact hB

theorem elemA {v : Value} {y : DataW Unit × List MemPlace} (h : plainElem Try.prog 3 v = some y) : ∃ c, v = .int .i64 c ∧ y = (.lit (.int .i64 c), []) ∧ (Lit.int .i64 c).wf = true := plainElem_int_inv Try.underlying3 h

/-- The step of a round over a map of actors' numbers. -/
theorem wpList_next_actors {P : Program} (hP : P = Try.prog) {w : World} {ops : Array Oper} {rest : List Oper} {o : Oper} {a : Act} {Q : Exit → Act → World → Prop} (hg : o.guard = none) (it : Operand) (hop : o.op = Op.next it false) (b r n : Nat) (D : DataW Unit) (left : Lit → Bool) (cnt : Nat)
    (hit : a.eval it = .pointer (some ⟨r, 0, none⟩)) (h : w.ranges P 25 (plainElem P 3) b r n D left cnt)
    (hDone : cnt = 0 → (∀ kl, left kl = false) → wpList P ops Q rest (a.put o.dst (.tuple #[.bool false])) w)
    (hMore : ∀ (d i c : Int) (w' : World) (cnt' : Nat), is64 d → is64 i → left (keyA d i) = true → (∀ zd, D.atKey (keyA d i) zd = .lit (.int .i64 c)) → w'.ranges P 25 (plainElem P 3) b r n D (fun z => left z && !z.sameKey (keyA d i)) cnt' → cnt' < cnt →
      w.grownBy w' (some r) → w'.heap.size = w.heap.size → (Instr.entry (.pointer (some ⟨r, 0, none⟩))).run P w' = .ok (.tuple #[.agg #[.int .i64 d, .int .i64 i], .int .i64 c]) w' → wpList P ops Q rest (a.put o.dst (.tuple #[.bool true, .agg #[.int .i64 d, .int .i64 i], .int .i64 c])) w') :
    wpList P ops Q (o :: rest) a w := by
  subst hP
  refine wpList_next_ranges (α := Int × Int) (β := Int) w hg it hop 25 keyedActor (plainElem Try.prog 3) (fun x => .agg #[.int .i64 x.1, .int .i64 x.2]) (Value.int .i64) (fun key kl hkey => ?_) (fun v y hv => ?_) b r n D left cnt hit h hDone (fun x c kl y w' cnt' hkey hlk hv hat hrg hlt hgr hsz hen => ?_)
  · obtain ⟨d, i, _, _, e, _⟩ := key_actor_inv hkey
    exact ⟨(d, i), e⟩
  · obtain ⟨c, e, _, _⟩ := elemA hv
    exact ⟨c, e⟩
  · obtain ⟨d, i, hd, hi, e, rfl⟩ := key_actor_inv hkey
    obtain ⟨c', e2, rfl, _⟩ := elemA hv
    simp only [Value.agg.injEq, Array.mk.injEq, List.cons.injEq, Value.int.injEq, true_and, and_true] at e
    cases e2
    obtain ⟨x1, x2⟩ := x
    obtain ⟨rfl, rfl⟩ := e
    exact hMore _ _ _ w' cnt' hd hi hlk hat hrg hlt hgr hsz hen

theorem zeroInt (w : World) : (zeroValue 3).run Try.prog w = .ok (.int .i64 0) w := by kernel_rfl
end Go.Proofs.Ytcganblfeddjdaa

/- A vector behind a pointer: what lies where; an actor's number. -/
namespace Go.Proofs.Ytcganblfeddjdaa
open Go.RowKit
set_option linter.unusedVariables false

/-- A vector's numbers: no map ahead of the first one; else a map of its own. -/
def NumsIs (w : World) (mv : Option Nat) (F : Nat → Prop) (l : List DotN) : Prop :=
  (mv = none ∧ l = []) ∨ ∃ B n D, mv = some B ∧ F B ∧ w.ownsMap Try.prog 25 (plainElem Try.prog 3) B n D ∧ VecD D l
/-- What the program's vector is in memory: a block of one cell, which holds the map. -/
def VecIs (w : World) (p : Nat) (F : Nat → Prop) (l : List DotN) : Prop := ∃ mv, ObjAt w p [.map mv] ∧ NumsIs w mv F l ∧ mv ≠ some p
/-- A vector behind a pointer: its block, all blocks that are its own (F), and its marks. -/
structure VecAt (w : World) (p : Nat) (F : Nat → Prop) (l : List DotN) : Prop where
  own : F p
  lt : ∀ k, F k → k < w.heap.size
  ok : OkV l
  is : VecIs w p F l
theorem NumsIs.keeps {F G : Nat → Prop} {w w' : World} {mv : Option Nat} {l : List DotN} (h : NumsIs w mv F l) (hk : Keeps G w w') (hd : ∀ k, F k → ¬ G k) : NumsIs w' mv F l := by
  rcases h with h | ⟨B, n, D, rfl, hB, hm, hD⟩
  · exact .inl h
  · exact .inr ⟨B, n, D, rfl, hB, hk.grownBy (hd B hB) hm, hD⟩
theorem VecAt.keeps {G : Nat → Prop} {w w' : World} {p : Nat} {F : Nat → Prop} {l : List DotN} (h : VecAt w p F l) (hk : Keeps G w w') (hd : ∀ k, F k → ¬ G k) : VecAt w' p F l := by
  obtain ⟨h1, h2, h3, mv, h4, h5, h6⟩ := h
  exact ⟨h1, fun k hF => Nat.lt_of_lt_of_le (h2 k hF) hk.size, h3, mv, h4.keeps hk (hd p h1), h5.keeps hk hd, h6⟩

/-- A call that changes a vector: it holds l then, and all else stays. -/
def Raised (p : Nat) (F : Nat → Prop) (l : List DotN) (v : Value) (w : World) (e : Ending) (w' : World) : Prop :=
  e = .returned v ∧ ∃ F', VecAt w' p F' l ∧ Keeps F w w' ∧ ∀ k, F' k → F k ∨ w.heap.size ≤ k
/-- A call that makes a vector. -/
def MadeV (l : List DotN) (w : World) (e : Ending) (w' : World) : Prop :=
  ∃ p F, e = .returned (.pointer (some ⟨p, 0, none⟩)) ∧ VecAt w' p F l ∧ (∀ k, F k → w.heap.size ≤ k) ∧ Below w.heap.size w w'

/-- A vector that is handed in to be read, a nil one too. -/
structure ArgV (w : World) (v : Value) (mv : Option Nat) (F : Nat → Prop) (l : List DotN) : Prop where
  ptr : (v = .pointer none ∧ mv = none) ∨ ∃ p, v = .pointer (some ⟨p, 0, none⟩) ∧ F p ∧ ObjAt w p [.map mv]
  nums : NumsIs w mv F l
  ok : OkV l
  lt : ∀ k, F k → k < w.heap.size
theorem VecAt.arg {w : World} {p : Nat} {F : Nat → Prop} {l : List DotN} (h : VecAt w p F l) : ∃ mv, ArgV w (.pointer (some ⟨p, 0, none⟩)) mv F l := by
  obtain ⟨h1, h2, h3, mv, h4, h5, h6⟩ := h
  exact ⟨mv, .inr ⟨p, rfl, h1, h4⟩, h5, h3, h2⟩
theorem nilArg (w : World) : ArgV w (.pointer none) none (fun _ => False) [] := ⟨.inl ⟨rfl, rfl⟩, .inl ⟨rfl, rfl⟩, nil_ok, fun _ h => h.elim⟩
theorem ArgV.keeps {F G : Nat → Prop} {w w' : World} {v : Value} {mv : Option Nat} {l : List DotN} (h : ArgV w v mv F l) (hk : Keeps G w w') (hd : ∀ k, F k → ¬ G k) : ArgV w' v mv F l := by
  obtain ⟨h1, h2, h3, h4⟩ := h
  refine ⟨?_, h2.keeps hk hd, h3, fun k hF => Nat.lt_of_lt_of_le (h4 k hF) hk.size⟩
  rcases h1 with h1 | ⟨p, rfl, hp, ho⟩
  · exact .inl h1
  · exact .inr ⟨p, rfl, hp, ho.keeps hk (hd p hp)⟩
theorem ArgV.below {F : Nat → Prop} {w w' : World} {v : Value} {mv : Option Nat} {l : List DotN} (h : ArgV w v mv F l) (hb : Below w.heap.size w w') : ArgV w' v mv F l :=
  h.keeps (Keeps.new (F := fun _ => False) hb) fun _ _ h => h

/-- A new vector. -/
theorem vNewC (w : World) : Calls Try.prog 9 #[] w (MadeV [] w) := by
  have o1 := ObjAt.new w #[.map none] 70
  have hb := below_alloc w (.cells #[.map none] 70)
  have hlt := o1.lt
  have hz : ∀ w, (zeroValue 70).run Try.prog w = .ok (.agg #[.map none]) w := fun w => by kernel_rfl
  go_enter Try.func9, Try.ntmps9
  go_wp2
  go_ret
  exact ⟨w.heap.size, fun k => k = w.heap.size, rfl, ⟨rfl, fun k e => by rw [e]; exact hlt, nil_ok, none, o1, .inl ⟨rfl, rfl⟩, fun e => by cases e⟩, fun k e => by rw [e]; exact Nat.le_refl _, hb⟩

/-- A vector's own numbers; those of a nil one are none. -/
theorem vAllC {v : Value} {mv : Option Nat} {F : Nat → Prop} {l : List DotN} {w : World} (h : ArgV w v mv F l) :
    Calls Try.prog 42 #[v] w fun e w' => e = .returned (.map mv) ∧ w = w' := by
  rcases h.ptr with ⟨rfl, rfl⟩ | ⟨p, rfl, _, ho⟩
  · go_enter Try.func42, Try.ntmps42
    go_wp2
    go_ret
    exact ⟨rfl, rfl⟩
  · have c0 := ho.cell 0 rfl
    clear h ho
    go_enter Try.func42, Try.ntmps42
    go_wp2
    go_ret
    exact ⟨rfl, rfl⟩

/-- An actor's number. -/
theorem vGetA {v : Value} {mv : Option Nat} {F : Nat → Prop} {l : List DotN} {w : World} (h : ArgV w v mv F l) (d i : Int) (hd : is64 d) (hi : is64 i) :
    Calls Try.prog 18 #[v, .agg #[.int .i64 d, .int .i64 i]] w fun e w' => e = .returned (.int .i64 (getV l d i)) ∧ Below w.heap.size w w' := by
  have o1 := ObjAt.new w #[.int .i64 d, .int .i64 i] 25
  have hb := below_alloc w (.cells #[.int .i64 d, .int .i64 i] 25)
  have u0 := o1.cell 0 rfl; have u1 := o1.cell 1 rfl
  have h1 := h.below hb
  have hlk : ∀ ww : World, ww.heap = (w.alloc (.cells #[.int .i64 d, .int .i64 i] 25)).heap → (Instr.lookup 68 (.map mv) (.agg #[.int .i64 d, .int .i64 i]) false).run Try.prog ww = .ok (.int .i64 (getV l d i)) ww := fun ww he => by
    rcases h1.nums with ⟨rfl, rfl⟩ | ⟨B, n, D, rfl, hB, hm, hD⟩
    · exact Go.Maps.look_nil false keyedActor Try.underlying68 (zeroInt _) (key_actor hd hi)
    · have hm2 : ww.ownsMap Try.prog 25 (plainElem Try.prog 3) B n D := by
        unfold World.ownsMap at hm ⊢
        rw [he]
        exact hm
      obtain ⟨c, hrun, hat, _⟩ := hm2.lookup_int keyedActor Try.underlying68 Try.underlying3 (zeroInt _) (key_actor hd hi)
      rw [(show NumAt D (keyA d i) c from hat).one (hD.num d i hd hi)] at hrun
      exact hrun
  have HA := vAllC (h1.keeps (w' := (w.alloc (.cells #[.int .i64 d, .int .i64 i] 25)).drew) (Keeps.new (F := fun _ => False) (Below.refl _ _).drew) (fun _ _ h => h))
  have hl1 := hlk _ rfl
  have hl2 := hlk (w.alloc (.cells #[.int .i64 d, .int .i64 i] 25)).drew rfl
  clear hlk h h1 o1
  go_enter Try.func18, Try.ntmps18
  go_wp2_with fail
  go_region_law ((try go_simp); go_at_call 42; (refine HA.mono ?_); rintro e w1 ⟨rfl, rfl⟩)
  all_goals (
    go_wp2
    go_ret
    exact ⟨rfl, hb.drew⟩)
end Go.Proofs.Ytcganblfeddjdaa

/- A number raised in a vector. -/
namespace Go.Proofs.Ytcganblfeddjdaa
open Go.RowKit
set_option linter.unusedVariables false

theorem ownsMap_tight {H : Type} {P : Program} {k : TypeId} {R : Value → Option (DataW H × List MemPlace)} {w : World} {b n : Nat} {D : DataW H} (h : w.ownsMap P k R b n D) : w.ownsMap P k R b (Go.Maps.size D) D := by
  obtain ⟨es, clock, hb, F, hs, rfl⟩ := h
  exact ⟨es, clock, hb, F, Nat.le_of_eq (by rw [Go.Maps.size_eq, length_read]), rfl⟩
theorem obj_not_map {w : World} {p B : Nat} {vs : List Value} (h : ObjAt w p vs) {H : Type} {P : Program} {k : TypeId} {R : Value → Option (DataW H × List MemPlace)} {n : Nat} {D : DataW H} (hm : w.ownsMap P k R B n D) : B ≠ p := by
  rintro rfl
  obtain ⟨e, h1⟩ := h.heap
  obtain ⟨es, clock, h2, _⟩ := hm
  rw [h1] at h2
  cases h2

set_option maxRecDepth 100000 in
theorem vRaiseC (p : Nat) (F : Nat → Prop) (l : List DotN) (x : DotN) (w : World) (h : VecAt w p F l) (hx : FitD x) :
    Calls Try.prog 13 #[.pointer (some ⟨p, 0, none⟩), .agg #[.int .i64 x.dev, .int .i64 x.inc], .int .i64 x.seq] w (Raised p F (raiseV l x).1 (.bool (raiseV l x).2) w) := by
  obtain ⟨h1, h2, h3, mv, h4, h5, h6⟩ := h
  have ha : ArgV w (.pointer (some ⟨p, 0, none⟩)) mv F l := ⟨.inr ⟨p, rfl, h1, h4⟩, h5, h3, h2⟩
  have hE := fun ww (hb : Below w.heap.size w ww) => (show VecAt ww p F l from VecAt.keeps ⟨h1, h2, h3, mv, h4, h5, h6⟩ (Keeps.new (F := fun _ => False) hb) (fun _ _ h => h))
  have hput := fun D (hD : VecD D l) hT (hr : rightD x = true) => hD.put hT h3 hr
  have hok := fun (hr : rightD x = true) => set_ok h3 hr
  have hmost := h3.most
  have hwf := is64_wf.1 hx.seq
  have hpl := h4.lt
  obtain ⟨dev, inc, seq⟩ := x
  obtain ⟨f1, f2, f3⟩ := hx
  dsimp only at *
  have hkey := key_actor f1 f2
  have o1 := ObjAt.new w #[.int .i64 dev, .int .i64 inc] 25
  have hb := below_alloc w (.cells #[.int .i64 dev, .int .i64 inc] 25)
  have u0 := o1.cell 0 rfl; have u1 := o1.cell 1 rfl
  have HR := fun v => dotRightC0 ⟨dev, inc, seq⟩ v
  have HG := fun v (hv : ArgV v (.pointer (some ⟨p, 0, none⟩)) mv F l) => vGetA hv dev inc f1 f2
  have ha1 := ha.below hb
  have q1 := h4.below hb hpl
  clear ha h4 f1 f2 f3
  unfold raiseV Raised
  dsimp only
  cases hr : rightD ⟨dev, inc, seq⟩ with
  | false =>
    rw [hr] at HR
    rw [if_neg (fun c => absurd c.1 Bool.false_ne_true)]
    clear hr hput hok
    go_enter Try.func13, Try.ntmps13
    go_wp2_with (go_at_call 41; (with_reducible refine (HR _).mono ?_); rintro e w1 ⟨rfl, hx⟩; have hb := hb.trans (hx.mono hb.size))
    go_ret
    exact ⟨rfl, F, hE _ hb, Keeps.new hb, fun k h => .inl h⟩
  | true =>
    rw [hr] at HR
    have hput := fun D hD hT => hput D hD hT hr
    have hok := hok hr
    by_cases hc : getV l dev inc < seq
    · rw [if_pos ⟨rfl, hc⟩]
      have d1 : decide (seq ≤ getV l dev inc) = false := decide_eq_false (by omega)
      generalize setV l ⟨dev, inc, seq⟩ = l2 at *
      generalize getV l dev inc = G at *
      clear hc hr hE
      rcases h5 with ⟨rfl, rfl⟩ | ⟨B, n, D, rfl, hB, hm, hD⟩
      · have hmm := @run_makeMap Try.prog
        have kn := fun w r => Go.run_eql_map_nil (P := Try.prog) w 68 25 3 r Try.underlying68
        go_enter Try.func13, Try.ntmps13
        go_wp2_with (first
          | (go_at_call 41; (with_reducible refine (HR _).mono ?_); rintro e w2 ⟨rfl, hx⟩; have o2 := o1.below hx o1.lt; have ha2 := ha1.below hx; have q2 := q1.below hx q1.lt; have v0 := o2.cell 0 rfl; have v1 := o2.cell 1 rfl; have hb := hb.trans (hx.mono hb.size); clear hx)
          | (go_at_call 18; (with_reducible refine (HG _ ha2).mono ?_); rintro e w3 ⟨rfl, hx⟩; have o3 := o2.below hx o2.lt; have q3 := q2.below hx q2.lt; have x0 := o3.cell 0 rfl; have x1 := o3.cell 1 rfl; have y0 := q3.cell 0 rfl; have b4 := below_alloc w3 (.map #[] 0); have q4 := q3.below b4 q3.lt; have y4 := q4.cell 0 rfl; have g4 := q4.free 0; have hb := hb.trans (hx.mono hb.size); clear hx))
        have q5 := q4.set 0 (.map (some w3.heap.size))
        have o5 := (o3.below b4 o3.lt).other (p := ⟨p, 0, none⟩) (by show p ≠ w.heap.size; omega) (.map (some w3.heap.size))
        have hm5 := (World.ownsMap_made (H := Unit) w3 Try.prog 25 (plainElem Try.prog 3)).setCell (a := ⟨p, 0, none⟩) (fun e => by have := q3.lt; have e2 : w3.heap.size = p := e; omega) (.map (some w3.heap.size))
        have k5 : Keeps F w ((w3.alloc (.map #[] 0)).setCell ⟨p, 0, none⟩ (.map (some w3.heap.size))) := (Keeps.new (F := F) (hb.trans (b4.mono hb.size))).setCell h1 _
        have hs := hb.size
        generalize (w3.alloc (.map #[] 0)).setCell ⟨p, 0, none⟩ (.map (some w3.heap.size)) = w5 at *
        have c0 := q5.cell 0 rfl
        have d0 := o5.cell 0 rfl; have d1' := o5.cell 1 rfl
        obtain ⟨w6, hrun, hm6, hg6⟩ := hm5.drew.update keyedActor Try.underlying68 (by unfold maxLen; omega) hkey (plainElem_int Try.underlying3 hwf)
        go_region
        all_goals (
          go_wp2
          go_ret)
        have kd : Keeps F w5 w5.drew := Keeps.new (Below.refl _ _).drew
        have k6 := Keeps.ofGrownBy hg6
        have hB6 := hm6.lt
        refine ⟨rfl, fun k => F k ∨ k = w3.heap.size, ⟨.inl h1, fun k h => h.elim (fun h => Nat.lt_of_lt_of_le (h2 k h) (Nat.le_trans k5.size (Nat.le_trans kd.size k6.size))) (fun h => by rw [h]; exact hB6), hok, some w3.heap.size, (q5.drew).keeps k6 (fun e => by have := Option.some.inj e; omega), .inr ⟨_, _, _, rfl, .inr rfl, hm6, hput _ VecD.empty ⟨[], rfl, List.Pairwise.nil⟩⟩, fun e => by have := Option.some.inj e; omega⟩, ?_, fun k h => h.elim .inl (fun h => .inr (by omega))⟩
        exact (k5.trans kd (fun _ _ h => h)).trans k6 (fun k hk e => by have := Option.some.inj e; omega)
      · have hne := obj_not_map q1 (hm.alloc _)
        have kn := fun w r => Go.run_eql_map_nil (P := Try.prog) w 68 25 3 r Try.underlying68
        have hsz := hD.size
        have hT := hm.tidy keyedActor
        have hm0 := ownsMap_tight hm
        go_enter Try.func13, Try.ntmps13
        go_wp2_with (first
          | (go_at_call 41; (with_reducible refine (HR _).mono ?_); rintro e w2 ⟨rfl, hx⟩; have o2 := o1.below hx o1.lt; have ha2 := ha1.below hx; have q2 := q1.below hx q1.lt; have v0 := o2.cell 0 rfl; have v1 := o2.cell 1 rfl; have hb := hb.trans (hx.mono hb.size); clear hx)
          | (go_at_call 18; (with_reducible refine (HG _ ha2).mono ?_); rintro e w3 ⟨rfl, hx⟩; have o3 := o2.below hx o2.lt; have q3 := q2.below hx q2.lt; have x0 := o3.cell 0 rfl; have x1 := o3.cell 1 rfl; have y0 := q3.cell 0 rfl; have hb := hb.trans (hx.mono hb.size); clear hx))
        have k5 : Keeps F w w3 := Keeps.new hb
        have hm5 := (Keeps.new (F := fun _ => False) hb).grownBy (b := B) (fun h => h) hm0
        obtain ⟨w6, hrun, hm6, hg6⟩ := hm5.drew.update keyedActor Try.underlying68 (by unfold maxLen; omega) hkey (plainElem_int Try.underlying3 hwf)
        go_region
        all_goals (
          go_wp2
          go_ret)
        have kd : Keeps F w3 w3.drew := Keeps.new (Below.refl _ _).drew
        have k6 := Keeps.ofGrownBy hg6
        refine ⟨rfl, F, ⟨h1, fun k h => Nat.lt_of_lt_of_le (h2 k h) (Nat.le_trans k5.size (Nat.le_trans kd.size k6.size)), hok, some B, (q3.drew).keeps k6 (fun e => hne (Option.some.inj e)), .inr ⟨_, _, _, rfl, hB, hm6, hput _ hD hT⟩, fun e => hne (Option.some.inj e)⟩, ?_, fun k h => .inl h⟩
        exact (k5.trans kd (fun _ _ h => h)).trans k6 (fun k hk e => by have := Option.some.inj e; subst this; exact hB)
    · rw [if_neg (fun c => hc c.2)]
      have d1 : decide (seq ≤ getV l dev inc) = true := decide_eq_true (by omega)
      generalize getV l dev inc = G at *
      clear hc hput hok hr
      go_enter Try.func13, Try.ntmps13
      go_wp2_with (first
        | (go_at_call 41; (with_reducible refine (HR _).mono ?_); rintro e w2 ⟨rfl, hx⟩; have o2 := o1.below hx o1.lt; have ha2 := ha1.below hx; have v0 := o2.cell 0 rfl; have v1 := o2.cell 1 rfl; have hb := hb.trans (hx.mono hb.size); clear hx)
        | (go_at_call 18; (with_reducible refine (HG _ ha2).mono ?_); rintro e w3 ⟨rfl, hx⟩; have hb := hb.trans (hx.mono hb.size); clear hx))
      go_ret
      exact ⟨rfl, F, hE _ hb, Keeps.new hb, fun k h => .inl h⟩
end Go.Proofs.Ytcganblfeddjdaa

/- How marks and flags as arguments are opened. -/
namespace Go.Proofs.Ytcganblfeddjdaa
open Go.ChangeShapes Go.WideShapes Go.ChangeAt Go.RowKit
set_option linter.unusedVariables false

set_option maxRecDepth 100000 in
theorem open_marks {H : Type} {enc : TypeId × Value → H} {w : World} {r : Reach} {b0 : Nat} {v : Value} {d : DataW H} {p : List MemPlace} (hv : Value.okWide Try.prog w r b0 22 v) (h : DataW.Trod enc Try.prog w 0 (fun _ => true) true 22 v d p) :
    ∃ a len cap, ∃ Q : List DotN, v = .slice a len cap ∧ RowOf encD 3 w a len cap Q ∧ ∀ x ∈ Q, FitD x :=
  open_rows_of encD FitD 3 4 [.num .i64, .num .i64, .num .i64] Try.underlying22 (by kernel_rfl) (by decide) (by kernel_rfl) (fun cs h => leaves_dot h) hv h

set_option maxRecDepth 100000 in
theorem open_flags {H : Type} {enc : TypeId × Value → H} {w : World} {r : Reach} {b0 : Nat} {v : Value} {d : DataW H} {p : List MemPlace} (hv : Value.okWide Try.prog w r b0 23 v) (h : DataW.Trod enc Try.prog w 0 (fun _ => true) true 23 v d p) :
    ∃ a len cap, ∃ T : List Bool, v = .slice a len cap ∧ Reads w a (T.map Value.bool) ∧ T.length = len ∧ len ≤ maxLen := by
  obtain ⟨a, len, cap, rfl⟩ := okWide_slice Try.underlying23 hv
  obtain ⟨fuel, hf⟩ := h
  obtain ⟨a', len', cap', T, e, h1, h2, h3, _, h5⟩ := flags_of (v := .slice a len cap) Try.underlying23 Try.underlying4 (by kernel_rfl) hf
  cases e
  exact ⟨a, len, cap, T, rfl, h5, h1, Nat.le_trans h2 h3⟩
end Go.Proofs.Ytcganblfeddjdaa
