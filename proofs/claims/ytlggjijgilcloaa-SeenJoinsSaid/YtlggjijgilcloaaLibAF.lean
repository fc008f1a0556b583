/- Contracts and plain words that the laws' proofs stand on, put together. -/
import Derived.Test.YtlggjijgilcloaaLibAA
import Derived.Test.YtlggjijgilcloaaLibAC
import Derived.Test.YtlggjijgilcloaaLibAE
import Derived.Test.YtlggjijgilcloaaChecked
import Derived.WalkKit
import Derived.BigQuiet
import Derived.Deep.RegionHeld3
import Derived.Deep.RegionLaw
import Derived.Test.YtlggjijgilcloaaLibAD
import Derived.DeepKeys4
import Derived.Maps.OwnOps
import Derived.Maps.OwnSet
import Derived.Shelf.SlSortCmp.InsertionK
import Derived.Maps.Views
import Derived.Test.YtlggjijgilcloaaShelf
import Derived.Shelf.SlSortCmp.WholeK
import Derived.Shelf.SlSortCmp.NoneTotal
/- Names of events in plain words: which may be, which are ahead. No program in it. -/
namespace Go.Proofs.Ytlggjijgilcloaa
set_option linter.unusedVariables false

/-- A dot: a device, its life, and the event's number. -/
structure DotN where
  dev : Int
  inc : Int
  seq : Int

theorem DotN.ext' {a b : DotN} (h1 : a.dev = b.dev) (h2 : a.inc = b.inc) (h3 : a.seq = b.seq) : a = b := by
  cases a; cases b
  simp only at h1 h2 h3
  subst h1 h2 h3
  rfl

def actorD (d i : Int) : Bool := decide (0 ≤ d) && (decide (d ≤ 63) && (decide (1 ≤ i) && decide (i ≤ 1048576)))
def rightD (x : DotN) : Bool := actorD x.dev x.inc && (decide (1 ≤ x.seq) && decide (x.seq ≤ 4294967296))
/-- Is an actor ahead of another one? -/
def aheadA (d i e j : Int) : Bool := if d ≠ e then decide (d < e) else decide (i < j)
def lessD (x y : DotN) : Bool := if x.dev = y.dev ∧ x.inc = y.inc then decide (x.seq < y.seq) else aheadA x.dev x.inc y.dev y.inc
def sameD (x y : DotN) : Bool := x.dev == y.dev && (x.inc == y.inc && x.seq == y.seq)
theorem sameD_iff {x y : DotN} : sameD x y = true ↔ x = y := by
  unfold sameD
  simp only [Bool.and_eq_true, beq_iff_eq]
  constructor
  · rintro ⟨h1, h2, h3⟩
    exact DotN.ext' h1 h2 h3
  · rintro rfl
    exact ⟨rfl, rfl, rfl⟩
def sameDs : List DotN → List DotN → Bool
  | [], [] => true
  | x :: l, y :: m => sameD x y && sameDs l m
  | _, _ => false
theorem sameDs_iff : ∀ {l m : List DotN}, sameDs l m = true ↔ l = m
  | [], [] => by simp [sameDs]
  | [], _ :: _ => by simp [sameDs]
  | _ :: _, [] => by simp [sameDs]
  | x :: l, y :: m => by rw [sameDs, Bool.and_eq_true, sameD_iff, sameDs_iff, List.cons.injEq]

theorem lessD_irrefl (x : DotN) : lessD x x = false := by
  unfold lessD
  rw [if_pos ⟨rfl, rfl⟩]
  exact decide_eq_false (Int.lt_irrefl _)
theorem lessD_total {x y : DotN} (h : x ≠ y) : lessD x y = !lessD y x := by
  unfold lessD
  by_cases c : x.dev = y.dev ∧ x.inc = y.inc
  · rw [if_pos c, if_pos ⟨c.1.symm, c.2.symm⟩]
    have h3 : x.seq ≠ y.seq := fun e => h (DotN.ext' c.1 c.2 e)
    by_cases e : x.seq < y.seq
    · rw [decide_eq_true e, decide_eq_false (show ¬ y.seq < x.seq by omega)]; rfl
    · rw [decide_eq_false e, decide_eq_true (show y.seq < x.seq by omega)]; rfl
  · rw [if_neg c, if_neg (fun q => c ⟨q.1.symm, q.2.symm⟩)]
    unfold aheadA
    by_cases d : x.dev = y.dev
    · have h3 : x.inc ≠ y.inc := fun e => c ⟨d, e⟩
      rw [if_neg (by simp [d]), if_neg (by simp [d])]
      by_cases e : x.inc < y.inc
      · rw [decide_eq_true e, decide_eq_false (show ¬ y.inc < x.inc by omega)]; rfl
      · rw [decide_eq_false e, decide_eq_true (show y.inc < x.inc by omega)]; rfl
    · rw [if_pos d, if_pos (Ne.symm d)]
      by_cases e : x.dev < y.dev
      · rw [decide_eq_true e, decide_eq_false (show ¬ y.dev < x.dev by omega)]; rfl
      · rw [decide_eq_false e, decide_eq_true (show y.dev < x.dev by omega)]; rfl

/-- A dot goes in ahead of the first one that is not less; but once alone. -/
def insD (x : DotN) (out : List DotN) : List DotN :=
  if (out[out.findIdx fun y => !lessD y x]?.map fun y => sameD y x).getD false = true then out else out.take (out.findIdx fun y => !lessD y x) ++ x :: out.drop (out.findIdx fun y => !lessD y x)
def sortD (l : List DotN) : List DotN := l.foldl (fun out x => insD x out) []
theorem insD_len (x : DotN) (out : List DotN) : (insD x out).length ≤ out.length + 1 := by
  unfold insD
  split
  · omega
  · rw [List.length_append, List.length_cons, List.length_take, List.length_drop]; omega
theorem sortD_snoc (l : List DotN) (x : DotN) : sortD (l ++ [x]) = insD x (sortD l) := by unfold sortD; rw [List.foldl_append]; rfl
theorem sortD_len (l : List DotN) : (sortD l).length ≤ l.length := by
  unfold sortD
  suffices h : ∀ (l : List DotN) (out : List DotN), (l.foldl (fun out x => insD x out) out).length ≤ l.length + out.length from by simpa using h l []
  intro l
  induction l with
  | nil => exact fun out => by simp
  | cons x l ih =>
    intro out
    have h1 := ih (insD x out)
    have h2 := insD_len x out
    rw [List.foldl_cons, List.length_cons]
    omega
end Go.Proofs.Ytlggjijgilcloaa

/- Dots in order, each once, in plain words: what any list that is in order and has the same dots is. No program in it. -/
namespace Go.Proofs.Ytlggjijgilcloaa
open Go.RowKit
set_option linter.unusedVariables false

theorem lessD_iff {x y : DotN} : lessD x y = true ↔ x.dev < y.dev ∨ (x.dev = y.dev ∧ (x.inc < y.inc ∨ (x.inc = y.inc ∧ x.seq < y.seq))) := by
  unfold lessD aheadA
  by_cases h1 : x.dev = y.dev
  · by_cases h2 : x.inc = y.inc
    · rw [if_pos ⟨h1, h2⟩, decide_eq_true_iff]
      omega
    · rw [if_neg (fun c => h2 c.2), if_neg (fun c => c h1), decide_eq_true_iff]
      omega
  · rw [if_neg (fun c => h1 c.1), if_pos h1, decide_eq_true_iff]
    omega
theorem lessD_no {x y : DotN} : lessD x y = false ↔ ¬ (x.dev < y.dev ∨ (x.dev = y.dev ∧ (x.inc < y.inc ∨ (x.inc = y.inc ∧ x.seq < y.seq)))) := by
  rw [← lessD_iff, Bool.not_eq_true]
theorem lessD_trans {x y z : DotN} (h1 : lessD x y = true) (h2 : lessD y z = true) : lessD x z = true := by
  rw [lessD_iff] at *
  omega
theorem lessD_ntrans {x y z : DotN} (h1 : lessD x y = false) (h2 : lessD y z = false) : lessD x z = false := by
  rw [lessD_no] at *
  omega
theorem lessD_asymm {x y : DotN} (h : lessD x y = true) : lessD y x = false := by
  rw [lessD_iff] at h
  rw [lessD_no]
  omega
theorem lessD_eq {x y : DotN} (h1 : lessD x y = false) (h2 : lessD y x = false) : x = y := by
  rw [lessD_no] at *
  exact DotN.ext' (by omega) (by omega) (by omega)

/-- In order, each once. -/
def SortedD (l : List DotN) : Prop := l.Pairwise fun x y => lessD x y = true

theorem sorted_unique : ∀ {a b : List DotN}, SortedD a → SortedD b → (∀ x, x ∈ a ↔ x ∈ b) → a = b
  | [], [], _, _, _ => rfl
  | [], y :: b, _, _, h => absurd ((h y).2 (List.mem_cons_self ..)) (by simp)
  | x :: a, [], _, _, h => absurd ((h x).1 (List.mem_cons_self ..)) (by simp)
  | x :: a, y :: b, ha, hb, h => by
    obtain ⟨ha1, ha2⟩ := List.pairwise_cons.1 ha
    obtain ⟨hb1, hb2⟩ := List.pairwise_cons.1 hb
    have hxy : x = y := by
      rcases List.mem_cons.1 ((h x).1 (List.mem_cons_self ..)) with e | e
      · exact e
      · rcases List.mem_cons.1 ((h y).2 (List.mem_cons_self ..)) with e2 | e2
        · exact e2.symm
        · have := lessD_asymm (hb1 x e)
          rw [ha1 y e2] at this
          cases this
    subst hxy
    rw [sorted_unique ha2 hb2 fun z => ?_]
    constructor
    · intro hz
      rcases List.mem_cons.1 ((h z).1 (List.mem_cons_of_mem _ hz)) with e | e
      · subst e
        have := ha1 z hz
        rw [lessD_irrefl] at this
        cases this
      · exact e
    · intro hz
      rcases List.mem_cons.1 ((h z).2 (List.mem_cons_of_mem _ hz)) with e | e
      · subst e
        have := hb1 z hz
        rw [lessD_irrefl] at this
        cases this
      · exact e

theorem front_less {x : DotN} {out : List DotN} : ∀ y ∈ out.take (out.findIdx fun y => !lessD y x), lessD y x = true := by
  intro y hy
  obtain ⟨i, hi, rfl⟩ := List.mem_take_iff_getElem.1 hy
  have := List.not_of_lt_findIdx (p := fun y => !lessD y x) (xs := out) (i := i) (by omega)
  simpa using this

theorem back_not {x : DotN} {out : List DotN} (h : SortedD out) : ∀ y ∈ out.drop (out.findIdx fun y => !lessD y x), lessD y x = false := by
  intro y hy
  obtain ⟨i, hi, rfl⟩ := List.mem_drop_iff_getElem.1 hy
  generalize hk : (out.findIdx fun y => !lessD y x) = k at *
  have hlt : k < out.length := by omega
  have h0 : lessD out[k] x = false := by
    have := List.findIdx_getElem (p := fun y => !lessD y x) (xs := out) (w := by rw [hk]; exact hlt)
    simp only [hk] at this
    simpa using this
  rcases Nat.eq_zero_or_pos i with rfl | h1
  · exact h0
  · have hs := List.pairwise_iff_getElem.1 h k (k + i) hlt (by omega) (by omega)
    have h2 := lessD_asymm hs
    have : out[i + k] = out[k + i] := by congr 1; omega
    first
      | exact lessD_ntrans h2 h0
      | (rw [this]; exact lessD_ntrans h2 h0)

theorem insD_sorted {x : DotN} {out : List DotN} (h : SortedD out) : SortedD (insD x out) := by
  unfold insD
  generalize hk : (out.findIdx fun y => !lessD y x) = k
  split
  · exact h
  · rename_i hn
    have hf := front_less (x := x) (out := out)
    have hb := back_not (x := x) h
    rw [hk] at hf hb
    have hp : SortedD (out.take k ++ out.drop k) := by rw [List.take_append_drop]; exact h
    obtain ⟨p1, p2, p3⟩ := List.pairwise_append.1 hp
    refine List.pairwise_append.2 ⟨p1, List.pairwise_cons.2 ⟨fun y hy => ?_, p2⟩, fun a ha b hb2 => ?_⟩
    · cases hxy : lessD x y with
      | true => rfl
      | false =>
        have e := lessD_eq hxy (hb y hy)
        subst e
        exfalso
        apply hn
        obtain ⟨i, hi, he⟩ := List.mem_drop_iff_getElem.1 hy
        have hlt : k < out.length := by omega
        rw [List.getElem?_eq_getElem hlt]
        rcases Nat.eq_zero_or_pos i with rfl | h1
        · have : out[k] = x := by simpa using he
          rw [this]
          show sameD x x = true
          exact sameD_iff.2 rfl
        · have hs := List.pairwise_iff_getElem.1 h k (k + i) hlt (by omega) (by omega)
          have he2 : out[k + i] = x := by first | exact he | (rw [← he]; congr 1; omega)
          rw [he2] at hs
          have h0 := hb out[k] (List.mem_drop_iff_getElem.2 ⟨0, by omega, by simp⟩)
          rw [hs] at h0
          cases h0
    · rcases List.mem_cons.1 hb2 with rfl | hb2
      · exact hf a ha
      · exact p3 a ha b hb2

theorem insD_mem {x : DotN} {out : List DotN} (y : DotN) : y ∈ insD x out ↔ y = x ∨ y ∈ out := by
  unfold insD
  generalize hk : (out.findIdx fun y => !lessD y x) = k
  split
  · rename_i h
    constructor
    · exact .inr
    · rintro (rfl | h2)
      · cases hg : out[k]? with
        | none => rw [hg] at h; cases h
        | some z =>
          rw [hg] at h
          have e : z = y := sameD_iff.1 h
          subst e
          exact List.mem_of_getElem? hg
      · exact h2
  · have e : y ∈ out ↔ y ∈ out.take k ∨ y ∈ out.drop k := by rw [← List.mem_append, List.take_append_drop]
    rw [List.mem_append, List.mem_cons, e]
    constructor
    · rintro (a | b | c)
      · exact .inr (.inl a)
      · exact .inl b
      · exact .inr (.inr c)
    · rintro (b | a | c)
      · exact .inr (.inl b)
      · exact .inl a
      · exact .inr (.inr c)

theorem sortD_fold (l : List DotN) : ∀ out, SortedD out → SortedD (l.foldl (fun out x => insD x out) out) ∧ ∀ y, y ∈ l.foldl (fun out x => insD x out) out ↔ y ∈ out ∨ y ∈ l := by
  induction l with
  | nil => exact fun out h => ⟨h, fun y => by simp⟩
  | cons x t ih =>
    intro out h
    obtain ⟨a, b⟩ := ih (insD x out) (insD_sorted h)
    refine ⟨a, fun y => ?_⟩
    rw [List.foldl_cons, b y, insD_mem, List.mem_cons]
    constructor
    · rintro ((h | h) | h)
      · exact .inr (.inl h)
      · exact .inl h
      · exact .inr (.inr h)
    · rintro (h | h | h)
      · exact .inl (.inr h)
      · exact .inl (.inl h)
      · exact .inr h

theorem sortD_sorted (l : List DotN) : SortedD (sortD l) := (sortD_fold l [] List.Pairwise.nil).1
theorem sortD_mem (l : List DotN) (y : DotN) : y ∈ sortD l ↔ y ∈ l := by
  have := (sortD_fold l [] List.Pairwise.nil).2 y
  exact this.trans ⟨fun h => h.elim (fun c => by cases c) id, .inr⟩

/-- The dots, each at its first place alone. -/
def dedD (l : List DotN) : List DotN := l.foldl (fun out x => if out.any (sameD x) then out else out ++ [x]) []
theorem dedD_snoc (l : List DotN) (x : DotN) : dedD (l ++ [x]) = if (dedD l).any (sameD x) then dedD l else dedD l ++ [x] := by unfold dedD; simp
theorem any_same {l : List DotN} {x : DotN} : l.any (sameD x) = true ↔ x ∈ l := by
  rw [List.any_eq_true]
  constructor
  · rintro ⟨y, h, e⟩
    rw [sameD_iff.1 e]
    exact h
  · intro h
    exact ⟨x, h, sameD_iff.2 rfl⟩
theorem dedD_fold (l : List DotN) : ∀ out : List DotN, out.Nodup → (l.foldl (fun out x => if out.any (sameD x) then out else out ++ [x]) out).Nodup ∧ ∀ y, y ∈ l.foldl (fun out x => if out.any (sameD x) then out else out ++ [x]) out ↔ y ∈ out ∨ y ∈ l := by
  induction l with
  | nil => exact fun out h => ⟨h, fun y => by simp⟩
  | cons x t ih =>
    intro out h
    rw [List.foldl_cons]
    by_cases hx : out.any (sameD x) = true
    · rw [if_pos hx]
      obtain ⟨a, b⟩ := ih out h
      refine ⟨a, fun y => ?_⟩
      rw [b y, List.mem_cons]
      have hm := any_same.1 hx
      constructor
      · rintro (h | h)
        · exact .inl h
        · exact .inr (.inr h)
      · rintro (h | rfl | h)
        · exact .inl h
        · exact .inl hm
        · exact .inr h
    · rw [if_neg hx]
      have hn : x ∉ out := fun c => hx (any_same.2 c)
      obtain ⟨a, b⟩ := ih (out ++ [x]) (by
        rw [List.nodup_append]
        exact ⟨h, by simp, fun a ha b hb e => hn (by rw [List.mem_singleton] at hb; rw [← hb, ← e]; exact ha)⟩)
      refine ⟨a, fun y => ?_⟩
      rw [b y, List.mem_append, List.mem_singleton, List.mem_cons]
      constructor
      · rintro ((h | h) | h)
        · exact .inl h
        · exact .inr (.inl h)
        · exact .inr (.inr h)
      · rintro (h | h | h)
        · exact .inl (.inl h)
        · exact .inl (.inr h)
        · exact .inr h
theorem dedD_nodup (l : List DotN) : (dedD l).Nodup := (dedD_fold l [] List.nodup_nil).1
theorem dedD_mem (l : List DotN) (y : DotN) : y ∈ dedD l ↔ y ∈ l := by
  have := (dedD_fold l [] List.nodup_nil).2 y
  exact this.trans ⟨fun h => h.elim (fun c => by cases c) id, .inr⟩

/-- What is in order, and has just these dots, each once, is the sorted list. -/
theorem sortD_is {l a : List DotN} (h1 : a.Perm (dedD l)) (h2 : a.Pairwise fun x y => lessD y x = false) : a = sortD l := by
  have hn : a.Nodup := h1.nodup_iff.2 (dedD_nodup l)
  refine sorted_unique ?_ (sortD_sorted l) fun x => by rw [h1.mem_iff, dedD_mem, sortD_mem]
  refine List.Pairwise.imp₂ ?_ h2 hn
  intro x y hxy hne
  cases h : lessD x y with
  | true => rfl
  | false => exact absurd (lessD_eq h hxy) hne
end Go.Proofs.Ytlggjijgilcloaa

/- Names of events in plain words: packed, the next one, their text. No program in it. -/
namespace Go.Proofs.Ytlggjijgilcloaa
open Go.RowKit
set_option linter.unusedVariables false

def bytesD (x : DotN) : List Int := short x.dev.toNat ++ (short x.inc.toNat ++ short x.seq.toNat)
/-- What is packed of a dot: nothing, if it may not be. -/
def putD (x : DotN) : List Int := if rightD x = true then bytesD x else []
/-- The dot behind one, and whether there is one. -/
def nextD (x : DotN) : DotN × Int := if rightD x = true ∧ x.seq < 4294967296 then (⟨x.dev, x.inc, x.seq + 1⟩, 0) else (⟨0, 0, 0⟩, 4)
def cmpA (d i e j : Int) : Int := if aheadA d i e j = true then -1 else if aheadA e j d i = true then 1 else 0
def textD (x : DotN) : List UInt8 := (((Lib.itoa x.dev ++ [46]) ++ Lib.itoa x.inc) ++ [46]) ++ Lib.itoa x.seq
def is64 (n : Int) : Prop := -9223372036854775808 ≤ n ∧ n ≤ 9223372036854775807
structure FitD (x : DotN) : Prop where
  dev : is64 x.dev
  inc : is64 x.inc
  seq : is64 x.seq

theorem right_range {x : DotN} (h : rightD x = true) : 0 ≤ x.dev ∧ x.dev ≤ 63 ∧ 1 ≤ x.inc ∧ x.inc ≤ 1048576 ∧ 1 ≤ x.seq ∧ x.seq ≤ 4294967296 := by
  unfold rightD actorD at h
  simp only [Bool.and_eq_true, decide_eq_true_iff] at h
  obtain ⟨⟨a, b, c, d⟩, e, f⟩ := h
  exact ⟨a, b, c, d, e, f⟩

theorem putD_len (x : DotN) : (putD x).length ≤ 30 := by
  unfold putD
  split
  · rename_i h
    obtain ⟨d0, d1, e0, e1, s0, s1⟩ := right_range h
    unfold bytesD
    rw [List.length_append, List.length_append]
    have h1 := short_ten x.dev.toNat (by omega)
    have h2 := short_ten x.inc.toNat (by omega)
    have h3 := short_ten x.seq.toNat (by omega)
    omega
  · exact Nat.zero_le _

end Go.Proofs.Ytlggjijgilcloaa

/- Contracts of the reference of layer 16: names of events. -/
namespace Go.Proofs.Ytlggjijgilcloaa
open Go.RowKit
set_option linter.unusedVariables false

def encD (x : DotN) : List Value := [.int .i64 x.dev, .int .i64 x.inc, .int .i64 x.seq]
theorem encD_len (x : DotN) : (encD x).length = 3 := rfl
theorem encD_one (x : DotN) : ∀ u ∈ encD x, u.oneCell' = true := by
  intro u hu
  simp only [encD, List.mem_cons, List.not_mem_nil, or_false] at hu
  rcases hu with rfl | rfl | rfl <;> rfl
theorem dot_at {w : World} {a : Option Addr} {n c : Nat} {L : List DotN} (h : RowOf encD 3 w a n c L) (k : Nat) (hk : k < n) :
    ∃ x g off, L[k]? = some x ∧ a = some ⟨g, off, none⟩ ∧ w.cell? ⟨g, off + k * 3, none⟩ = some (.int .i64 x.dev) ∧ w.cell? ⟨g, off + k * 3 + 1, none⟩ = some (.int .i64 x.inc) ∧ w.cell? ⟨g, off + k * 3 + 2, none⟩ = some (.int .i64 x.seq) := by
  obtain ⟨x, g, off, h1, h2, h3⟩ := h.at k hk
  exact ⟨x, g, off, h1, h2, h3 0 _ rfl, h3 1 _ rfl, h3 2 _ rfl⟩
theorem drawn_below {B : Nat} {a w : World} (h : Below B a w) (k : Nat) : Below B a (w.drewN k) := ⟨h.os, h.tape, h.output, h.size, h.block⟩

theorem two_objs (w : World) (A B : Array Value) (a b : TypeId) :
    ObjAt ((w.alloc (.cells A a)).alloc (.cells B b)) w.heap.size A.toList ∧ ObjAt ((w.alloc (.cells A a)).alloc (.cells B b)) (w.heap.size + 1) B.toList ∧ Below w.heap.size w ((w.alloc (.cells A a)).alloc (.cells B b)) := by
  have s1 : (w.alloc (.cells A a)).heap.size = w.heap.size + 1 := by simp
  have o1 := ObjAt.new w A a
  have o2 := ObjAt.new (w.alloc (.cells A a)) B b
  have b1 := below_alloc w (.cells A a)
  have b2 := below_alloc (w.alloc (.cells A a)) (.cells B b)
  have o1' := o1.below b2 o1.lt
  rw [s1] at o2
  exact ⟨o1', o2, b1.trans (b2.mono b1.size)⟩

theorem eqDot (x y : DotN) (w : World) : Sem.run Try.prog (Op.equalIn 10000 26 (.agg #[.int .i64 x.dev, .int .i64 x.inc, .int .i64 x.seq]) (.agg #[.int .i64 y.dev, .int .i64 y.inc, .int .i64 y.seq])) w = Result.ok (sameD x y) w := by
  unfold sameD
  cases h1 : x.dev == y.dev <;> cases h2 : x.inc == y.inc <;> cases h3 : x.seq == y.seq <;> simp [go_sem, h1, h2, h3]
theorem eqActor (d i e j : Int) (w : World) : Sem.run Try.prog (Op.equalIn 10000 24 (.agg #[.int .i64 d, .int .i64 i]) (.agg #[.int .i64 e, .int .i64 j])) w = Result.ok (d == e && i == j) w := by
  cases h1 : d == e <;> cases h2 : i == j <;> simp [go_sem, h1, h2]

set_option maxRecDepth 100000 in
theorem refActorC (d i : Int) (w : World) :
    Calls Try.prog 46 #[.agg #[.int .i64 d, .int .i64 i]] w fun e w' => e = .returned (.bool (actorD d i)) ∧ Below w.heap.size w w' := by
  have o1 := ObjAt.new w #[.int .i64 d, .int .i64 i] 24
  have hb := below_alloc w (.cells #[.int .i64 d, .int .i64 i] 24)
  have u0 := o1.cell 0 rfl; have u1 := o1.cell 1 rfl
  clear o1
  unfold actorD
  by_cases q0 : 0 ≤ d
  · have d0 : decide (0 ≤ d) = true := decide_eq_true q0
    by_cases q1 : d ≤ 63
    · have d1 : decide (d ≤ 63) = true := decide_eq_true q1
      by_cases q2 : 1 ≤ i
      · have d2 : decide (1 ≤ i) = true := decide_eq_true q2
        by_cases q3 : i ≤ 1048576
        · have d3 : decide (i ≤ 1048576) = true := decide_eq_true q3
          go_enter Try.func46, Try.ntmps46
          go_wp2
          go_ret
          exact ⟨by simp [*], hb⟩
        · have d3 : decide (i ≤ 1048576) = false := decide_eq_false q3
          go_enter Try.func46, Try.ntmps46
          go_wp2
          go_ret
          exact ⟨by simp [*], hb⟩
      · have d2 : decide (1 ≤ i) = false := decide_eq_false q2
        go_enter Try.func46, Try.ntmps46
        go_wp2
        go_ret
        exact ⟨by simp [*], hb⟩
    · have d1 : decide (d ≤ 63) = false := decide_eq_false q1
      go_enter Try.func46, Try.ntmps46
      go_wp2
      go_ret
      exact ⟨by simp [*], hb⟩
  · have d0 : decide (0 ≤ d) = false := decide_eq_false q0
    go_enter Try.func46, Try.ntmps46
    go_wp2
    go_ret
    exact ⟨by simp [*], hb⟩

set_option maxRecDepth 100000 in
theorem refDRightC (x : DotN) (w : World) :
    Calls Try.prog 26 #[.agg #[.int .i64 x.dev, .int .i64 x.inc, .int .i64 x.seq]] w fun e w' => e = .returned (.bool (rightD x)) ∧ Below w.heap.size w w' := by
  have o1 := ObjAt.new w #[.int .i64 x.dev, .int .i64 x.inc, .int .i64 x.seq] 26
  have hb := below_alloc w (.cells #[.int .i64 x.dev, .int .i64 x.inc, .int .i64 x.seq] 26)
  have u0 := o1.cell 0 rfl; have u1 := o1.cell 1 rfl
  have HA := fun v => refActorC x.dev x.inc v
  unfold rightD
  generalize actorD x.dev x.inc = A at *
  cases A with
  | false =>
    go_enter Try.func26, Try.ntmps26
    go_wp2_with (go_at_call 46; (with_reducible refine (HA _).mono ?_); rintro e w1 ⟨rfl, hx⟩; have hb := hb.trans (hx.mono hb.size))
    go_ret
    exact ⟨rfl, hb⟩
  | true =>
    by_cases q0 : 1 ≤ x.seq
    · have d0 : decide (1 ≤ x.seq) = true := decide_eq_true q0
      by_cases q1 : x.seq ≤ 4294967296
      · have d1 : decide (x.seq ≤ 4294967296) = true := decide_eq_true q1
        go_enter Try.func26, Try.ntmps26
        go_wp2_with (first
          | (go_at_call 46; (with_reducible refine (HA _).mono ?_); rintro e w1 ⟨rfl, hx⟩; have o2 := o1.below hx o1.lt; have v2 := o2.cell 2 rfl; have hb := hb.trans (hx.mono hb.size); clear hx))
        go_ret
        exact ⟨by simp [*], hb⟩
      · have d1 : decide (x.seq ≤ 4294967296) = false := decide_eq_false q1
        go_enter Try.func26, Try.ntmps26
        go_wp2_with (first
          | (go_at_call 46; (with_reducible refine (HA _).mono ?_); rintro e w1 ⟨rfl, hx⟩; have o2 := o1.below hx o1.lt; have v2 := o2.cell 2 rfl; have hb := hb.trans (hx.mono hb.size); clear hx))
        go_ret
        exact ⟨by simp [*], hb⟩
    · have d0 : decide (1 ≤ x.seq) = false := decide_eq_false q0
      go_enter Try.func26, Try.ntmps26
      go_wp2_with (first
        | (go_at_call 46; (with_reducible refine (HA _).mono ?_); rintro e w1 ⟨rfl, hx⟩; have o2 := o1.below hx o1.lt; have v2 := o2.cell 2 rfl; have hb := hb.trans (hx.mono hb.size); clear hx))
      go_ret
      exact ⟨by simp [*], hb⟩

set_option maxRecDepth 100000 in
theorem refAheadAC (d i e j : Int) (w : World) :
    Calls Try.prog 52 #[.agg #[.int .i64 d, .int .i64 i], .agg #[.int .i64 e, .int .i64 j]] w fun en w' => en = .returned (.bool (aheadA d i e j)) ∧ Below w.heap.size w w' := by
  obtain ⟨o1, o2, hb⟩ := two_objs w #[.int .i64 d, .int .i64 i] #[.int .i64 e, .int .i64 j] 24 24
  have u0 := o1.cell 0 rfl; have u1 := o1.cell 1 rfl
  have v0 := o2.cell 0 rfl; have v1 := o2.cell 1 rfl
  clear o1 o2
  unfold aheadA
  by_cases h1 : d = e
  · have e1 : (d != e) = false := by rw [h1]; simp
    have e2 : (d == e) = true := beq_iff_eq.2 h1
    rw [if_neg (by simp [h1])]
    clear h1
    go_enter Try.func52, Try.ntmps52
    go_wp2
    go_ret
    exact ⟨rfl, hb⟩
  · have e1 : (d != e) = true := by simp [h1]
    have e2 : (d == e) = false := beq_eq_false_iff_ne.2 h1
    rw [if_pos h1]
    clear h1
    go_enter Try.func52, Try.ntmps52
    go_wp2
    go_ret
    exact ⟨rfl, hb⟩

set_option maxRecDepth 100000 in
theorem refDLessC (x y : DotN) (w : World) :
    Calls Try.prog 38 #[.agg #[.int .i64 x.dev, .int .i64 x.inc, .int .i64 x.seq], .agg #[.int .i64 y.dev, .int .i64 y.inc, .int .i64 y.seq]] w fun e w' => e = .returned (.bool (lessD x y)) ∧ Below w.heap.size w w' := by
  obtain ⟨o1, o2, hb⟩ := two_objs w #[.int .i64 x.dev, .int .i64 x.inc, .int .i64 x.seq] #[.int .i64 y.dev, .int .i64 y.inc, .int .i64 y.seq] 26 26
  have u0 := o1.cell 0 rfl; have u1 := o1.cell 1 rfl; have u2 := o1.cell 2 rfl
  have v0 := o2.cell 0 rfl; have v1 := o2.cell 1 rfl; have v2 := o2.cell 2 rfl
  have HA := fun v => refAheadAC x.dev x.inc y.dev y.inc v
  have hE := fun v => eqActor x.dev x.inc y.dev y.inc v
  clear o1 o2
  unfold lessD
  by_cases h1 : x.dev = y.dev ∧ x.inc = y.inc
  · rw [if_pos h1]
    have e1 : (x.dev == y.dev && x.inc == y.inc) = true := by rw [h1.1, h1.2]; simp
    simp only [e1] at hE
    clear h1 e1 HA
    go_enter Try.func38, Try.ntmps38
    go_wp2
    go_ret
    exact ⟨rfl, hb⟩
  · rw [if_neg h1]
    have e1 : (x.dev == y.dev && x.inc == y.inc) = false := by rw [Bool.eq_false_iff]; intro c; rw [Bool.and_eq_true, beq_iff_eq, beq_iff_eq] at c; exact h1 c
    simp only [e1] at hE
    clear h1 e1
    go_enter Try.func38, Try.ntmps38
    go_wp2_with (go_at_call 52; (with_reducible refine (HA _).mono ?_); rintro e w1 ⟨rfl, hx⟩; have hb := hb.trans (hx.mono hb.size))
    go_ret
    exact ⟨rfl, hb⟩
end Go.Proofs.Ytlggjijgilcloaa

/- Contracts of the reference of layer 16: the same dots; dots in order. -/
namespace Go.Proofs.Ytlggjijgilcloaa
open Go.RowKit
set_option linter.unusedVariables false

theorem infoDot : (Try.prog.info? 26).map (fun i => (i.zero, i.size, i.bytes)) = some (some (.agg #[.int .i64 0, .int .i64 0, .int .i64 0]), 3, 24) := by kernel_rfl

set_option maxHeartbeats 2000000 in
set_option maxRecDepth 100000 in
theorem refSameDC (a b : Option Addr) (n m c1 c2 : Nat) (L M : List DotN) (w : World) (hL : RowOf encD 3 w a n c1 L) (hM : RowOf encD 3 w b m c2 M) :
    Calls Try.prog 15 #[.slice a n c1, .slice b m c2] w fun e w' => e = .returned (.bool (sameDs L M)) ∧ ∃ k, w' = w.drewN k := by
  have hn := hL.leq
  have hm := hM.leq
  by_cases hnm : n = m
  · subst hnm
    have hcm := hL.capm
    have hcl := hL.cle
    unfold maxLen at hcm
    have HL := Lib.hid hL
    have HM := Lib.hid hM
    have Hn := Lib.hid hn
    have Hm := Lib.hid hm
    clear hL hM hn hm
    go_enter Try.func15, Try.ntmps15
    go_wp2
    go_loopw [5] (fun i wr => ∃ k q : Nat, k ≤ n ∧ i = .int .i64 (k : Int) ∧ Hid (L.take k = M.take k) ∧ wr = w.drewN q) (fun i _ => n - (intOf i).toNat)
    case atStart => exact ⟨0, 0, Nat.zero_le _, rfl, rfl, rfl⟩
    case round =>
      obtain ⟨k, q, hk, rfl, hs, rfl⟩ := hrel
      by_cases hlt : k < n
      · have hlt' : (k : Int) < (n : Int) := by omega
        obtain ⟨x, g1, o1, hx, rfl, c0, c1, c2⟩ := dot_at HL.out k hlt
        obtain ⟨y, g2, o2, hy, rfl, d0, d1, d2⟩ := dot_at HM.out k hlt
        have hT : Hid (x = y → L.take (k + 1) = M.take (k + 1)) := fun e => by rw [take_snocI hx, take_snocI hy, hs.out, e]
        have hN : Hid (x ≠ y → sameDs L M = false) := fun e => by
          rw [Bool.eq_false_iff]
          intro c
          rw [sameDs_iff] at c
          subst c
          rw [hx] at hy
          exact e (by cases hy; rfl)
        have hE := eqDot x y
        clear hx hy
        by_cases hxy : x = y
        · have h3 := Lib.hid (hT.out hxy)
          rw [sameD_iff.2 hxy] at hE
          clear hT hN hs hxy
          go_wp2_with fail
          go_quiet (fail)
          go_wp2
          go_roundw
          case rel => exact ⟨k + 1, _, by omega, by go_num, h3, by first | rfl | simp⟩
          case measure => simp [intOf]; omega
        · have h2 := Lib.hid (hN.out hxy)
          rw [Bool.eq_false_iff.2 (fun c => hxy (sameD_iff.1 c))] at hE
          clear hT hN hs hxy
          go_wp2_with fail
          go_quiet (fail)
          go_wp2
          go_ret
          exact ⟨by rw [h2.out]; rfl, _, World.drewN_drewN _ _ _⟩
      · obtain rfl : k = n := by omega
        have e : Hid (sameDs L M = true) := by
          have h1 := hs.out
          rw [List.take_of_length_le (by rw [Hn.out]; exact Nat.le_refl _), List.take_of_length_le (by rw [Hm.out]; exact Nat.le_refl _)] at h1
          unfold Hid
          rw [sameDs_iff]
          exact h1
        go_wp2
        go_ret
        exact ⟨by rw [e.out]; rfl, q, rfl⟩
  · have h1 : sameDs L M = false := by
      rw [Bool.eq_false_iff]
      intro c
      rw [sameDs_iff] at c
      subst c
      exact hnm (hn.symm.trans hm)
    have h2 : ¬ (n : Int) = (m : Int) := by omega
    have h3 : ((n : Int) == (m : Int)) = false := beq_eq_false_iff_ne.2 h2
    rw [h1]
    clear hL hM hn hm
    go_enter Try.func15, Try.ntmps15
    go_wp2
    go_ret
    exact ⟨rfl, 0, rfl⟩

theorem below_drawn2 {B : Nat} {a w : World} (h : Below B a w) (k : Nat) : Below B a (w.drewN k) := ⟨h.os, h.tape, h.output, h.size, h.block⟩
theorem find_front {O : List DotN} {x : DotN} {K : Nat} (h : ∀ (j : Nat) (y : DotN), j < K → O[j]? = some y → lessD y x = true) (hK : K ≤ O.length) (hs : K = O.length ∨ ∃ y, O[K]? = some y ∧ lessD y x = false) : (O.findIdx fun y => !lessD y x) = K := by
  rcases hs with rfl | ⟨y, hy, hl⟩
  · rw [List.findIdx_eq_length]
    intro z hz
    obtain ⟨i, hi, rfl⟩ := List.mem_iff_getElem.1 hz
    rw [h i _ hi (List.getElem?_eq_getElem hi)]
    rfl
  · obtain ⟨h1, rfl⟩ := List.getElem?_eq_some_iff.1 hy
    refine (List.findIdx_eq h1).2 ⟨by rw [hl]; rfl, fun j hj => ?_⟩
    rw [h j _ hj (List.getElem?_eq_getElem (by omega))]
    rfl

set_option maxHeartbeats 8000000 in
set_option maxRecDepth 100000 in
theorem refSortDC (a : Option Addr) (n c : Nat) (L : List DotN) (w : World) (hL : RowOf encD 3 w a n c L) (hn : n ≤ 100000) :
    Calls Try.prog 19 #[.slice a n c] w (GivesZ encD 3 26 (sortD L) (sortD L).length w) := by
  have HL := Lib.hid hL
  have Hn : Hid (L.length = n) := hL.leq
  have hcm := hL.capm
  have hcl := hL.cle
  unfold maxLen at hcm
  obtain ⟨i0, hi, hz0, hz1, hz2⟩ := info_parts infoDot
  have hO0 := OwnZ.lit encD 3 26 w
  have hb0 := below_alloc w (.cells #[] 26)
  unfold GivesZ
  clear hL
  go_enter Try.func19, Try.ntmps19
  go_wp2
  go_loopw [3, 4] (fun l i wr => ∃ (k m : Nat) (b : Option Addr) (C : Nat), k ≤ n ∧ m ≤ k ∧ l = .slice b m C ∧ i = .int .i64 (k : Int) ∧ OwnZ encD 3 w.heap.size 26 b m C (sortD (L.take k)) wr ∧ (∃ g, b = some ⟨g, 0, none⟩) ∧ Below w.heap.size w wr) (fun _ i _ => n - (intOf i).toNat)
  case atStart => exact ⟨0, 0, _, _, Nat.zero_le _, Nat.le_refl _, rfl, rfl, hO0, ⟨_, rfl⟩, hb0⟩
  case round =>
    clear hO0 hb0
    obtain ⟨k, m, b, C, hk, hmk, rfl, rfl, hO, ⟨g0, rfl⟩, hB⟩ := hrel
    have hbs := hB.size
    by_cases hlt : k < n
    · have hlt' : (k : Int) < (n : Int) := by omega
      have hlen : (sortD (L.take k)).length = m := hO.2.1
      have hC1 := hO.2.2.1
      have hC2 := hO.2.2.2
      unfold maxLen at hC2
      obtain ⟨x, hx⟩ : ∃ x, L[k]? = some x := ⟨_, List.getElem?_eq_getElem (by rw [Hn.out]; exact hlt)⟩
      have hst : Hid (sortD (L.take (k + 1)) = insD x (sortD (L.take k))) := by unfold Hid; rw [take_snocI hx, sortD_snoc]
      have HLk := Lib.hid (HL.out.below hB)
      generalize sortD (L.take k) = O at *
      have HX := Lib.hid hx
      clear hx
      have HO := Lib.hid hO
      have HB := Lib.hid hB
      clear hO hB
      obtain ⟨wo, hwo⟩ : ∃ wo, wo = wr := ⟨wr, rfl⟩
      subst hwo
      go_wp2_with fail
      go_loopw [5] (fun kv wr2 => ∃ K : Nat, K ≤ m ∧ kv = .int .i64 (K : Int) ∧ Hid (∀ (j : Nat) (y : DotN), j < K → O[j]? = some y → lessD y x = true) ∧ Below wo.heap.size wo wr2) (fun kv _ => m - (intOf kv).toNat)
      case atStart => exact ⟨0, Nat.zero_le _, rfl, fun j y hj => absurd hj (Nat.not_lt_zero _), Below.refl _ _⟩
      case round =>
        obtain ⟨K, hK, rfl, hs, hB2⟩ := hrel
        have HB2 := Lib.hid hB2
        clear hB2
        obtain ⟨x', g1, o1, hx', rfl, c0, c1, c2⟩ := dot_at (HLk.out.below HB2.out) k hlt
        have hxx : x' = x := by have := HX.out; rw [hx'] at this; cases this; rfl
        subst hxx
        clear hx'
        by_cases h0 : K < m
        · obtain ⟨y, g2, o2, hy, hy2, d0, d1, d2⟩ := dot_at ((HO.out.row encD_len).below HB2.out) K h0
          cases hy2
          simp only [Nat.zero_add] at d0 d1 d2
          have HA := fun w => refDLessC y x' w
          have g0' : decide ((K : Int) < (m : Int)) = true := decide_eq_true (by omega)
          have g1' : (K : Int) < (m : Int) := by omega
          have i1 : (0 : Int) ≤ (K : Int) := by omega
          cases hab : lessD y x' with
          | true =>
            simp only [hab] at HA
            have hnext : Hid (∀ (j : Nat) (z : DotN), j < K + 1 → O[j]? = some z → lessD z x' = true) := fun j z hj hz => by
              by_cases e : j = K
              · subst e
                rw [hy] at hz
                cases hz
                exact hab
              · exact hs.out j z (by omega) hz
            clear hs hab hy
            go_wp2_with fail
            have hdr : Below wr.heap.size wr wr.drew := (Below.refl _ wr).drew
            have hS0 : ∀ w', Below wr.heap.size wr w' → w'.cell? ⟨g0, K * 3, none⟩ = some (.int .i64 y.dev) ∧ w'.cell? ⟨g0, K * 3 + 1, none⟩ = some (.int .i64 y.inc) ∧ w'.cell? ⟨g0, K * 3 + 2, none⟩ = some (.int .i64 y.seq) ∧ w'.cell? ⟨g1, o1 + k * 3, none⟩ = some (.int .i64 x'.dev) ∧ w'.cell? ⟨g1, o1 + k * 3 + 1, none⟩ = some (.int .i64 x'.inc) ∧ w'.cell? ⟨g1, o1 + k * 3 + 2, none⟩ = some (.int .i64 x'.seq) := fun w' hx => ⟨(hx.cell (cell_lt d0)).trans d0, (hx.cell (cell_lt d1)).trans d1, (hx.cell (cell_lt d2)).trans d2, (hx.cell (cell_lt c0)).trans c0, (hx.cell (cell_lt c1)).trans c1, (hx.cell (cell_lt c2)).trans c2⟩
            go_region_held3 (fun w' => w'.cell? ⟨g0, K * 3, none⟩ = some (.int .i64 y.dev) ∧ w'.cell? ⟨g0, K * 3 + 1, none⟩ = some (.int .i64 y.inc) ∧ w'.cell? ⟨g0, K * 3 + 2, none⟩ = some (.int .i64 y.seq) ∧ w'.cell? ⟨g1, o1 + k * 3, none⟩ = some (.int .i64 x'.dev) ∧ w'.cell? ⟨g1, o1 + k * 3 + 1, none⟩ = some (.int .i64 x'.inc) ∧ w'.cell? ⟨g1, o1 + k * 3 + 2, none⟩ = some (.int .i64 x'.seq))
              (first | exact hS0 _ hdr | exact hS0 _ (hdr.trans hx))
              (first | (go_at_call 38; (with_reducible refine (HA _).mono ?_); rintro e w3 ⟨rfl, hx⟩))
            all_goals
              go_wp2_with fail
              go_roundw
              case rel => exact ⟨K + 1, by omega, by go_num, hnext, HB2.out.trans ((hdr.trans hx).mono HB2.out.size)⟩
              case measure => simp [intOf]; omega
          | false =>
            simp only [hab] at HA
            have hfi := Lib.hid (find_front hs.out (by omega) (.inr ⟨y, hy, hab⟩))
            have hyh := Lib.hid hy
            clear hs hab hy
            go_wp2_with fail
            have hdr : Below wr.heap.size wr wr.drew := (Below.refl _ wr).drew
            have hS0 : ∀ w', Below wr.heap.size wr w' → w'.cell? ⟨g0, K * 3, none⟩ = some (.int .i64 y.dev) ∧ w'.cell? ⟨g0, K * 3 + 1, none⟩ = some (.int .i64 y.inc) ∧ w'.cell? ⟨g0, K * 3 + 2, none⟩ = some (.int .i64 y.seq) ∧ w'.cell? ⟨g1, o1 + k * 3, none⟩ = some (.int .i64 x'.dev) ∧ w'.cell? ⟨g1, o1 + k * 3 + 1, none⟩ = some (.int .i64 x'.inc) ∧ w'.cell? ⟨g1, o1 + k * 3 + 2, none⟩ = some (.int .i64 x'.seq) := fun w' hx => ⟨(hx.cell (cell_lt d0)).trans d0, (hx.cell (cell_lt d1)).trans d1, (hx.cell (cell_lt d2)).trans d2, (hx.cell (cell_lt c0)).trans c0, (hx.cell (cell_lt c1)).trans c1, (hx.cell (cell_lt c2)).trans c2⟩
            go_region_held3 (fun w' => w'.cell? ⟨g0, K * 3, none⟩ = some (.int .i64 y.dev) ∧ w'.cell? ⟨g0, K * 3 + 1, none⟩ = some (.int .i64 y.inc) ∧ w'.cell? ⟨g0, K * 3 + 2, none⟩ = some (.int .i64 y.seq) ∧ w'.cell? ⟨g1, o1 + k * 3, none⟩ = some (.int .i64 x'.dev) ∧ w'.cell? ⟨g1, o1 + k * 3 + 1, none⟩ = some (.int .i64 x'.inc) ∧ w'.cell? ⟨g1, o1 + k * 3 + 2, none⟩ = some (.int .i64 x'.seq))
              (first | exact hS0 _ hdr | exact hS0 _ (hdr.trans hx))
              (first | (go_at_call 38; (with_reducible refine (HA _).mono ?_); rintro e w3 ⟨rfl, hx⟩))
            all_goals
              have hbd3 := HB2.out.trans ((hdr.trans hx).mono HB2.out.size)
              obtain ⟨b0, b1, b2, a0, a1, a2⟩ := hS0 _ (hdr.trans hx)
              have hE := fun v => eqDot y x' v
              have n1 : ((K : Int) == (m : Int)) = false := by rw [beq_eq_false_iff_ne]; omega
              have n2 : ¬ (K : Int) = (m : Int) := by omega
              clear hS0 hdr hx c0 c1 c2 d0 d1 d2
              cases hsd : sameD y x' with
              | true =>
                simp only [hsd] at hE
                have hins : Hid (insD x' O = O) := by unfold Hid insD; rw [hfi.out, hyh.out]; simp [hsd]
                clear hsd
                go_wp2_with fail
                go_quiet (fail)
                go_wp2_with fail
                go_roundw
                case rel => exact ⟨k + 1, m, _, C, by omega, by omega, rfl, by go_num, by rw [hst.out, hins.out]; exact HO.out.below (below_drawn2 hbd3 _) (Nat.le_refl _), ⟨_, rfl⟩, HB.out.trans ((below_drawn2 hbd3 _).mono HB.out.size)⟩
                case measure => simp [intOf]; omega
              | false =>
                simp only [hsd] at hE
                have hins : Hid (insD x' O = O.take K ++ x' :: O.drop K) := by unfold Hid insD; rw [hfi.out, hyh.out]; simp [hsd]
                clear hsd
                go_wp2_with fail
                go_quiet (fail)
                go_wp2_with fail
                refine wp_some (fun wd => Below wo.heap.size wo wd) (below_drawn2 hbd3 _) ?_
                clear hbd3 b0 b1 b2 a0 a1 a2 hE
                rintro wd hbd
                have hOd := (HO.out.below hbd (Nat.le_refl _)).row encD_len
                have hLd := HLk.out.below hbd
                have hd : Below wd.heap.size wd wd.drew := (Below.refl _ wd).drew
                have hW1 : Below wd.heap.size wd (wd.alloc (.cells #[] 26)).drew := (below_alloc wd _).drew
                have hW2 : Below wd.heap.size wd ((wd.alloc (.cells #[] 26)).alloc (.cells #[.int .i64 x'.dev, .int .i64 x'.inc, .int .i64 x'.seq] 26)).drew := ((below_alloc wd _).alloc (by simp) _).drew
                have hW3 : Below wd.heap.size wd ((wd.alloc (.cells #[.int .i64 x'.dev, .int .i64 x'.inc, .int .i64 x'.seq] 26)).alloc (.cells #[] 26)).drew := ((below_alloc wd _).alloc (by simp) _).drew
                have hA1 := (OwnZ.lit encD 3 26 wd).below (Below.refl _ _).drew (Nat.le_refl _)
                have hA2 := ((OwnZ.lit encD 3 26 wd).below (below_alloc _ (.cells #[.int .i64 x'.dev, .int .i64 x'.inc, .int .i64 x'.seq] 26)) (Nat.le_refl _)).below (Below.refl _ _).drew (Nat.le_refl _)
                have s1 : (wd.alloc (.cells #[.int .i64 x'.dev, .int .i64 x'.inc, .int .i64 x'.seq] 26)).heap.size = wd.heap.size + 1 := by simp
                have s2 : (wd.alloc (.cells #[] 26)).heap.size = wd.heap.size + 1 := by simp
                have hA3 := ((OwnZ.lit encD 3 26 (wd.alloc (.cells #[.int .i64 x'.dev, .int .i64 x'.inc, .int .i64 x'.seq] 26))).below (Below.refl _ _).drew (Nat.le_refl _)).base (base' := wd.heap.size) (by rw [s1]; exact Nat.le_succ _)
                have hx2 := (((OwnZ.new encD_len [x'] #[.int .i64 x'.dev, .int .i64 x'.inc, .int .i64 x'.seq] rfl 1 rfl (by unfold maxLen; omega) 26 (wd.alloc (.cells #[] 26))).below (Below.refl _ _).drew (Nat.le_refl _)).row encD_len)
                have hx3 := ((((OwnZ.new encD_len [x'] #[.int .i64 x'.dev, .int .i64 x'.inc, .int .i64 x'.seq] rfl 1 rfl (by unfold maxLen; omega) 26 wd).below (below_alloc _ (.cells #[] 26)) (Nat.le_refl _)).below (Below.refl _ _).drew (Nat.le_refl _)).row encD_len)
                rw [s1] at hA3
                rw [s2] at hx2
                have F1 := fun W (h : Below wd.heap.size wd W) => row_front (hOd.below h) K hK
                obtain ⟨x9, g9, o9, hx9, hx9', e0, e1, e2⟩ := dot_at hLd k hlt
                have hxx9 : x9 = x' := by have := HX.out; rw [hx9] at this; cases this; rfl
                subst hxx9
                cases hx9'
                clear hx9
                have fc0 := (hd.cell (cell_lt e0)).trans e0; have fc1 := (hd.cell (cell_lt e1)).trans e1; have fc2 := (hd.cell (cell_lt e2)).trans e2; skip
                have gc0 := (hW1.cell (cell_lt e0)).trans e0; have gc1 := (hW1.cell (cell_lt e1)).trans e1; have gc2 := (hW1.cell (cell_lt e2)).trans e2; skip
                have q1 : (0 : Int) ≤ (K : Int) := by omega
                have q2 : (K : Int) ≤ (m : Int) := by omega
                have q3 : (m : Int) ≤ (C : Int) := by omega
                have q4 : (K : Int) ≤ (C : Int) := by omega
                clear e0 e1 e2
                have F2 : ∀ W, Below wd.heap.size wd W → RowOf encD 3 W (if C = K then some ⟨g0, 0, none⟩ else some ⟨g0, K * 3, none⟩) (m - K) (C - K) (O.drop K) := fun W h => by
                  split
                  · exact row_back (hOd.below h) K hK 0 (fun c => by omega)
                  · exact row_back (hOd.below h) K hK _ (fun c => by omega)
                go_region_law (first
                  | (refine step_append_rows encD_len (by decide) encD_one (by rfl) (.tmp 45) (.tmp 48) 22 (by rfl) 26 i0 (.agg #[.int .i64 0, .int .i64 0, .int .i64 0]) 24 Try.underlying22 hi hz0 hz1 hz2 rfl  hA1 rfl (F1 _ hW1) rfl K (by omega) (by unfold maxLen; omega) (by omega) hW1.size ?_; intro a5 q5 w5 hO5 hb5 hg5 ha5; have hB5 := hW1.trans hb5; obtain ⟨x5, g5', o5', hx5e, hx5f, e0, e1, e2⟩ := dot_at (hLd.below hB5) k hlt; cases hx5f; have hh : x9 = x5 := (by have := HX.out; rw [hx5e] at this; cases this; rfl); subst hh; clear hx5e)
                  | (refine step_append_rows encD_len (by decide) encD_one (by rfl) (.tmp 45) (.tmp 48) 22 (by rfl) 26 i0 (.agg #[.int .i64 0, .int .i64 0, .int .i64 0]) 24 Try.underlying22 hi hz0 hz1 hz2 rfl  hA2 rfl (F1 _ hW2) rfl K (by omega) (by unfold maxLen; omega) (by omega) hW2.size ?_; intro a5 q5 w5 hO5 hb5 hg5 ha5; have hB5 := hW2.trans hb5; have hx5 := row_grown hx2 hg5 (fun z hz => by cases hz; intro y hy; cases hy; simp))
                  | (refine step_append_rows encD_len (by decide) encD_one (by rfl) (.tmp 45) (.tmp 48) 22 (by rfl) 26 i0 (.agg #[.int .i64 0, .int .i64 0, .int .i64 0]) 24 Try.underlying22 hi hz0 hz1 hz2 rfl  hA3 rfl (F1 _ hW3) rfl K (by omega) (by unfold maxLen; omega) (by omega) hW3.size ?_; intro a5 q5 w5 hO5 hb5 hg5 ha5; have hB5 := hW3.trans hb5; have hx5 := row_grown hx3 hg5 (fun z hz => by cases hz; intro y hy; cases hy; simp))
                  | (refine step_append_row1 encD_len (by decide) encD_one (by rfl) (.tmp 49) (.tmp 54) 22 (by rfl) 26 i0 (.agg #[.int .i64 0, .int .i64 0, .int .i64 0]) 24 Try.underlying22 hi hz0 hz1 hz2 rfl  hO5 rfl x9 rfl rfl (K + 1) rfl (by unfold maxLen; omega) (by omega) hB5.size ?_; intro a7 q7 w7 hO7 hb7 hg7 ha7; have hB7 := hB5.trans hb7)
                  | (refine step_append_rows encD_len (by decide) encD_one (by rfl) (.tmp 49) (.tmp 54) 22 (by rfl) 26 i0 (.agg #[.int .i64 0, .int .i64 0, .int .i64 0]) 24 Try.underlying22 hi hz0 hz1 hz2 rfl  hO5 rfl hx5 rfl (K + 1) rfl (by unfold maxLen; omega) (by omega) hB5.size ?_; intro a7 q7 w7 hO7 hb7 hg7 ha7; have hB7 := hB5.trans hb7)
                  | (refine step_append_rows encD_len (by decide) encD_one (by rfl) (.tmp 55) (.tmp 58) 22 (by rfl) 26 i0 (.agg #[.int .i64 0, .int .i64 0, .int .i64 0]) 24 Try.underlying22 hi hz0 hz1 hz2 rfl  hO7 rfl (F2 _ hB7) rfl (m + 1) (by omega) (by unfold maxLen; omega) (by omega) hB7.size ?_; intro a9 q9 w9 hO9 hb9 hg9 ha9; have hB9 := hB7.trans hb9))
                all_goals
                  have hB10 := hbd.trans (hB9.mono hbd.size)
                  have hlist : Hid ((([] ++ O.take K) ++ [x9]) ++ O.drop K = insD x9 O) := by unfold Hid; rw [hins.out]; simp
                  have hg10 : ∃ g, a9 = some ⟨g, 0, none⟩ := by rcases hO9.head with ⟨_, cz, _⟩ | ⟨g, e, _, _⟩ <;> first | exact ⟨g, e⟩ | omega
                  go_wp2_with fail
                  go_roundw
                  case rel => exact ⟨k + 1, m + 1, a9, q9, by omega, by omega, rfl, by go_num, by rw [hst.out, ← hlist.out]; exact hO9.base (Nat.le_trans HB.out.size hbd.size), hg10, HB.out.trans (hB10.mono HB.out.size)⟩
                  case measure => simp [intOf]; omega
        · obtain rfl : K = m := by omega
          have hfi := Lib.hid (find_front hs.out (by omega) (.inl hlen.symm))
          have hins : Hid (insD x' O = O.take K ++ x' :: O.drop K) := by
            unfold Hid insD
            rw [hfi.out, List.getElem?_eq_none (by omega)]
            simp
          have g0' : decide ((K : Int) < (K : Int)) = false := decide_eq_false (by omega)
          have g1' : ¬ (K : Int) < (K : Int) := by omega
          have n1 : ((K : Int) == (K : Int)) = true := by simp
          clear hs c0 c1 c2
          go_wp2_with fail
          go_quiet (fail)
          go_wp2_with fail
          go_quiet (fail)
          go_wp2_with fail
          refine wp_some (fun wd => Below wo.heap.size wo wd) (below_drawn2 (below_drawn2 HB2.out _) _) ?_
          clear HB2 h0 g0' g1' n1
          rintro wd hbd
          have hOd := (HO.out.below hbd (Nat.le_refl _)).row encD_len
          have hLd := HLk.out.below hbd
          have hd : Below wd.heap.size wd wd.drew := (Below.refl _ wd).drew
          have hW1 : Below wd.heap.size wd (wd.alloc (.cells #[] 26)).drew := (below_alloc wd _).drew
          have hW2 : Below wd.heap.size wd ((wd.alloc (.cells #[] 26)).alloc (.cells #[.int .i64 x'.dev, .int .i64 x'.inc, .int .i64 x'.seq] 26)).drew := ((below_alloc wd _).alloc (by simp) _).drew
          have hW3 : Below wd.heap.size wd ((wd.alloc (.cells #[.int .i64 x'.dev, .int .i64 x'.inc, .int .i64 x'.seq] 26)).alloc (.cells #[] 26)).drew := ((below_alloc wd _).alloc (by simp) _).drew
          have hA1 := (OwnZ.lit encD 3 26 wd).below (Below.refl _ _).drew (Nat.le_refl _)
          have hA2 := ((OwnZ.lit encD 3 26 wd).below (below_alloc _ (.cells #[.int .i64 x'.dev, .int .i64 x'.inc, .int .i64 x'.seq] 26)) (Nat.le_refl _)).below (Below.refl _ _).drew (Nat.le_refl _)
          have s1 : (wd.alloc (.cells #[.int .i64 x'.dev, .int .i64 x'.inc, .int .i64 x'.seq] 26)).heap.size = wd.heap.size + 1 := by simp
          have s2 : (wd.alloc (.cells #[] 26)).heap.size = wd.heap.size + 1 := by simp
          have hA3 := ((OwnZ.lit encD 3 26 (wd.alloc (.cells #[.int .i64 x'.dev, .int .i64 x'.inc, .int .i64 x'.seq] 26))).below (Below.refl _ _).drew (Nat.le_refl _)).base (base' := wd.heap.size) (by rw [s1]; exact Nat.le_succ _)
          have hx2 := (((OwnZ.new encD_len [x'] #[.int .i64 x'.dev, .int .i64 x'.inc, .int .i64 x'.seq] rfl 1 rfl (by unfold maxLen; omega) 26 (wd.alloc (.cells #[] 26))).below (Below.refl _ _).drew (Nat.le_refl _)).row encD_len)
          have hx3 := ((((OwnZ.new encD_len [x'] #[.int .i64 x'.dev, .int .i64 x'.inc, .int .i64 x'.seq] rfl 1 rfl (by unfold maxLen; omega) 26 wd).below (below_alloc _ (.cells #[] 26)) (Nat.le_refl _)).below (Below.refl _ _).drew (Nat.le_refl _)).row encD_len)
          rw [s1] at hA3
          rw [s2] at hx2
          have F1 := fun W (h : Below wd.heap.size wd W) => row_front (hOd.below h) K hK
          obtain ⟨x9, g9, o9, hx9, hx9', e0, e1, e2⟩ := dot_at hLd k hlt
          have hxx9 : x9 = x' := by have := HX.out; rw [hx9] at this; cases this; rfl
          subst hxx9
          cases hx9'
          clear hx9
          have fc0 := (hd.cell (cell_lt e0)).trans e0; have fc1 := (hd.cell (cell_lt e1)).trans e1; have fc2 := (hd.cell (cell_lt e2)).trans e2; skip
          have gc0 := (hW1.cell (cell_lt e0)).trans e0; have gc1 := (hW1.cell (cell_lt e1)).trans e1; have gc2 := (hW1.cell (cell_lt e2)).trans e2; skip
          have q1 : (0 : Int) ≤ (K : Int) := by omega
          have q2 : (K : Int) ≤ (K : Int) := by omega
          have q3 : (K : Int) ≤ (C : Int) := by omega
          have q4 : (K : Int) ≤ (C : Int) := by omega
          clear e0 e1 e2
          have F2 : ∀ W, Below wd.heap.size wd W → RowOf encD 3 W (if C = K then some ⟨g0, 0, none⟩ else some ⟨g0, K * 3, none⟩) 0 (C - K) (O.drop K) := fun W h => by
            split
            · have q := row_back (hOd.below h) K hK 0 (fun c => by omega); rw [Nat.sub_self] at q; exact q
            · have q := row_back (hOd.below h) K hK (K * 3) (fun c => by omega); rw [Nat.sub_self] at q; exact q
          go_region_law (first
            | (refine step_append_rows encD_len (by decide) encD_one (by rfl) (.tmp 45) (.tmp 48) 22 (by rfl) 26 i0 (.agg #[.int .i64 0, .int .i64 0, .int .i64 0]) 24 Try.underlying22 hi hz0 hz1 hz2 rfl  hA1 rfl (F1 _ hW1) rfl K (by omega) (by unfold maxLen; omega) (by omega) hW1.size ?_; intro a5 q5 w5 hO5 hb5 hg5 ha5; have hB5 := hW1.trans hb5; obtain ⟨x5, g5', o5', hx5e, hx5f, e0, e1, e2⟩ := dot_at (hLd.below hB5) k hlt; cases hx5f; have hh : x9 = x5 := (by have := HX.out; rw [hx5e] at this; cases this; rfl); subst hh; clear hx5e)
            | (refine step_append_rows encD_len (by decide) encD_one (by rfl) (.tmp 45) (.tmp 48) 22 (by rfl) 26 i0 (.agg #[.int .i64 0, .int .i64 0, .int .i64 0]) 24 Try.underlying22 hi hz0 hz1 hz2 rfl  hA2 rfl (F1 _ hW2) rfl K (by omega) (by unfold maxLen; omega) (by omega) hW2.size ?_; intro a5 q5 w5 hO5 hb5 hg5 ha5; have hB5 := hW2.trans hb5; have hx5 := row_grown hx2 hg5 (fun z hz => by cases hz; intro y hy; cases hy; simp))
            | (refine step_append_rows encD_len (by decide) encD_one (by rfl) (.tmp 45) (.tmp 48) 22 (by rfl) 26 i0 (.agg #[.int .i64 0, .int .i64 0, .int .i64 0]) 24 Try.underlying22 hi hz0 hz1 hz2 rfl  hA3 rfl (F1 _ hW3) rfl K (by omega) (by unfold maxLen; omega) (by omega) hW3.size ?_; intro a5 q5 w5 hO5 hb5 hg5 ha5; have hB5 := hW3.trans hb5; have hx5 := row_grown hx3 hg5 (fun z hz => by cases hz; intro y hy; cases hy; simp))
            | (refine step_append_row1 encD_len (by decide) encD_one (by rfl) (.tmp 49) (.tmp 54) 22 (by rfl) 26 i0 (.agg #[.int .i64 0, .int .i64 0, .int .i64 0]) 24 Try.underlying22 hi hz0 hz1 hz2 rfl  hO5 rfl x9 rfl rfl (K + 1) rfl (by unfold maxLen; omega) (by omega) hB5.size ?_; intro a7 q7 w7 hO7 hb7 hg7 ha7; have hB7 := hB5.trans hb7)
            | (refine step_append_rows encD_len (by decide) encD_one (by rfl) (.tmp 49) (.tmp 54) 22 (by rfl) 26 i0 (.agg #[.int .i64 0, .int .i64 0, .int .i64 0]) 24 Try.underlying22 hi hz0 hz1 hz2 rfl  hO5 rfl hx5 rfl (K + 1) rfl (by unfold maxLen; omega) (by omega) hB5.size ?_; intro a7 q7 w7 hO7 hb7 hg7 ha7; have hB7 := hB5.trans hb7)
            | (refine step_append_rows encD_len (by decide) encD_one (by rfl) (.tmp 55) (.tmp 58) 22 (by rfl) 26 i0 (.agg #[.int .i64 0, .int .i64 0, .int .i64 0]) 24 Try.underlying22 hi hz0 hz1 hz2 rfl  hO7 rfl (F2 _ hB7) rfl (K + 1) (by omega) (by unfold maxLen; omega) (by omega) hB7.size ?_; intro a9 q9 w9 hO9 hb9 hg9 ha9; have hB9 := hB7.trans hb9))
          all_goals
            have hB10 := hbd.trans (hB9.mono hbd.size)
            have hlist : Hid ((([] ++ O.take K) ++ [x9]) ++ O.drop K = insD x9 O) := by unfold Hid; rw [hins.out]; simp
            have hg10 : ∃ g, a9 = some ⟨g, 0, none⟩ := by rcases hO9.head with ⟨_, cz, _⟩ | ⟨g, e, _, _⟩ <;> first | exact ⟨g, e⟩ | omega
            go_wp2_with fail
            go_roundw
            case rel => exact ⟨k + 1, K + 1, a9, q9, by omega, by omega, rfl, by go_num, by rw [hst.out, ← hlist.out]; exact hO9.base (Nat.le_trans HB.out.size hbd.size), hg10, HB.out.trans (hB10.mono HB.out.size)⟩
            case measure => simp [intOf]; omega
    · obtain rfl : k = n := by omega
      have e : Hid (L.take k = L) := by unfold Hid; rw [List.take_of_length_le (by rw [Hn.out]; exact Nat.le_refl _)]
      rw [e.out] at hO
      have hm3 : (sortD L).length = m := hO.2.1
      go_wp2
      go_ret
      exact ⟨_, C, by rw [hm3]; rfl, by rw [hm3]; exact hO, hB⟩
end Go.Proofs.Ytlggjijgilcloaa

/- Contracts of the reference of layer 16: a dot, packed. -/
namespace Go.Proofs.Ytlggjijgilcloaa
open Go.RowKit
set_option linter.unusedVariables false

set_option maxRecDepth 100000 in
theorem refDPutC (x : DotN) (n : Nat) (w : World) (hx : rightD x = true) (hn : (bytesD x).length = n) :
    Calls Try.prog 43 #[.agg #[.int .i64 x.dev, .int .i64 x.inc, .int .i64 x.seq]] w (GivesOwned 5 ((bytesD x).map (Value.int .u8)) n w) := by
  obtain ⟨i0, hi, hz0, hz1, hz2⟩ := info_parts info8
  obtain ⟨d0, d1, e0, e1, s0, s1⟩ := right_range hx
  clear hx
  obtain ⟨dev, inc, seq⟩ := x
  dsimp only at *
  obtain ⟨D, rfl⟩ := Int.eq_ofNat_of_zero_le d0
  obtain ⟨I, rfl⟩ := Int.eq_ofNat_of_zero_le (show 0 ≤ inc by omega)
  obtain ⟨S, rfl⟩ := Int.eq_ofNat_of_zero_le (show 0 ≤ seq by omega)
  have o1 := ObjAt.new w #[.int .i64 (D : Int), .int .i64 (I : Int), .int .i64 (S : Int)] 26
  have b1 := below_alloc w (.cells #[.int .i64 (D : Int), .int .i64 (I : Int), .int .i64 (S : Int)] 26)
  have hs1 : w.heap.size < (w.alloc (.cells #[.int .i64 (D : Int), .int .i64 (I : Int), .int .i64 (S : Int)] 26)).heap.size := by simp
  have u0 := o1.cell 0 rfl; have u1 := o1.cell 1 rfl; have u2 := o1.cell 2 rfl
  have l1 := short_ten D (by omega)
  have l2 := short_ten I (by omega)
  have l3 := short_ten S (by omega)
  unfold bytesD at *
  dsimp only at *
  rw [Int.toNat_natCast, Int.toNat_natCast, Int.toNat_natCast] at *
  rw [List.length_append, List.length_append] at hn
  have H1 := fun w => refNumC (short D) D (short D).length w rfl rfl (by omega)
  have H2 := fun w => refNumC (short I) I (short I).length w rfl rfl (by omega)
  have H3 := fun w => refNumC (short S) S (short S).length w rfl rfl (by omega)
  rw [List.map_append, List.map_append, ← List.append_assoc]
  obtain ⟨m1, h1⟩ : ∃ m, (short D).length = m := ⟨_, rfl⟩
  obtain ⟨m2, h2⟩ : ∃ m, (short I).length = m := ⟨_, rfl⟩
  obtain ⟨m3, h3⟩ : ∃ m, (short S).length = m := ⟨_, rfl⟩
  rw [h1, h2, h3] at hn
  rw [h1] at H1 l1
  rw [h2] at H2 l2
  rw [h3] at H3 l3
  generalize short D = y1 at *
  generalize short I = y2 at *
  generalize short S = y3 at *
  have L2 := Lib.hid h2
  have L3 := Lib.hid h3
  have hn12 : m1 + m2 + m3 = n := by omega
  clear h1 h2 h3 hn
  have c1 : ((D : Nat) : Int) < 18446744073709551616 := by omega
  have c2 : ((I : Nat) : Int) < 18446744073709551616 := by omega
  have c3 : ((S : Nat) : Int) < 18446744073709551616 := by omega
  go_enter Try.func43, Try.ntmps43
  go_wp2_with (first
    | (go_at_call 42; (with_reducible refine (H1 _).mono ?_); rintro e w2 ⟨a2, c2, rfl, ho2, hx2⟩; have b2 := b1.trans (hx2.mono b1.size); have o2 := o1.below hx2 o1.lt; have v0 := o2.cell 0 rfl; have v1 := o2.cell 1 rfl; have v2 := o2.cell 2 rfl)
    | (go_at_call 42; (with_reducible refine (H2 _).mono ?_); rintro e w3 ⟨a3, c3, rfl, ho3, hx3⟩; have b3 := b2.trans (hx3.mono b2.size); have ho23 := (ho2.base b1.size).below hx3 (Nat.le_refl _); have o3 := o2.below hx3 o2.lt)
    | (at_builtin; refine wpList_append_where rfl (.tmp 9) (.tmp 14) 42 rfl 5 i0 (.int .u8 0) 1 Try.underlying42 hi hz0 hz1 hz2 rfl ho23 rfl ho3.reads rfl (by rw [List.length_map, L2.out]) ho3.nil0 (bytes_one y2 .u8) (m1 + m2) rfl (by unfold maxLen; omega) (by omega) b3.size ?_; intro a4 c4 w4 ho4 hx4 hg4 hn4; have b4 := b3.trans hx4; have o4 := o3.keeps (Keeps.ofGrown hx4 hg4) (fun hk => absurd ((ho2.at' _ hk).1) (Nat.not_le.2 hs1)); have v0 := o4.cell 0 rfl; have v1 := o4.cell 1 rfl; have v2 := o4.cell 2 rfl)
    | (go_at_call 42; (with_reducible refine (H3 _).mono ?_); rintro e w5 ⟨a5, c5, rfl, ho5, hx5⟩; have b5 := b4.trans (hx5.mono b4.size); have ho45 := ho4.below hx5 (Nat.le_refl _))
    | (at_builtin; refine wpList_append_where rfl (.tmp 16) (.tmp 20) 42 rfl 5 i0 (.int .u8 0) 1 Try.underlying42 hi hz0 hz1 hz2 rfl ho45 rfl ho5.reads rfl (by rw [List.length_map, L3.out]) ho5.nil0 (bytes_one y3 .u8) n hn12 (by unfold maxLen; omega) (by omega) b5.size ?_; intro a6 c6 w6 ho6 hx6 hg6 hn6))
  go_ret
  exact ⟨a6, c6, rfl, ho6, b5.trans hx6⟩
end Go.Proofs.Ytlggjijgilcloaa

/- How dots as arguments are opened. -/
namespace Go.Proofs.Ytlggjijgilcloaa
open Go.ChangeShapes Go.WideShapes Go.ChangeAt Go.RowKit
set_option linter.unusedVariables false

instance : Inhabited DotN := ⟨⟨0, 0, 0⟩⟩

theorem wf_is64 {n : Int} (h : (Lit.int .i64 n).wf = true) : is64 n := by
  have h2 : IntKind.i64.min ≤ n ∧ n ≤ IntKind.i64.max := by simpa [Lit.wf] using h
  exact h2

theorem leaves_dot {l : List Value} (q0 : leavesOk [.num .i64, .num .i64, .num .i64] l) : ∃ x : DotN, l = encD x ∧ FitD x := by
  obtain ⟨v0, l0, e0, ⟨a, rfl, z0⟩, q1⟩ := leaves_cons q0
  obtain ⟨v1, l1, e1, ⟨b, rfl, z1⟩, q2⟩ := leaves_cons q1
  obtain ⟨v2, l2, e2, ⟨c, rfl, z2⟩, q3⟩ := leaves_cons q2
  have e3 := leaves_nil q3
  subst e3 e2 e1 e0
  exact ⟨⟨a, b, c⟩, rfl, wf_is64 z0, wf_is64 z1, wf_is64 z2⟩

set_option maxRecDepth 100000 in
theorem open_dots {H : Type} {enc : TypeId × Value → H} {w : World} {r : Reach} {b0 : Nat} {v : Value} {d : DataW H} {p : List MemPlace} (hv : Value.okWide Try.prog w r b0 22 v) (h : DataW.Trod enc Try.prog w 0 (fun _ => true) true 22 v d p) :
    ∃ a len cap, ∃ Q : List DotN, v = .slice a len cap ∧ RowOf encD 3 w a len cap Q ∧ ∀ x ∈ Q, FitD x :=
  open_rows_of encD FitD 3 4 [.num .i64, .num .i64, .num .i64] Try.underlying22 (by kernel_rfl) (by decide) (by kernel_rfl) (fun cs h => leaves_dot h) hv h

set_option maxRecDepth 100000 in
theorem open_dotX {H : Type} {enc : TypeId × Value → H} {w : World} {r : Reach} {b0 : Nat} {v : Value} {d : DataW H} {p : List MemPlace} (hv : Value.okWide Try.prog w r b0 26 v) (h : DataW.Trod enc Try.prog w 0 (fun _ => true) true 26 v d p) :
    ∃ x : DotN, v = .agg #[.int .i64 x.dev, .int .i64 x.inc, .int .i64 x.seq] ∧ FitD x := by
  obtain ⟨cs, rfl, hl⟩ := open_flat 4 [.num .i64, .num .i64, .num .i64] Try.underlying26 (by kernel_rfl) hv h
  obtain ⟨x, h1, h2⟩ := leaves_dot hl
  refine ⟨x, ?_, h2⟩
  have : cs = #[.int .i64 x.dev, .int .i64 x.inc, .int .i64 x.seq] := Array.toList_inj.mp h1
  rw [this]
end Go.Proofs.Ytlggjijgilcloaa

/- Dots as keys of maps; maps of the call's own whose elements are numbers. -/
namespace Go.Proofs.Ytlggjijgilcloaa
open Go.RowKit Go.WideMaps
set_option linter.unusedVariables false

theorem laidOutK : laidOutB Try.prog = true := by kernel_rfl
theorem lawDot : KeyLaw Try.prog 26 := deep_law_laid laidOutK (m := 4) (by omega) (of_decide_eq_true (by kernel_rfl)) (by kernel_rfl) (by kernel_rfl)
theorem keyedDot : Go.Maps.Keyed Try.prog 26 := Go.Maps.Keyed.of_law lawDot

/-- What a dot reads as, as a key. -/
def keyD (x : DotN) : Lit := .string (keyBytes [.int .i64 x.dev, .int .i64 x.inc, .int .i64 x.seq])
theorem fit_wf {n : Int} (h : is64 n) : (Lit.int .i64 n).wf = true := by
  have h2 : IntKind.i64.min ≤ n ∧ n ≤ IntKind.i64.max := h
  simp only [Lit.wf, Bool.and_eq_true, decide_eq_true_eq]
  exact h2

set_option maxRecDepth 100000 in
theorem key_dot {x : DotN} (hx : FitD x) : keyOf Try.prog 26 (.agg #[.int .i64 x.dev, .int .i64 x.inc, .int .i64 x.seq]) = some (keyD x) := by
  have w1 := fit_wf hx.dev
  have w2 := fit_wf hx.inc
  have w3 := fit_wf hx.seq
  have hk : Try.prog.keyType 26 = true := by kernel_rfl
  obtain ⟨m, hm⟩ : ∃ m, Try.prog.types.size = m + 2 := ⟨Try.prog.types.size - 2, by kernel_rfl⟩
  have hc : Try.prog.cellsOf 26 = 3 := by kernel_rfl
  have hc2 : Try.prog.cellsOf 24 = 2 := by kernel_rfl
  have hc3 : Try.prog.cellsOf 3 = 1 := by kernel_rfl
  have hf : (Value.agg #[.int .i64 x.dev, .int .i64 x.inc, .int .i64 x.seq]).formed Try.prog 26 = true := by simp [Value.formed, Try.underlying26, hc]
  have hl : Try.prog.keyLits (Try.prog.types.size + 1) 26 [.int .i64 x.dev, .int .i64 x.inc, .int .i64 x.seq] = some [.int .i64 x.dev, .int .i64 x.inc, .int .i64 x.seq] := by
    rw [hm]
    simp [Program.keyLits, Try.underlying26, Try.underlying24, Try.underlying3, hc, hc2, hc3, w1, w2, w3]
    rw [if_pos (by decide)]
    rfl
  unfold keyOf
  rw [Try.underlying26]
  simp only [hk, hf]
  show Option.map _ (Try.prog.keyLits _ _ [.int .i64 x.dev, .int .i64 x.inc, .int .i64 x.seq]) = _
  rw [hl]
  rfl

theorem keyD_inj {x y : DotN} (hx : FitD x) (hy : FitD y) (h : keyD x = keyD y) : x = y := by
  have e := keyedDot.inj (key_dot hx) (h ▸ key_dot hy)
  simp only [Value.agg.injEq, Array.mk.injEq, List.cons.injEq, Value.int.injEq, true_and, and_true] at e
  exact DotN.ext' e.1 e.2.1 e.2.2
end Go.Proofs.Ytlggjijgilcloaa

/- The order of dots as a comparison that the library's sort is handed (dot.compareDots, dot.Compare by cmp.Compare). -/
namespace Go.Proofs.Ytlggjijgilcloaa
open Go.RowKit Go.Sort
set_option linter.unusedVariables false

def cmpN (a b : Int) : Int := if a < b then -1 else if b < a then 1 else 0

theorem isNaNC (a : Int) (w : World) : Calls Try.prog 79 #[.int .i64 a] w fun e w' => e = .returned (.bool false) ∧ w = w' := by
  go_enter Try.func79, Try.ntmps79
  go_wp2
  go_ret
  exact ⟨by simp, rfl⟩

theorem cmpIntC (a b : Int) (w : World) : Calls Try.prog 66 #[.int .i64 a, .int .i64 b] w fun e w' => e = .returned (.int .i64 (cmpN a b)) ∧ w = w' := by
  have H := fun x w => isNaNC x w
  unfold cmpN
  by_cases h1 : a < b
  · rw [if_pos h1]
    go_enter Try.func66, Try.ntmps66
    go_wp2_with (go_at_call 79; (with_reducible refine (H _ _).mono ?_); rintro e w1 ⟨rfl, rfl⟩)
    go_ret
    exact ⟨rfl, rfl⟩
  · rw [if_neg h1]
    by_cases h2 : b < a
    · rw [if_pos h2]
      go_enter Try.func66, Try.ntmps66
      go_wp2_with (go_at_call 79; (with_reducible refine (H _ _).mono ?_); rintro e w1 ⟨rfl, rfl⟩)
      go_ret
      exact ⟨rfl, rfl⟩
    · rw [if_neg h2]
      go_enter Try.func66, Try.ntmps66
      go_wp2_with (go_at_call 79; (with_reducible refine (H _ _).mono ?_); rintro e w1 ⟨rfl, rfl⟩)
      go_ret
      exact ⟨rfl, rfl⟩

def cmpAG (d i e j : Int) : Int := if d = e then cmpN i j else cmpN d e
theorem cmpAG_is (d i e j : Int) : cmpAG d i e j = cmpA d i e j := by
  unfold cmpAG cmpA aheadA cmpN
  by_cases h : d = e
  · subst h
    simp
  · have h2 : e ≠ d := fun c => h c.symm
    rw [if_neg h, if_pos h, if_pos h2]
    simp

set_option maxRecDepth 100000 in
theorem dotCompareG (d i e j : Int) (w : World) :
    Calls Try.prog 59 #[.agg #[.int .i64 d, .int .i64 i], .agg #[.int .i64 e, .int .i64 j]] w fun en w' => en = .returned (.int .i64 (cmpAG d i e j)) ∧ Grows w w' := by
  obtain ⟨o1, o2, hb⟩ := two_objs w #[.int .i64 d, .int .i64 i] #[.int .i64 e, .int .i64 j] 24 24
  have u0 := o1.cell 0 rfl; have u1 := o1.cell 1 rfl
  have v0 := o2.cell 0 rfl; have v1 := o2.cell 1 rfl
  have hg : Grows w ((w.alloc (.cells #[.int .i64 d, .int .i64 i] 24)).alloc (.cells #[.int .i64 e, .int .i64 j] 24)) := (Grows.alloc w _).trans (Grows.alloc _ _)
  clear o1 o2 hb
  have H1 := fun w => cmpIntC d e w
  have H2 := fun w => cmpIntC i j w
  unfold cmpAG
  generalize cmpN d e = C1 at *
  generalize cmpN i j = C2 at *
  by_cases h : d = e
  · have e1 : (d != e) = false := by rw [h]; simp
    have e2 : (d == e) = true := beq_iff_eq.2 h
    rw [if_pos h]
    clear h
    go_enter Try.func59, Try.ntmps59
    go_wp2_with (go_at_call 66; (with_reducible refine (H2 _).mono ?_); rintro e w1 ⟨rfl, rfl⟩)
    go_ret
    exact ⟨rfl, hg⟩
  · have e1 : (d != e) = true := by simp [h]
    have e2 : (d == e) = false := beq_eq_false_iff_ne.2 h
    rw [if_neg h]
    clear h
    go_enter Try.func59, Try.ntmps59
    go_wp2_with (go_at_call 66; (with_reducible refine (H1 _).mono ?_); rintro e w1 ⟨rfl, rfl⟩)
    go_ret
    exact ⟨rfl, hg⟩

def ordD (x y : DotN) : Int := if x.dev = y.dev ∧ x.inc = y.inc then cmpN x.seq y.seq else cmpAG x.dev x.inc y.dev y.inc

set_option maxRecDepth 100000 in
theorem dotOrderG (x y : DotN) (w : World) :
    Calls Try.prog 61 #[.agg #[.int .i64 x.dev, .int .i64 x.inc, .int .i64 x.seq], .agg #[.int .i64 y.dev, .int .i64 y.inc, .int .i64 y.seq]] w fun en w' => en = .returned (.int .i64 (ordD x y)) ∧ Grows w w' := by
  obtain ⟨o1, o2, hb⟩ := two_objs w #[.int .i64 x.dev, .int .i64 x.inc, .int .i64 x.seq] #[.int .i64 y.dev, .int .i64 y.inc, .int .i64 y.seq] 26 26
  have u0 := o1.cell 0 rfl; have u1 := o1.cell 1 rfl; have u2 := o1.cell 2 rfl
  have v0 := o2.cell 0 rfl; have v1 := o2.cell 1 rfl; have v2 := o2.cell 2 rfl
  have hg : Grows w ((w.alloc (.cells #[.int .i64 x.dev, .int .i64 x.inc, .int .i64 x.seq] 26)).alloc (.cells #[.int .i64 y.dev, .int .i64 y.inc, .int .i64 y.seq] 26)) := (Grows.alloc w _).trans (Grows.alloc _ _)
  clear o1 o2 hb
  have H1 := fun w => dotCompareG x.dev x.inc y.dev y.inc w
  have H2 := fun w => cmpIntC x.seq y.seq w
  have hE := fun v => eqActor x.dev x.inc y.dev y.inc v
  unfold ordD
  generalize cmpAG x.dev x.inc y.dev y.inc = C1 at *
  generalize cmpN x.seq y.seq = C2 at *
  by_cases h : x.dev = y.dev ∧ x.inc = y.inc
  · rw [if_pos h]
    have e1 : (x.dev == y.dev && x.inc == y.inc) = true := by rw [h.1, h.2]; simp
    simp only [e1] at hE
    clear h e1 H1
    go_enter Try.func61, Try.ntmps61
    go_wp2_with (go_at_call 66; (with_reducible refine (H2 _).mono ?_); rintro e w1 ⟨rfl, rfl⟩)
    go_ret
    exact ⟨rfl, hg⟩
  · rw [if_neg h]
    have e1 : (x.dev == y.dev && x.inc == y.inc) = false := by rw [Bool.eq_false_iff]; intro c; rw [Bool.and_eq_true, beq_iff_eq, beq_iff_eq] at c; exact h c
    simp only [e1] at hE
    clear h e1 H2
    go_enter Try.func61, Try.ntmps61
    go_wp2_with (go_at_call 59; (with_reducible refine (H1 _).mono ?_); rintro e w1 ⟨rfl, hx⟩; have hg := hg.trans hx)
    go_ret
    exact ⟨rfl, hg⟩

theorem ord_neg (x y : DotN) : decide (ordD x y < 0) = lessD x y := by
  unfold ordD cmpAG cmpN
  rw [Bool.eq_iff_iff, decide_eq_true_iff, lessD_iff]
  repeat' split
  all_goals first | omega | (constructor <;> intros <;> first | omega | contradiction)

theorem ord_less (x y : DotN) : ltOf ordD x y = lessD x y := ord_neg x y

theorem swoD : SWO (ltOf ordD) where
  irrefl x := by rw [ord_less, lessD_irrefl]
  trans x y z h1 h2 := by rw [ord_less] at *; exact lessD_trans h1 h2
  ntrans x y z h1 h2 := by rw [ord_less] at *; exact lessD_ntrans h1 h2
end Go.Proofs.Ytlggjijgilcloaa

/- dot.Sort by a map of the dots that were met and the library's sort (the map's elements are struct{}). -/
namespace Go.Proofs.Ytlggjijgilcloaa
open Go.RowKit
set_option linter.unusedVariables false

/-- The map of the dots that were met: it has each of them, and no other one. -/
def MetAt (D : DataW Unit) (l : List DotN) : Prop := Go.Maps.IsMap D ∧ ∀ x, FitD x → Go.Maps.has D (keyD x) = l.any (sameD x)
theorem MetAt.empty : MetAt (.map []) [] := ⟨Go.Maps.isMap_empty, fun x _ => rfl⟩
theorem MetAt.put {D : DataW Unit} {l : List DotN} (h : MetAt D l) {x : DotN} (hx : FitD x) : MetAt (D.put (keyD x) (.agg [])) (l ++ [x]) := by
  refine ⟨h.1.put _ _, fun y hy => ?_⟩
  by_cases e : y = x
  · subst e
    rw [any_same.2 (by simp)]
    exact Go.Maps.has_put_same h.1 (keyedDot.key (key_dot hy)) _
  · have hne : keyD y ≠ keyD x := fun c => e (keyD_inj hy hx c)
    have he : (l ++ [x]).any (sameD y) = l.any (sameD y) := by
      rw [List.any_append, Bool.eq_iff_iff, Bool.or_eq_true]
      constructor
      · rintro (h | h)
        · exact h
        · rw [any_same, List.mem_singleton] at h
          exact absurd h e
      · exact .inl
    rw [he, Go.Maps.has_put_other hne]
    exact h.2 y hy

theorem zeroUnit (w : World) : (zeroValue 64).run Try.prog w = .ok (.agg #[]) w := by kernel_rfl

set_option maxHeartbeats 2000000 in
set_option maxRecDepth 100000 in
theorem dotSortC0 (a : Option Addr) (n c : Nat) (L : List DotN) (w : World) (hL : RowOf encD 3 w a n c L) (hF : ∀ x ∈ L, FitD x) (hn : n ≤ 100000) :
    Calls Try.prog 45 #[.slice a n c] w (GivesZ encD 3 26 (sortD L) (sortD L).length w) := by
  have hcm := hL.capm
  have hcl := hL.cle
  have hleq := hL.leq
  unfold maxLen at hcm
  have hmm := @run_makeMap Try.prog
  obtain ⟨i0, hi, hz0, hz1, hz2⟩ := info_parts infoDot
  have hm0 := World.ownsMap_made (H := Unit) w Try.prog 26 unitElem
  have hb0 := below_alloc w (.map #[] 0)
  have hs0 : w.heap.size + 1 = (w.alloc (.map #[] 0)).heap.size := by simp
  generalize hw0 : w.alloc (.map #[] 0) = w0 at *
  go_enter Try.func45, Try.ntmps45
  go_wp2
  go_loopw [3, 12] (fun v i wr => ∃ (k m c2 : Nat) (q : Option Addr) (D : DataW Unit), k ≤ n ∧ m ≤ k ∧ i = .int .i64 (k : Int) ∧ v = .slice q m c2 ∧ OwnZ encD 3 (w.heap.size + 1) 26 q m c2 (dedD (L.take k)) wr ∧ wr.ownsMap Try.prog 26 unitElem w.heap.size k D ∧ MetAt D (dedD (L.take k)) ∧ Below w.heap.size w wr) (fun _ i _ => n - (intOf i).toNat)
  case atStart => exact ⟨0, 0, 0, none, _, Nat.zero_le _, Nat.le_refl _, rfl, rfl, OwnZ.none _ _ _ _ _, hm0, MetAt.empty, hb0⟩
  case round =>
    obtain ⟨k, m, c2, q, D, hk, hm, rfl, rfl, hz, hmap, hmet, hb⟩ := hrel
    have hwr : w.heap.size + 1 ≤ wr.heap.size := by have := hmap.lt; omega
    by_cases hlt : k < n
    · have hlt' : (k : Int) < (n : Int) := by omega
      obtain ⟨x, g, off, hxk, rfl, u0, u1, u2⟩ := dot_at (hL.below hb) k hlt
      have hfx : FitD x := hF x (List.mem_of_getElem? hxk)
      have hstep : dedD (L.take (k + 1)) = if (dedD (L.take k)).any (sameD x) then dedD (L.take k) else dedD (L.take k) ++ [x] := by
        rw [take_snocI hxk, dedD_snoc]
      have HS := Lib.hid hstep
      have hat0 := hmet.2 x hfx
      have o1 := ObjAt.new wr #[.int .i64 x.dev, .int .i64 x.inc, .int .i64 x.seq] 26
      have b1 := below_alloc wr (.cells #[.int .i64 x.dev, .int .i64 x.inc, .int .i64 x.seq] 26)
      have hz1' := hz.below b1 (Nat.le_refl _)
      have hmap1 := hmap.alloc (.cells #[.int .i64 x.dev, .int .i64 x.inc, .int .i64 x.seq] 26)
      have hb1 := hb.trans (b1.mono hb.size)
      have v0 := o1.cell 0 rfl; have v1 := o1.cell 1 rfl; have v2 := o1.cell 2 rfl
      have hlt1 := o1.lt
      have hs1 : wr.heap.size < (wr.alloc (.cells #[.int .i64 x.dev, .int .i64 x.inc, .int .i64 x.seq] 26)).heap.size := by simp
      have b1b := below_alloc (wr.alloc (.cells #[.int .i64 x.dev, .int .i64 x.inc, .int .i64 x.seq] 26)) (.cells #[] 64)
      have o1b := o1.below b1b hlt1
      have hz1b := hz1'.below b1b (Nat.le_refl _)
      have hmap1b := hmap1.alloc (.cells #[] 64)
      have hb1b := hb1.trans (b1b.mono hb1.size)
      have s0 := o1b.cell 0 rfl; have s1 := o1b.cell 1 rfl; have s2 := o1b.cell 2 rfl
      have hs1b := b1b.size
      clear hstep hxk hz hmap b1 b1b
      generalize dedD (L.take k) = R at *
      cases hy : R.any (sameD x) with
      | true =>
        rw [hy, if_pos rfl] at HS
        rw [hy] at hat0
        go_wp2_with (at_lookup; refine wpList_lookup_own_unit _ rfl _ _ 57 rfl 26 64 keyedDot Try.underlying57 (zeroUnit _) w.heap.size _ _ rfl hmap1 _ _ rfl (key_dot hfx) ?_)
        go_roundw
        case rel => exact ⟨k + 1, m, c2, q, D, by omega, by omega, by go_num, rfl, by rw [HS.out]; exact hz1b, hmap1b.mono (by omega), by rw [HS.out]; exact hmet, hb1b⟩
        case measure => simp [intOf]; omega
      | false =>
        rw [hy, if_neg Bool.false_ne_true] at HS
        rw [hy] at hat0
        go_wp2_with (first
          | (at_lookup; refine wpList_lookup_own_unit _ rfl _ _ 57 rfl 26 64 keyedDot Try.underlying57 (zeroUnit _) w.heap.size _ _ rfl hmap1 _ _ rfl (key_dot hfx) ?_)
          | (at_mapUpdate; refine wpList_mapUpdate_own _ rfl _ _ _ 57 rfl 26 64 keyedDot Try.underlying57 unitElem w.heap.size _ _ rfl hmap1b (by unfold maxLen; omega) _ _ _ rfl rfl (key_dot hfx) _ [] unitElem_mk ?_; intro w2 hmap2 hg2; have k2 := Keeps.ofGrownBy hg2; have o2 := o1b.keeps k2 (fun e => by have := Option.some.inj e; omega); have hz2' := hz1b.keeps k2 (fun i h1 h2 => by have := Option.some.inj h2; have := (hz1b.lt' _ h1).1; omega); have hb2 := hb1b.trans (k2.below hb1b.size (fun i _ h => by have := Option.some.inj h; omega)); have x0 := o2.cell 0 rfl; have x1 := o2.cell 1 rfl; have x2 := o2.cell 2 rfl)
          | (at_builtin; refine wpList_append_row1 encD_len (by decide) encD_one rfl (.tmp 27) (.tmp 29) 22 rfl 26 i0 (.agg #[.int .i64 0, .int .i64 0, .int .i64 0]) 24 Try.underlying22 hi hz0 hz1 hz2 rfl hz2' rfl x rfl rfl (m + 1) rfl (by unfold maxLen; omega) (by omega) (Nat.le_trans hwr (by have := k2.size; omega)) ?_; intro q3 c3 w3 hz3 hx3 hg3 hn3; have k3 := Keeps.ofGrown hx3 hg3; have hmap3 := k3.grownBy (fun h => by have := (hz2'.lt' _ h).1; omega) hmap2; have hb3 := hb2.trans (hx3.mono (Nat.le_succ _))))
        go_roundw
        case rel => exact ⟨k + 1, m + 1, c3, q3, _, by omega, by omega, by go_num, rfl, by rw [HS.out]; exact hz3, hmap3, by rw [HS.out]; exact hmet.put hfx, hb3⟩
        case measure => simp [intOf]; omega
    · obtain rfl : k = n := by omega
      have e0 : L.take k = L := List.take_of_length_le (by rw [hleq]; exact Nat.le_refl _)
      rw [e0] at hz hmet
      have hRl : (dedD L).length = m := hz.2.1
      rcases hz.head with ⟨rfl, rfl, rfl⟩ | ⟨g, rfl, hg1, hg2⟩
      · have hnil : dedD L = [] := List.eq_nil_of_length_eq_zero hRl
        have hs : sortD L = [] := by
          refine List.eq_nil_iff_forall_not_mem.2 fun y hy => ?_
          rw [sortD_mem, ← dedD_mem, hnil] at hy
          cases hy
        have hcon := fun v => AnyF.slices_SortFunc_none Try.sortDot none 0 (.func (.func 61) #[] #[]) v
        change ∀ v, Calls Try.prog 60 _ v _ at hcon
        go_wp2_with (go_at_call 60; refine (hcon _).mono ?_; rintro e w2 ⟨rfl, rfl⟩)
        go_ret
        rw [hs]
        exact ⟨none, 0, rfl, OwnZ.none _ _ _ _ _, hb⟩
      · have eg : ∀ args w, (callFunc 61 args).run Try.prog w = .ok (.enter 61 args) w := enters_of Try.func61 (by kernel_rfl) rfl
        have hcmp : Go.Proofs.CmpLays Try.prog 61 #[] encD 3 ordD g 0 (dedD L).toArray.size wr := fun _ _ _ _ x y => dotOrderG x y _
        have hcon := AnyQ.slices_SortFunc Try.sortDot 3 Try.isAgg26 Try.sizeOf26 encD encD_len encD_one ordD swoD 61 #[] g 0 c2 (dedD L).toArray wr eg hcmp (own_holds encD_len hz) hg2 (by simp [hRl]; omega)
        have hsz : (dedD L).toArray.size = m := by simp [hRl]
        rw [hsz] at hcon
        change Calls Try.prog 60 _ wr _ at hcon
        have HZ := Lib.hid hz
        clear hcmp hmet hmap hz eg
        go_wp2_with (go_at_call 60; refine hcon.mono ?_; rintro e w2 ⟨rfl, d', nn, os, hp, hso, rfl⟩)
        go_ret
        rw [← hsz] at hp
        obtain ⟨p1, p2⟩ := permIn_all hp
        rw [hsz] at p1
        have hlist : d'.toList = sortD L := sortD_is p2 (by
          have := sortedIn_all p1 hso
          simpa only [ord_less] using this)
        have hown := own_sorted encD_len HZ.out d'.toList (by simpa using p1) nn os
        rw [Array.toArray_toList] at hown
        have hlen : (sortD L).length = m := by rw [← hlist]; simpa using p1
        refine ⟨some ⟨g, 0, none⟩, c2, by rw [hlen]; rfl, by rw [hlen, ← hlist]; exact hown.base (Nat.le_succ _), hb.trans ((keeps_sortedK d').below hb.size (fun i _ h => by subst h; omega))⟩
end Go.Proofs.Ytlggjijgilcloaa

/- The program's own contracts of layer 16 that want no table: which dots may be; a dot packed, and read. -/
namespace Go.Proofs.Ytlggjijgilcloaa
open Go.RowKit
set_option linter.unusedVariables false

set_option maxRecDepth 100000 in
theorem dotActorC0 (d i : Int) (w : World) :
    Calls Try.prog 47 #[.agg #[.int .i64 d, .int .i64 i]] w fun e w' => e = .returned (.bool (actorD d i)) ∧ Below w.heap.size w w' := by
  have o1 := ObjAt.new w #[.int .i64 d, .int .i64 i] 24
  have hb := below_alloc w (.cells #[.int .i64 d, .int .i64 i] 24)
  have u0 := o1.cell 0 rfl; have u1 := o1.cell 1 rfl
  clear o1
  unfold actorD
  by_cases q0 : 0 ≤ d
  · have d0 : decide (0 ≤ d) = true := decide_eq_true q0
    by_cases q1 : d ≤ 63
    · have d1 : decide (d ≤ 63) = true := decide_eq_true q1
      by_cases q2 : 1 ≤ i
      · have d2 : decide (1 ≤ i) = true := decide_eq_true q2
        by_cases q3 : i ≤ 1048576
        · have d3 : decide (i ≤ 1048576) = true := decide_eq_true q3
          go_enter Try.func47, Try.ntmps47
          go_wp2
          go_ret
          exact ⟨by simp [*], hb⟩
        · have d3 : decide (i ≤ 1048576) = false := decide_eq_false q3
          go_enter Try.func47, Try.ntmps47
          go_wp2
          go_ret
          exact ⟨by simp [*], hb⟩
      · have d2 : decide (1 ≤ i) = false := decide_eq_false q2
        go_enter Try.func47, Try.ntmps47
        go_wp2
        go_ret
        exact ⟨by simp [*], hb⟩
    · have d1 : decide (d ≤ 63) = false := decide_eq_false q1
      go_enter Try.func47, Try.ntmps47
      go_wp2
      go_ret
      exact ⟨by simp [*], hb⟩
  · have d0 : decide (0 ≤ d) = false := decide_eq_false q0
    go_enter Try.func47, Try.ntmps47
    go_wp2
    go_ret
    exact ⟨by simp [*], hb⟩

set_option maxRecDepth 100000 in
theorem dotRightC0 (x : DotN) (w : World) :
    Calls Try.prog 27 #[.agg #[.int .i64 x.dev, .int .i64 x.inc, .int .i64 x.seq]] w fun e w' => e = .returned (.bool (rightD x)) ∧ Below w.heap.size w w' := by
  have o1 := ObjAt.new w #[.int .i64 x.dev, .int .i64 x.inc, .int .i64 x.seq] 26
  have hb := below_alloc w (.cells #[.int .i64 x.dev, .int .i64 x.inc, .int .i64 x.seq] 26)
  have u0 := o1.cell 0 rfl; have u1 := o1.cell 1 rfl
  have HA := fun v => dotActorC0 x.dev x.inc v
  unfold rightD
  generalize actorD x.dev x.inc = A at *
  cases A with
  | false =>
    go_enter Try.func27, Try.ntmps27
    go_wp2_with (go_at_call 47; (with_reducible refine (HA _).mono ?_); rintro e w1 ⟨rfl, hx⟩; have hb := hb.trans (hx.mono hb.size))
    go_ret
    exact ⟨rfl, hb⟩
  | true =>
    by_cases q0 : 1 ≤ x.seq
    · have d0 : decide (1 ≤ x.seq) = true := decide_eq_true q0
      by_cases q1 : x.seq ≤ 4294967296
      · have d1 : decide (x.seq ≤ 4294967296) = true := decide_eq_true q1
        go_enter Try.func27, Try.ntmps27
        go_wp2_with (first
          | (go_at_call 47; (with_reducible refine (HA _).mono ?_); rintro e w1 ⟨rfl, hx⟩; have o2 := o1.below hx o1.lt; have v2 := o2.cell 2 rfl; have hb := hb.trans (hx.mono hb.size); clear hx))
        go_ret
        exact ⟨by simp [*], hb⟩
      · have d1 : decide (x.seq ≤ 4294967296) = false := decide_eq_false q1
        go_enter Try.func27, Try.ntmps27
        go_wp2_with (first
          | (go_at_call 47; (with_reducible refine (HA _).mono ?_); rintro e w1 ⟨rfl, hx⟩; have o2 := o1.below hx o1.lt; have v2 := o2.cell 2 rfl; have hb := hb.trans (hx.mono hb.size); clear hx))
        go_ret
        exact ⟨by simp [*], hb⟩
    · have d0 : decide (1 ≤ x.seq) = false := decide_eq_false q0
      go_enter Try.func27, Try.ntmps27
      go_wp2_with (first
        | (go_at_call 47; (with_reducible refine (HA _).mono ?_); rintro e w1 ⟨rfl, hx⟩; have o2 := o1.below hx o1.lt; have v2 := o2.cell 2 rfl; have hb := hb.trans (hx.mono hb.size); clear hx))
      go_ret
      exact ⟨by simp [*], hb⟩

set_option maxRecDepth 100000 in
theorem dotPutC0 (base p : Nat) (a : Option Addr) (l : List Int) (x : DotN) (w : World) (hw : Wr 5 base p a l w) (hlen : l.length ≤ 1000000000) (hbase : base ≤ w.heap.size) (hx : FitD x) :
    Calls Try.prog 54 #[.pointer (some ⟨p, 0, none⟩), .agg #[.int .i64 x.dev, .int .i64 x.inc, .int .i64 x.seq]] w (PutGives base p a (l ++ putD x) w) := by
  have hrr := fun h => right_range (x := x) h
  obtain ⟨dev, inc, seq⟩ := x
  have o1 := ObjAt.new w #[.int .i64 dev, .int .i64 inc, .int .i64 seq] 26
  have b1 := below_alloc w (.cells #[.int .i64 dev, .int .i64 inc, .int .i64 seq] 26)
  have hlt1 := o1.lt
  have u0 := o1.cell 0 rfl; have u1 := o1.cell 1 rfl; have u2 := o1.cell 2 rfl
  have HR := fun v => dotRightC0 ⟨dev, inc, seq⟩ v
  unfold putD
  cases hr : rightD ⟨dev, inc, seq⟩ with
  | false =>
    rw [hr] at HR
    rw [if_neg Bool.false_ne_true, List.append_nil]
    clear hrr hr
    go_enter Try.func54, Try.ntmps54
    go_wp2_with (go_at_call 27; (with_reducible refine (HR _).mono ?_); rintro e w1 ⟨rfl, hx⟩; have hb := b1.trans (hx.mono b1.size))
    go_end0
    exact ⟨rfl, a, hw.below hb, Kept.of hb, Near.refl _ _⟩
  | true =>
    obtain ⟨d0, d1, e0, e1, s0, s1⟩ := hrr hr
    dsimp only at d0 d1 e0 e1 s0 s1
    rw [hr] at HR
    rw [if_pos rfl]
    clear hrr hr
    obtain ⟨D, rfl⟩ := Int.eq_ofNat_of_zero_le d0
    obtain ⟨I, rfl⟩ := Int.eq_ofNat_of_zero_le (show 0 ≤ inc by omega)
    obtain ⟨S, rfl⟩ := Int.eq_ofNat_of_zero_le (show 0 ≤ seq by omega)
    unfold bytesD
    dsimp only
    rw [Int.toNat_natCast, Int.toNat_natCast, Int.toNat_natCast, ← List.append_assoc, ← List.append_assoc]
    have t1 := short_ten D (by omega)
    have t2 := short_ten I (by omega)
    have q1 : IntKind.u64.wrap (D : Int) = (D : Int) := by rw [IntKind.wrap_u64]; omega
    have q2 : IntKind.u64.wrap (I : Int) = (I : Int) := by rw [IntKind.wrap_u64]; omega
    have q3 : IntKind.u64.wrap (S : Int) = (S : Int) := by rw [IntKind.wrap_u64]; omega
    have H1 := fun w hw hb => wNumC base p D a l w hw (by omega) hb (by omega)
    have H2 := fun a w hw hb => wNumC base p I a (l ++ short D) w hw (by rw [List.length_append]; omega) hb (by omega)
    have H3 := fun a w hw hb => wNumC base p S a (l ++ short D ++ short I) w hw (by rw [List.length_append, List.length_append]; omega) hb (by omega)
    generalize l ++ short D = l1 at *
    generalize l1 ++ short I = l2 at *
    generalize l2 ++ short S = l3 at *
    clear d0 d1 e0 e1 s0 s1 t1 t2 hlen
    have hpw := hw.lt.2
    have har := fun k h => (hw.at' k h).2.1
    have hw1 := hw.below b1
    go_enter Try.func54, Try.ntmps54
    go_wp2_with (go_at_call 27; (with_reducible refine (HR _).mono ?_); rintro e w2 ⟨rfl, hx2⟩; have o2 := o1.below hx2 hlt1; have hw2 := hw1.below hx2; have b2 := b1.trans (hx2.mono b1.size); have s2 := Nat.lt_of_lt_of_le hlt1 hx2.size; clear hx2)
    have bd : Below w2.heap.size w2 w2.drew := (Below.refl _ w2).drew
    have od := o2.below bd s2
    have hwd := hw2.below bd
    have b2d := b2.trans (bd.mono b2.size)
    have sd : w.heap.size < w2.drew.heap.size := Nat.lt_of_lt_of_le s2 bd.size
    go_region_held3 (fun w' => w'.cell? ⟨w.heap.size, 0, none⟩ = some (.int .i64 (D : Int)) ∧ w'.cell? ⟨w.heap.size, 1, none⟩ = some (.int .i64 (I : Int)) ∧ w'.cell? ⟨w.heap.size, 2, none⟩ = some (.int .i64 (S : Int)))
      (first | exact ⟨o5.cell 0 rfl, o5.cell 1 rfl, o5.cell 2 rfl⟩ | exact ⟨o4.cell 0 rfl, o4.cell 1 rfl, o4.cell 2 rfl⟩ | exact ⟨o3.cell 0 rfl, o3.cell 1 rfl, o3.cell 2 rfl⟩ | exact ⟨od.cell 0 rfl, od.cell 1 rfl, od.cell 2 rfl⟩)
      (first
        | (go_at_call 53; (with_reducible refine (H1 _ hwd (Nat.le_trans hbase b2d.size)).mono ?_); rintro e w3 ⟨rfl, a3, hw3, k3, n3⟩; have o3 := od.keeps (Keeps.ofKept k3) (fun h => h.elim (fun e => by omega) (fun h => by have := har _ h; omega)); have K3 := (Kept.of b2d (p := p) (a := a)).trans (Near.refl _ _) k3; have N3 := n3.early b2d.size; have ap3 : ¬ At a3 w.heap.size := (apart_iff.1 (n3 _ sd (apart_iff.2 (fun h => by have := har _ h; omega)))); have sd3 := Nat.lt_of_lt_of_le sd k3.size; have hb3 := Nat.le_trans hbase K3.size)
        | (go_at_call 53; (with_reducible refine (H2 _ _ hw3 hb3).mono ?_); rintro e w4 ⟨rfl, a4, hw4, k4, n4⟩; have o4 := o3.keeps (Keeps.ofKept k4) (fun h => h.elim (fun e => by omega) ap3); have K4 := K3.trans N3 k4; have N4 := N3.trans n4 K3.size; have ap4 : ¬ At a4 w.heap.size := (apart_iff.1 (n4 _ sd3 (apart_iff.2 ap3))); have hb4 := Nat.le_trans hbase K4.size)
        | (go_at_call 53; (with_reducible refine (H3 _ _ hw4 hb4).mono ?_); rintro e w5 ⟨rfl, a5, hw5, k5, n5⟩; have o5 := o4.keeps (Keeps.ofKept k5) (fun h => h.elim (fun e => by omega) ap4); have K5 := K4.trans N4 k5; have N5 := N4.trans n5 K4.size))
    all_goals (
      go_wp2
      go_end0
      exact ⟨rfl, a5, hw5, K5, N5⟩)

end Go.Proofs.Ytlggjijgilcloaa
