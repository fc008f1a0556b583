/- Contracts and plain words that the laws' proofs stand on, put together. -/
import Derived.Test.YtelgaglnmcggkaaGreatDoorLibAA
import Derived.Test.YtelgaglnmcggkaaGreatDoorLibAD
import Derived.Test.YtelgaglnmcggkaaGreatDoorLibAF
import Derived.Test.YtelgaglnmcggkaaGreatDoorChecked
import Derived.WalkKit
import Derived.BigQuiet
import Derived.Shelf.SlSortCmp.InsertionK
/- Names of events in plain words: which may be, which are ahead. No program in it. -/
namespace Go.Proofs.YtelgaglnmcggkaaGreatDoor
set_option linter.unusedVariables false

/-- A dot: a device, its life, and the event's number. -/
structure DotN where
  dev : Int
  inc : Int
  seq : Int

theorem DotN.ext' {a b : DotN} (h1 : a.dev = b.dev) (h2 : a.inc = b.inc) (h3 : a.seq = b.seq) : a = b := by
  cases a; cases b
  simp only at h1 h2 h3
  subst h1 h2 h3
  rfl

def actorD (d i : Int) : Bool := decide (0 ≤ d) && (decide (d ≤ 63) && (decide (1 ≤ i) && decide (i ≤ 1048576)))
def rightD (x : DotN) : Bool := actorD x.dev x.inc && (decide (1 ≤ x.seq) && decide (x.seq ≤ 4294967296))
/-- Is an actor ahead of another one? -/
def aheadA (d i e j : Int) : Bool := if d ≠ e then decide (d < e) else decide (i < j)
def lessD (x y : DotN) : Bool := if x.dev = y.dev ∧ x.inc = y.inc then decide (x.seq < y.seq) else aheadA x.dev x.inc y.dev y.inc
def sameD (x y : DotN) : Bool := x.dev == y.dev && (x.inc == y.inc && x.seq == y.seq)
theorem sameD_iff {x y : DotN} : sameD x y = true ↔ x = y := by
  unfold sameD
  simp only [Bool.and_eq_true, beq_iff_eq]
  constructor
  · rintro ⟨h1, h2, h3⟩
    exact DotN.ext' h1 h2 h3
  · rintro rfl
    exact ⟨rfl, rfl, rfl⟩
def sameDs : List DotN → List DotN → Bool
  | [], [] => true
  | x :: l, y :: m => sameD x y && sameDs l m
  | _, _ => false
theorem sameDs_iff : ∀ {l m : List DotN}, sameDs l m = true ↔ l = m
  | [], [] => by simp [sameDs]
  | [], _ :: _ => by simp [sameDs]
  | _ :: _, [] => by simp [sameDs]
  | x :: l, y :: m => by rw [sameDs, Bool.and_eq_true, sameD_iff, sameDs_iff, List.cons.injEq]

theorem lessD_irrefl (x : DotN) : lessD x x = false := by
  unfold lessD
  rw [if_pos ⟨rfl, rfl⟩]
  exact decide_eq_false (Int.lt_irrefl _)
theorem lessD_total {x y : DotN} (h : x ≠ y) : lessD x y = !lessD y x := by
  unfold lessD
  by_cases c : x.dev = y.dev ∧ x.inc = y.inc
  · rw [if_pos c, if_pos ⟨c.1.symm, c.2.symm⟩]
    have h3 : x.seq ≠ y.seq := fun e => h (DotN.ext' c.1 c.2 e)
    by_cases e : x.seq < y.seq
    · rw [decide_eq_true e, decide_eq_false (show ¬ y.seq < x.seq by omega)]; rfl
    · rw [decide_eq_false e, decide_eq_true (show y.seq < x.seq by omega)]; rfl
  · rw [if_neg c, if_neg (fun q => c ⟨q.1.symm, q.2.symm⟩)]
    unfold aheadA
    by_cases d : x.dev = y.dev
    · have h3 : x.inc ≠ y.inc := fun e => c ⟨d, e⟩
      rw [if_neg (by simp [d]), if_neg (by simp [d])]
      by_cases e : x.inc < y.inc
      · rw [decide_eq_true e, decide_eq_false (show ¬ y.inc < x.inc by omega)]; rfl
      · rw [decide_eq_false e, decide_eq_true (show y.inc < x.inc by omega)]; rfl
    · rw [if_pos d, if_pos (Ne.symm d)]
      by_cases e : x.dev < y.dev
      · rw [decide_eq_true e, decide_eq_false (show ¬ y.dev < x.dev by omega)]; rfl
      · rw [decide_eq_false e, decide_eq_true (show y.dev < x.dev by omega)]; rfl

/-- A dot goes in ahead of the first one that is not less; but once alone. -/
def insD (x : DotN) (out : List DotN) : List DotN :=
  if (out[out.findIdx fun y => !lessD y x]?.map fun y => sameD y x).getD false = true then out else out.take (out.findIdx fun y => !lessD y x) ++ x :: out.drop (out.findIdx fun y => !lessD y x)
def sortD (l : List DotN) : List DotN := l.foldl (fun out x => insD x out) []
theorem insD_len (x : DotN) (out : List DotN) : (insD x out).length ≤ out.length + 1 := by
  unfold insD
  split
  · omega
  · rw [List.length_append, List.length_cons, List.length_take, List.length_drop]; omega
theorem sortD_snoc (l : List DotN) (x : DotN) : sortD (l ++ [x]) = insD x (sortD l) := by unfold sortD; rw [List.foldl_append]; rfl
theorem sortD_len (l : List DotN) : (sortD l).length ≤ l.length := by
  unfold sortD
  suffices h : ∀ (l : List DotN) (out : List DotN), (l.foldl (fun out x => insD x out) out).length ≤ l.length + out.length from by simpa using h l []
  intro l
  induction l with
  | nil => exact fun out => by simp
  | cons x l ih =>
    intro out
    have h1 := ih (insD x out)
    have h2 := insD_len x out
    rw [List.foldl_cons, List.length_cons]
    omega
end Go.Proofs.YtelgaglnmcggkaaGreatDoor

/- Names of events in plain words: packed, the next one, their text. No program in it. -/
namespace Go.Proofs.YtelgaglnmcggkaaGreatDoor
open Go.RowKit
set_option linter.unusedVariables false

def bytesD (x : DotN) : List Int := short x.dev.toNat ++ (short x.inc.toNat ++ short x.seq.toNat)
/-- What is packed of a dot: nothing, if it may not be. -/
def putD (x : DotN) : List Int := if rightD x = true then bytesD x else []
/-- The dot behind one, and whether there is one. -/
def nextD (x : DotN) : DotN × Int := if rightD x = true ∧ x.seq < 4294967296 then (⟨x.dev, x.inc, x.seq + 1⟩, 0) else (⟨0, 0, 0⟩, 4)
def cmpA (d i e j : Int) : Int := if aheadA d i e j = true then -1 else if aheadA e j d i = true then 1 else 0
def textD (x : DotN) : List UInt8 := (((Lib.itoa x.dev ++ [46]) ++ Lib.itoa x.inc) ++ [46]) ++ Lib.itoa x.seq
def is64 (n : Int) : Prop := -9223372036854775808 ≤ n ∧ n ≤ 9223372036854775807
structure FitD (x : DotN) : Prop where
  dev : is64 x.dev
  inc : is64 x.inc
  seq : is64 x.seq

theorem right_range {x : DotN} (h : rightD x = true) : 0 ≤ x.dev ∧ x.dev ≤ 63 ∧ 1 ≤ x.inc ∧ x.inc ≤ 1048576 ∧ 1 ≤ x.seq ∧ x.seq ≤ 4294967296 := by
  unfold rightD actorD at h
  simp only [Bool.and_eq_true, decide_eq_true_iff] at h
  obtain ⟨⟨a, b, c, d⟩, e, f⟩ := h
  exact ⟨a, b, c, d, e, f⟩

end Go.Proofs.YtelgaglnmcggkaaGreatDoor

/- Dots in order, each once, in plain words: what any list that is in order and has the same dots is. No program in it. -/
namespace Go.Proofs.YtelgaglnmcggkaaGreatDoor
open Go.RowKit
set_option linter.unusedVariables false

theorem lessD_iff {x y : DotN} : lessD x y = true ↔ x.dev < y.dev ∨ (x.dev = y.dev ∧ (x.inc < y.inc ∨ (x.inc = y.inc ∧ x.seq < y.seq))) := by
  unfold lessD aheadA
  by_cases h1 : x.dev = y.dev
  · by_cases h2 : x.inc = y.inc
    · rw [if_pos ⟨h1, h2⟩, decide_eq_true_iff]
      omega
    · rw [if_neg (fun c => h2 c.2), if_neg (fun c => c h1), decide_eq_true_iff]
      omega
  · rw [if_neg (fun c => h1 c.1), if_pos h1, decide_eq_true_iff]
    omega
theorem lessD_no {x y : DotN} : lessD x y = false ↔ ¬ (x.dev < y.dev ∨ (x.dev = y.dev ∧ (x.inc < y.inc ∨ (x.inc = y.inc ∧ x.seq < y.seq)))) := by
  rw [← lessD_iff, Bool.not_eq_true]
theorem lessD_trans {x y z : DotN} (h1 : lessD x y = true) (h2 : lessD y z = true) : lessD x z = true := by
  rw [lessD_iff] at *
  omega
theorem lessD_ntrans {x y z : DotN} (h1 : lessD x y = false) (h2 : lessD y z = false) : lessD x z = false := by
  rw [lessD_no] at *
  omega
theorem lessD_asymm {x y : DotN} (h : lessD x y = true) : lessD y x = false := by
  rw [lessD_iff] at h
  rw [lessD_no]
  omega
theorem lessD_eq {x y : DotN} (h1 : lessD x y = false) (h2 : lessD y x = false) : x = y := by
  rw [lessD_no] at *
  exact DotN.ext' (by omega) (by omega) (by omega)

/-- In order, each once. -/
def SortedD (l : List DotN) : Prop := l.Pairwise fun x y => lessD x y = true

theorem sorted_unique : ∀ {a b : List DotN}, SortedD a → SortedD b → (∀ x, x ∈ a ↔ x ∈ b) → a = b
  | [], [], _, _, _ => rfl
  | [], y :: b, _, _, h => absurd ((h y).2 (List.mem_cons_self ..)) (by simp)
  | x :: a, [], _, _, h => absurd ((h x).1 (List.mem_cons_self ..)) (by simp)
  | x :: a, y :: b, ha, hb, h => by
    obtain ⟨ha1, ha2⟩ := List.pairwise_cons.1 ha
    obtain ⟨hb1, hb2⟩ := List.pairwise_cons.1 hb
    have hxy : x = y := by
      rcases List.mem_cons.1 ((h x).1 (List.mem_cons_self ..)) with e | e
      · exact e
      · rcases List.mem_cons.1 ((h y).2 (List.mem_cons_self ..)) with e2 | e2
        · exact e2.symm
        · have := lessD_asymm (hb1 x e)
          rw [ha1 y e2] at this
          cases this
    subst hxy
    rw [sorted_unique ha2 hb2 fun z => ?_]
    constructor
    · intro hz
      rcases List.mem_cons.1 ((h z).1 (List.mem_cons_of_mem _ hz)) with e | e
      · subst e
        have := ha1 z hz
        rw [lessD_irrefl] at this
        cases this
      · exact e
    · intro hz
      rcases List.mem_cons.1 ((h z).2 (List.mem_cons_of_mem _ hz)) with e | e
      · subst e
        have := hb1 z hz
        rw [lessD_irrefl] at this
        cases this
      · exact e

theorem front_less {x : DotN} {out : List DotN} : ∀ y ∈ out.take (out.findIdx fun y => !lessD y x), lessD y x = true := by
  intro y hy
  obtain ⟨i, hi, rfl⟩ := List.mem_take_iff_getElem.1 hy
  have := List.not_of_lt_findIdx (p := fun y => !lessD y x) (xs := out) (i := i) (by omega)
  simpa using this

theorem back_not {x : DotN} {out : List DotN} (h : SortedD out) : ∀ y ∈ out.drop (out.findIdx fun y => !lessD y x), lessD y x = false := by
  intro y hy
  obtain ⟨i, hi, rfl⟩ := List.mem_drop_iff_getElem.1 hy
  generalize hk : (out.findIdx fun y => !lessD y x) = k at *
  have hlt : k < out.length := by omega
  have h0 : lessD out[k] x = false := by
    have := List.findIdx_getElem (p := fun y => !lessD y x) (xs := out) (w := by rw [hk]; exact hlt)
    simp only [hk] at this
    simpa using this
  rcases Nat.eq_zero_or_pos i with rfl | h1
  · exact h0
  · have hs := List.pairwise_iff_getElem.1 h k (k + i) hlt (by omega) (by omega)
    have h2 := lessD_asymm hs
    have : out[i + k] = out[k + i] := by congr 1; omega
    first
      | exact lessD_ntrans h2 h0
      | (rw [this]; exact lessD_ntrans h2 h0)

theorem insD_sorted {x : DotN} {out : List DotN} (h : SortedD out) : SortedD (insD x out) := by
  unfold insD
  generalize hk : (out.findIdx fun y => !lessD y x) = k
  split
  · exact h
  · rename_i hn
    have hf := front_less (x := x) (out := out)
    have hb := back_not (x := x) h
    rw [hk] at hf hb
    have hp : SortedD (out.take k ++ out.drop k) := by rw [List.take_append_drop]; exact h
    obtain ⟨p1, p2, p3⟩ := List.pairwise_append.1 hp
    refine List.pairwise_append.2 ⟨p1, List.pairwise_cons.2 ⟨fun y hy => ?_, p2⟩, fun a ha b hb2 => ?_⟩
    · cases hxy : lessD x y with
      | true => rfl
      | false =>
        have e := lessD_eq hxy (hb y hy)
        subst e
        exfalso
        apply hn
        obtain ⟨i, hi, he⟩ := List.mem_drop_iff_getElem.1 hy
        have hlt : k < out.length := by omega
        rw [List.getElem?_eq_getElem hlt]
        rcases Nat.eq_zero_or_pos i with rfl | h1
        · have : out[k] = x := by simpa using he
          rw [this]
          show sameD x x = true
          exact sameD_iff.2 rfl
        · have hs := List.pairwise_iff_getElem.1 h k (k + i) hlt (by omega) (by omega)
          have he2 : out[k + i] = x := by first | exact he | (rw [← he]; congr 1; omega)
          rw [he2] at hs
          have h0 := hb out[k] (List.mem_drop_iff_getElem.2 ⟨0, by omega, by simp⟩)
          rw [hs] at h0
          cases h0
    · rcases List.mem_cons.1 hb2 with rfl | hb2
      · exact hf a ha
      · exact p3 a ha b hb2

theorem insD_mem {x : DotN} {out : List DotN} (y : DotN) : y ∈ insD x out ↔ y = x ∨ y ∈ out := by
  unfold insD
  generalize hk : (out.findIdx fun y => !lessD y x) = k
  split
  · rename_i h
    constructor
    · exact .inr
    · rintro (rfl | h2)
      · cases hg : out[k]? with
        | none => rw [hg] at h; cases h
        | some z =>
          rw [hg] at h
          have e : z = y := sameD_iff.1 h
          subst e
          exact List.mem_of_getElem? hg
      · exact h2
  · have e : y ∈ out ↔ y ∈ out.take k ∨ y ∈ out.drop k := by rw [← List.mem_append, List.take_append_drop]
    rw [List.mem_append, List.mem_cons, e]
    constructor
    · rintro (a | b | c)
      · exact .inr (.inl a)
      · exact .inl b
      · exact .inr (.inr c)
    · rintro (b | a | c)
      · exact .inr (.inl b)
      · exact .inl a
      · exact .inr (.inr c)

theorem sortD_fold (l : List DotN) : ∀ out, SortedD out → SortedD (l.foldl (fun out x => insD x out) out) ∧ ∀ y, y ∈ l.foldl (fun out x => insD x out) out ↔ y ∈ out ∨ y ∈ l := by
  induction l with
  | nil => exact fun out h => ⟨h, fun y => by simp⟩
  | cons x t ih =>
    intro out h
    obtain ⟨a, b⟩ := ih (insD x out) (insD_sorted h)
    refine ⟨a, fun y => ?_⟩
    rw [List.foldl_cons, b y, insD_mem, List.mem_cons]
    constructor
    · rintro ((h | h) | h)
      · exact .inr (.inl h)
      · exact .inl h
      · exact .inr (.inr h)
    · rintro (h | h | h)
      · exact .inl (.inr h)
      · exact .inl (.inl h)
      · exact .inr h

theorem sortD_sorted (l : List DotN) : SortedD (sortD l) := (sortD_fold l [] List.Pairwise.nil).1
theorem sortD_mem (l : List DotN) (y : DotN) : y ∈ sortD l ↔ y ∈ l := by
  have := (sortD_fold l [] List.Pairwise.nil).2 y
  exact this.trans ⟨fun h => h.elim (fun c => by cases c) id, .inr⟩

/-- The dots, each at its first place alone. -/
def dedD (l : List DotN) : List DotN := l.foldl (fun out x => if out.any (sameD x) then out else out ++ [x]) []
theorem dedD_snoc (l : List DotN) (x : DotN) : dedD (l ++ [x]) = if (dedD l).any (sameD x) then dedD l else dedD l ++ [x] := by unfold dedD; simp
theorem any_same {l : List DotN} {x : DotN} : l.any (sameD x) = true ↔ x ∈ l := by
  rw [List.any_eq_true]
  constructor
  · rintro ⟨y, h, e⟩
    rw [sameD_iff.1 e]
    exact h
  · intro h
    exact ⟨x, h, sameD_iff.2 rfl⟩
theorem dedD_fold (l : List DotN) : ∀ out : List DotN, out.Nodup → (l.foldl (fun out x => if out.any (sameD x) then out else out ++ [x]) out).Nodup ∧ ∀ y, y ∈ l.foldl (fun out x => if out.any (sameD x) then out else out ++ [x]) out ↔ y ∈ out ∨ y ∈ l := by
  induction l with
  | nil => exact fun out h => ⟨h, fun y => by simp⟩
  | cons x t ih =>
    intro out h
    rw [List.foldl_cons]
    by_cases hx : out.any (sameD x) = true
    · rw [if_pos hx]
      obtain ⟨a, b⟩ := ih out h
      refine ⟨a, fun y => ?_⟩
      rw [b y, List.mem_cons]
      have hm := any_same.1 hx
      constructor
      · rintro (h | h)
        · exact .inl h
        · exact .inr (.inr h)
      · rintro (h | rfl | h)
        · exact .inl h
        · exact .inl hm
        · exact .inr h
    · rw [if_neg hx]
      have hn : x ∉ out := fun c => hx (any_same.2 c)
      obtain ⟨a, b⟩ := ih (out ++ [x]) (by
        rw [List.nodup_append]
        exact ⟨h, by simp, fun a ha b hb e => hn (by rw [List.mem_singleton] at hb; rw [← hb, ← e]; exact ha)⟩)
      refine ⟨a, fun y => ?_⟩
      rw [b y, List.mem_append, List.mem_singleton, List.mem_cons]
      constructor
      · rintro ((h | h) | h)
        · exact .inl h
        · exact .inr (.inl h)
        · exact .inr (.inr h)
      · rintro (h | h | h)
        · exact .inl (.inl h)
        · exact .inl (.inr h)
        · exact .inr h
theorem dedD_nodup (l : List DotN) : (dedD l).Nodup := (dedD_fold l [] List.nodup_nil).1
theorem dedD_mem (l : List DotN) (y : DotN) : y ∈ dedD l ↔ y ∈ l := by
  have := (dedD_fold l [] List.nodup_nil).2 y
  exact this.trans ⟨fun h => h.elim (fun c => by cases c) id, .inr⟩

/-- What is in order, and has just these dots, each once, is the sorted list. -/
theorem sortD_is {l a : List DotN} (h1 : a.Perm (dedD l)) (h2 : a.Pairwise fun x y => lessD y x = false) : a = sortD l := by
  have hn : a.Nodup := h1.nodup_iff.2 (dedD_nodup l)
  refine sorted_unique ?_ (sortD_sorted l) fun x => by rw [h1.mem_iff, dedD_mem, sortD_mem]
  refine List.Pairwise.imp₂ ?_ h2 hn
  intro x y hxy hne
  cases h : lessD x y with
  | true => rfl
  | false => exact absurd (lessD_eq h hxy) hne
end Go.Proofs.YtelgaglnmcggkaaGreatDoor

/- Contracts of the reference of layer 16: names of events. -/
namespace Go.Proofs.YtelgaglnmcggkaaGreatDoor
open Go.RowKit
set_option linter.unusedVariables false

def encD (x : DotN) : List Value := [.int .i64 x.dev, .int .i64 x.inc, .int .i64 x.seq]
theorem encD_len (x : DotN) : (encD x).length = 3 := rfl
theorem encD_one (x : DotN) : ∀ u ∈ encD x, u.oneCell' = true := by
  intro u hu
  simp only [encD, List.mem_cons, List.not_mem_nil, or_false] at hu
  rcases hu with rfl | rfl | rfl <;> rfl
theorem dot_at {w : World} {a : Option Addr} {n c : Nat} {L : List DotN} (h : RowOf encD 3 w a n c L) (k : Nat) (hk : k < n) :
    ∃ x g off, L[k]? = some x ∧ a = some ⟨g, off, none⟩ ∧ w.cell? ⟨g, off + k * 3, none⟩ = some (.int .i64 x.dev) ∧ w.cell? ⟨g, off + k * 3 + 1, none⟩ = some (.int .i64 x.inc) ∧ w.cell? ⟨g, off + k * 3 + 2, none⟩ = some (.int .i64 x.seq) := by
  obtain ⟨x, g, off, h1, h2, h3⟩ := h.at k hk
  exact ⟨x, g, off, h1, h2, h3 0 _ rfl, h3 1 _ rfl, h3 2 _ rfl⟩
theorem drawn_below {B : Nat} {a w : World} (h : Below B a w) (k : Nat) : Below B a (w.drewN k) := ⟨h.os, h.tape, h.output, h.size, h.block⟩

theorem two_objs (w : World) (A B : Array Value) (a b : TypeId) :
    ObjAt ((w.alloc (.cells A a)).alloc (.cells B b)) w.heap.size A.toList ∧ ObjAt ((w.alloc (.cells A a)).alloc (.cells B b)) (w.heap.size + 1) B.toList ∧ Below w.heap.size w ((w.alloc (.cells A a)).alloc (.cells B b)) := by
  have s1 : (w.alloc (.cells A a)).heap.size = w.heap.size + 1 := by simp
  have o1 := ObjAt.new w A a
  have o2 := ObjAt.new (w.alloc (.cells A a)) B b
  have b1 := below_alloc w (.cells A a)
  have b2 := below_alloc (w.alloc (.cells A a)) (.cells B b)
  have o1' := o1.below b2 o1.lt
  rw [s1] at o2
  exact ⟨o1', o2, b1.trans (b2.mono b1.size)⟩

theorem eqDot (x y : DotN) (w : World) : Sem.run Tryz.prog (Op.equalIn 10000 35 (.agg #[.int .i64 x.dev, .int .i64 x.inc, .int .i64 x.seq]) (.agg #[.int .i64 y.dev, .int .i64 y.inc, .int .i64 y.seq])) w = Result.ok (sameD x y) w := by
  unfold sameD
  cases h1 : x.dev == y.dev <;> cases h2 : x.inc == y.inc <;> cases h3 : x.seq == y.seq <;> simp [go_sem, h1, h2, h3]
theorem eqActor (d i e j : Int) (w : World) : Sem.run Tryz.prog (Op.equalIn 10000 33 (.agg #[.int .i64 d, .int .i64 i]) (.agg #[.int .i64 e, .int .i64 j])) w = Result.ok (d == e && i == j) w := by
  cases h1 : d == e <;> cases h2 : i == j <;> simp [go_sem, h1, h2]

end Go.Proofs.YtelgaglnmcggkaaGreatDoor

/- The order of dots as a comparison (dot.compareDots, dot.Compare by cmp.Compare). -/
namespace Go.Proofs.YtelgaglnmcggkaaGreatDoor
open Go.RowKit Go.Sort
set_option linter.unusedVariables false

def cmpAG (d i e j : Int) : Int := if d = e then cmpN i j else cmpN d e
theorem cmpAG_is (d i e j : Int) : cmpAG d i e j = cmpA d i e j := by
  unfold cmpAG cmpA aheadA cmpN
  by_cases h : d = e
  · subst h
    simp
  · have h2 : e ≠ d := fun c => h c.symm
    rw [if_neg h, if_pos h, if_pos h2]
    simp

set_option maxRecDepth 100000 in
theorem dotCompareG (d i e j : Int) (w : World) :
    Calls Tryz.prog 109 #[.agg #[.int .i64 d, .int .i64 i], .agg #[.int .i64 e, .int .i64 j]] w fun en w' => en = .returned (.int .i64 (cmpAG d i e j)) ∧ Grows w w' := by
  obtain ⟨o1, o2, hb⟩ := two_objs w #[.int .i64 d, .int .i64 i] #[.int .i64 e, .int .i64 j] 33 33
  have u0 := o1.cell 0 rfl; have u1 := o1.cell 1 rfl
  have v0 := o2.cell 0 rfl; have v1 := o2.cell 1 rfl
  have hg : Grows w ((w.alloc (.cells #[.int .i64 d, .int .i64 i] 33)).alloc (.cells #[.int .i64 e, .int .i64 j] 33)) := (Grows.alloc w _).trans (Grows.alloc _ _)
  clear o1 o2 hb
  have H1 := fun w => cmpIntC d e w
  have H2 := fun w => cmpIntC i j w
  unfold cmpAG
  generalize cmpN d e = C1 at *
  generalize cmpN i j = C2 at *
  by_cases h : d = e
  · have e1 : (d != e) = false := by rw [h]; simp
    have e2 : (d == e) = true := beq_iff_eq.2 h
    rw [if_pos h]
    clear h
    go_enter Tryz.func109, Tryz.ntmps109
    go_wp2_with (go_at_call 135; (with_reducible refine (H2 _).mono ?_); rintro e w1 ⟨rfl, rfl⟩)
    go_ret
    exact ⟨rfl, hg⟩
  · have e1 : (d != e) = true := by simp [h]
    have e2 : (d == e) = false := beq_eq_false_iff_ne.2 h
    rw [if_neg h]
    clear h
    go_enter Tryz.func109, Tryz.ntmps109
    go_wp2_with (go_at_call 135; (with_reducible refine (H1 _).mono ?_); rintro e w1 ⟨rfl, rfl⟩)
    go_ret
    exact ⟨rfl, hg⟩

def ordD (x y : DotN) : Int := if x.dev = y.dev ∧ x.inc = y.inc then cmpN x.seq y.seq else cmpAG x.dev x.inc y.dev y.inc

set_option maxRecDepth 100000 in
theorem dotOrderG (x y : DotN) (w : World) :
    Calls Tryz.prog 119 #[.agg #[.int .i64 x.dev, .int .i64 x.inc, .int .i64 x.seq], .agg #[.int .i64 y.dev, .int .i64 y.inc, .int .i64 y.seq]] w fun en w' => en = .returned (.int .i64 (ordD x y)) ∧ Grows w w' := by
  obtain ⟨o1, o2, hb⟩ := two_objs w #[.int .i64 x.dev, .int .i64 x.inc, .int .i64 x.seq] #[.int .i64 y.dev, .int .i64 y.inc, .int .i64 y.seq] 35 35
  have u0 := o1.cell 0 rfl; have u1 := o1.cell 1 rfl; have u2 := o1.cell 2 rfl
  have v0 := o2.cell 0 rfl; have v1 := o2.cell 1 rfl; have v2 := o2.cell 2 rfl
  have hg : Grows w ((w.alloc (.cells #[.int .i64 x.dev, .int .i64 x.inc, .int .i64 x.seq] 35)).alloc (.cells #[.int .i64 y.dev, .int .i64 y.inc, .int .i64 y.seq] 35)) := (Grows.alloc w _).trans (Grows.alloc _ _)
  clear o1 o2 hb
  have H1 := fun w => dotCompareG x.dev x.inc y.dev y.inc w
  have H2 := fun w => cmpIntC x.seq y.seq w
  have hE := fun v => eqActor x.dev x.inc y.dev y.inc v
  unfold ordD
  generalize cmpAG x.dev x.inc y.dev y.inc = C1 at *
  generalize cmpN x.seq y.seq = C2 at *
  by_cases h : x.dev = y.dev ∧ x.inc = y.inc
  · rw [if_pos h]
    have e1 : (x.dev == y.dev && x.inc == y.inc) = true := by rw [h.1, h.2]; simp
    simp only [e1] at hE
    clear h e1 H1
    go_enter Tryz.func119, Tryz.ntmps119
    go_wp2_with (go_at_call 135; (with_reducible refine (H2 _).mono ?_); rintro e w1 ⟨rfl, rfl⟩)
    go_ret
    exact ⟨rfl, hg⟩
  · rw [if_neg h]
    have e1 : (x.dev == y.dev && x.inc == y.inc) = false := by rw [Bool.eq_false_iff]; intro c; rw [Bool.and_eq_true, beq_iff_eq, beq_iff_eq] at c; exact h c
    simp only [e1] at hE
    clear h e1 H2
    go_enter Tryz.func119, Tryz.ntmps119
    go_wp2_with (go_at_call 109; (with_reducible refine (H1 _).mono ?_); rintro e w1 ⟨rfl, hx⟩; have hg := hg.trans hx)
    go_ret
    exact ⟨rfl, hg⟩

theorem ord_neg (x y : DotN) : decide (ordD x y < 0) = lessD x y := by
  unfold ordD cmpAG cmpN
  rw [Bool.eq_iff_iff, decide_eq_true_iff, lessD_iff]
  repeat' split
  all_goals first | omega | (constructor <;> intros <;> first | omega | contradiction)
end Go.Proofs.YtelgaglnmcggkaaGreatDoor

/- The order of dots as a comparison that the library's sort is handed. -/
namespace Go.Proofs.YtelgaglnmcggkaaGreatDoor
open Go.RowKit Go.Sort
set_option linter.unusedVariables false

theorem ord_less (x y : DotN) : ltOf ordD x y = lessD x y := ord_neg x y

theorem swoD : SWO (ltOf ordD) where
  irrefl x := by rw [ord_less, lessD_irrefl]
  trans x y z h1 h2 := by rw [ord_less] at *; exact lessD_trans h1 h2
  ntrans x y z h1 h2 := by rw [ord_less] at *; exact lessD_ntrans h1 h2
end Go.Proofs.YtelgaglnmcggkaaGreatDoor
