/- Contracts and plain words that the laws' proofs stand on, put together. -/
import Derived.Test.YtelgaglnmcggkaaGreatDoorLibAH
import Derived.Test.YtelgaglnmcggkaaGreatDoorLibAQ
/- Sets of dots in plain words: up to where there are all of an actor's, what lies beyond, what another one lacks. No program in it. -/
namespace Go.Proofs.YtelgaglnmcggkaaGreatDoor
set_option linter.unusedVariables false

def hasD (l : List DotN) (x : DotN) : Bool := l.any fun y => sameD y x
theorem hasD_iff {l : List DotN} {x : DotN} : hasD l x = true ↔ x ∈ l := by
  unfold hasD
  rw [List.any_eq_true]
  constructor
  · rintro ⟨y, hy, h⟩
    rw [sameD_iff] at h
    exact h ▸ hy
  · intro h
    exact ⟨x, h, sameD_iff.2 rfl⟩
theorem hasD_no {l : List DotN} {x : DotN} : hasD l x = false ↔ x ∉ l := by
  rw [← hasD_iff, Bool.not_eq_true]

/-- A dot more. -/
def addS (l : List DotN) (x : DotN) : List DotN := if rightD x = true then sortD (l ++ [x]) else l

/-- So many, from n on, are all there. -/
def upF (l : List DotN) (d i : Int) : Nat → Nat → Nat
  | 0, n => n
  | f + 1, n => if hasD l ⟨d, i, (n : Int) + 1⟩ = true then upF l d i f (n + 1) else n
def upS (l : List DotN) (d i : Int) : Nat := upF l d i (l.length + 1) 0

theorem upF_le (l : List DotN) (d i : Int) : ∀ f n, n ≤ upF l d i f n
  | 0, n => Nat.le_refl _
  | f + 1, n => by
    unfold upF
    split
    · exact Nat.le_trans (Nat.le_succ n) (upF_le l d i f (n + 1))
    · exact Nat.le_refl _
theorem upF_has (l : List DotN) (d i : Int) : ∀ f n k, n ≤ k → k < upF l d i f n → (⟨d, i, (k : Int) + 1⟩ : DotN) ∈ l
  | 0, n, k, h1, h2 => by unfold upF at h2; omega
  | f + 1, n, k, h1, h2 => by
    unfold upF at h2
    split at h2
    · rename_i h
      by_cases e : k = n
      · subst e; exact hasD_iff.1 h
      · exact upF_has l d i f (n + 1) k (by omega) h2
    · omega
theorem upF_stop (l : List DotN) (d i : Int) : ∀ f n, upF l d i f n < n + f → hasD l ⟨d, i, (upF l d i f n : Int) + 1⟩ = false
  | 0, n, h => by unfold upF at h; omega
  | f + 1, n, h => by
    by_cases c : hasD l ⟨d, i, (n : Int) + 1⟩ = true
    · have e : upF l d i (f + 1) n = upF l d i f (n + 1) := by rw [upF, if_pos c]
      rw [e] at h ⊢
      exact upF_stop l d i f (n + 1) (by omega)
    · have e : upF l d i (f + 1) n = n := by rw [upF, if_neg c]
      rw [e]
      exact Bool.eq_false_iff.2 c

/-- No more numbers than dots. -/
theorem many_le (d i : Int) : ∀ (m : Nat) (l : List DotN), (∀ k, k < m → (⟨d, i, (k : Int) + 1⟩ : DotN) ∈ l) → m ≤ l.length
  | 0, l, _ => Nat.zero_le _
  | m + 1, l, h => by
    have h1 := h m (Nat.lt_succ_self m)
    have h2 := many_le d i m (l.filter fun y => !sameD y ⟨d, i, (m : Int) + 1⟩) fun k hk => by
      rw [List.mem_filter]
      refine ⟨h k (by omega), ?_⟩
      have : sameD ⟨d, i, (k : Int) + 1⟩ ⟨d, i, (m : Int) + 1⟩ = false := by
        rw [Bool.eq_false_iff]
        intro c
        rw [sameD_iff] at c
        have := congrArg DotN.seq c
        simp only at this
        omega
      rw [this]
      rfl
    have h3 : (l.filter fun y => !sameD y ⟨d, i, (m : Int) + 1⟩).length < l.length := by
      rw [List.length_filter_lt_length_iff_exists]
      exact ⟨_, h1, by rw [sameD_iff.2 rfl]; decide⟩
    omega

theorem up_le (l : List DotN) (d i : Int) : upS l d i ≤ l.length :=
  many_le d i _ l fun k hk => upF_has l d i _ 0 k (Nat.zero_le _) hk
theorem up_has {l : List DotN} {d i : Int} {k : Nat} (h : k < upS l d i) : (⟨d, i, (k : Int) + 1⟩ : DotN) ∈ l := upF_has l d i _ 0 k (Nat.zero_le _) h
theorem up_stop (l : List DotN) (d i : Int) : (⟨d, i, (upS l d i : Int) + 1⟩ : DotN) ∉ l := by
  rw [← hasD_no]
  exact upF_stop l d i _ 0 (by have := up_le l d i; unfold upS at this; omega)
/-- Which number it is. -/
theorem up_is {l : List DotN} {d i : Int} {n : Nat} (h1 : ∀ k, k < n → (⟨d, i, (k : Int) + 1⟩ : DotN) ∈ l) (h2 : (⟨d, i, (n : Int) + 1⟩ : DotN) ∉ l) : upS l d i = n := by
  rcases Nat.lt_trichotomy (upS l d i) n with h | h | h
  · exact absurd (h1 _ h) (up_stop l d i)
  · exact h
  · exact absurd (up_has h) h2
theorem up_mono {l m : List DotN} (h : ∀ x ∈ l, x ∈ m) (d i : Int) : upS l d i ≤ upS m d i := by
  rcases Nat.lt_or_ge (upS m d i) (upS l d i) with c | c
  · exact absurd (h _ (up_has c)) (up_stop m d i)
  · exact c
theorem up_ext {l m : List DotN} (h : ∀ x, x ∈ l ↔ x ∈ m) (d i : Int) : upS l d i = upS m d i :=
  Nat.le_antisymm (up_mono (fun x hx => (h x).1 hx) d i) (up_mono (fun x hx => (h x).2 hx) d i)

def baseStep (l : List DotN) (out : List DotN) (x : DotN) : List DotN := if 0 < upS l x.dev x.inc then setV out ⟨x.dev, x.inc, upS l x.dev x.inc⟩ else out
def baseS (l : List DotN) : List DotN := l.foldl (baseStep l) []
def beyondS (l : List DotN) : List DotN := l.filter fun x => decide ((upS l x.dev x.inc : Int) < x.seq)
def lackS (l : List DotN) (b : DotN) : List DotN := if (upS l b.dev b.inc : Int) < b.seq then [⟨b.dev, b.inc, (upS l b.dev b.inc : Int) + 1⟩] else []
def missingS (l m : List DotN) : List DotN := (baseS m).flatMap (lackS l) ++ (beyondS m).filter fun x => !hasD l x

/-- Dots that a set holds. -/
structure OkS (l : List DotN) : Prop where
  sorted : SortedD l
  right : ∀ x ∈ l, rightD x = true
theorem nil_okS : OkS [] := ⟨List.Pairwise.nil, fun _ h => by cases h⟩
theorem add_ok {l : List DotN} (h : OkS l) (x : DotN) : OkS (addS l x) := by
  unfold addS
  split
  · rename_i hx
    refine ⟨sortD_sorted _, fun y hy => ?_⟩
    rw [sortD_mem, List.mem_append, List.mem_singleton] at hy
    rcases hy with hy | rfl
    · exact h.right y hy
    · exact hx
  · exact h
theorem add_mem {l : List DotN} (x y : DotN) : y ∈ addS l x ↔ y ∈ l ∨ (y = x ∧ rightD x = true) := by
  unfold addS
  split
  · rename_i hx
    rw [sortD_mem, List.mem_append, List.mem_singleton]
    exact ⟨fun h => h.imp id fun h => ⟨h, hx⟩, fun h => h.imp id fun h => h.1⟩
  · rename_i hx
    exact ⟨.inl, fun h => h.elim id fun h => absurd h.2 hx⟩
theorem add_len (l : List DotN) (x : DotN) : (addS l x).length ≤ l.length + 1 := by
  unfold addS
  split
  · have := sortD_len (l ++ [x])
    rw [List.length_append, List.length_singleton] at this
    exact this
  · omega

/-- The base, by its marks. -/
theorem base_all (L : List DotN) : ∀ (l out : List DotN), OkV out → (∀ x ∈ l, rightD x = true) → (∀ x ∈ l, x ∈ L) → (∀ x ∈ L, rightD x = true) → (∀ d i, getV out d i ≠ 0 → getV out d i = upS L d i) →
    OkV (l.foldl (baseStep L) out) ∧ (∀ d i, getV (l.foldl (baseStep L) out) d i = if getV out d i ≠ 0 ∨ ∃ x ∈ l, x.dev = d ∧ x.inc = i then (upS L d i : Int) else 0) := by
  intro l
  induction l with
  | nil =>
    intro out ho _ _ _ hg
    refine ⟨ho, fun d i => ?_⟩
    by_cases h : getV out d i = 0
    · rw [if_neg (by rintro (c | ⟨x, hx, _⟩)
                     · exact c h
                     · cases hx)]
      exact h
    · rw [if_pos (.inl h)]
      exact hg d i h
  | cons x t ih =>
    intro out ho hr hm hR hg
    have hx := hr x List.mem_cons_self
    by_cases c : 0 < upS L x.dev x.inc
    · have e : baseStep L out x = setV out ⟨x.dev, x.inc, upS L x.dev x.inc⟩ := by unfold baseStep; rw [if_pos c]
      have hrx : rightD ⟨x.dev, x.inc, (upS L x.dev x.inc : Int)⟩ = true := by
        have := up_has (l := L) (d := x.dev) (i := x.inc) (k := upS L x.dev x.inc - 1) (by omega)
        have h2 := hR _ this
        rw [show ((upS L x.dev x.inc - 1 : Nat) : Int) + 1 = (upS L x.dev x.inc : Int) by omega] at h2
        exact h2
      have hgs := getV_set ho.ord ⟨x.dev, x.inc, (upS L x.dev x.inc : Int)⟩
      simp only at hgs
      obtain ⟨h1, h2⟩ := ih (setV out ⟨x.dev, x.inc, upS L x.dev x.inc⟩) (set_ok ho hrx) (fun y hy => hr y (List.mem_cons_of_mem _ hy)) (fun y hy => hm y (List.mem_cons_of_mem _ hy)) hR (fun d i h => by
        rw [hgs] at h ⊢
        by_cases q : x.dev = d ∧ x.inc = i
        · rw [if_pos q, q.1, q.2]
        · rw [if_neg q] at h ⊢
          exact hg d i h)
      rw [List.foldl_cons, e]
      refine ⟨h1, fun d i => ?_⟩
      rw [h2, hgs]
      by_cases q : x.dev = d ∧ x.inc = i
      · rw [if_pos q, if_pos (.inl (by omega)), if_pos (.inr ⟨x, List.mem_cons_self, q⟩)]
      · rw [if_neg q]
        by_cases q2 : getV out d i ≠ 0 ∨ ∃ y ∈ t, y.dev = d ∧ y.inc = i
        · rw [if_pos q2, if_pos (q2.imp id fun ⟨y, hy, h⟩ => ⟨y, List.mem_cons_of_mem _ hy, h⟩)]
        · rw [if_neg q2, if_neg]
          rintro (h | ⟨y, hy, h⟩)
          · exact q2 (.inl h)
          · rcases List.mem_cons.1 hy with rfl | hy
            · exact q h
            · exact q2 (.inr ⟨y, hy, h⟩)
    · have e : baseStep L out x = out := by unfold baseStep; rw [if_neg c]
      obtain ⟨h1, h2⟩ := ih out ho (fun y hy => hr y (List.mem_cons_of_mem _ hy)) (fun y hy => hm y (List.mem_cons_of_mem _ hy)) hR hg
      rw [List.foldl_cons, e]
      refine ⟨h1, fun d i => ?_⟩
      rw [h2]
      by_cases q2 : getV out d i ≠ 0 ∨ ∃ y ∈ t, y.dev = d ∧ y.inc = i
      · rw [if_pos q2, if_pos (q2.imp id fun ⟨y, hy, h⟩ => ⟨y, List.mem_cons_of_mem _ hy, h⟩)]
      · rw [if_neg q2]
        split
        · rename_i h
          rcases h with h | ⟨y, hy, h⟩
          · exact absurd (.inl h) q2
          · rcases List.mem_cons.1 hy with rfl | hy
            · obtain ⟨rfl, rfl⟩ := h
              omega
            · exact absurd (.inr ⟨y, hy, h⟩) q2
        · rfl
theorem base_ok {l : List DotN} (h : ∀ x ∈ l, rightD x = true) : OkV (baseS l) :=
  (base_all l l [] nil_ok h (fun _ h => h) h (fun d i h => by exact absurd rfl h)).1
/-- Of each actor the number up to which all are there. -/
theorem base_get {l : List DotN} (h : ∀ x ∈ l, rightD x = true) (d i : Int) : getV (baseS l) d i = upS l d i := by
  have := (base_all l l [] nil_ok h (fun _ h => h) h (fun d i h => by exact absurd rfl h)).2 d i
  unfold baseS
  rw [this]
  split
  · rfl
  · rename_i c
    rcases Nat.eq_zero_or_pos (upS l d i) with h0 | h0
    · rw [h0]; rfl
    · exact absurd (.inr ⟨_, up_has h0, rfl, rfl⟩) c
theorem beyond_len (l : List DotN) : (beyondS l).length ≤ l.length := List.length_filter_le _ _

end Go.Proofs.YtelgaglnmcggkaaGreatDoor

/- Contracts of the reference of layer 18: is a dot there; up to where there are all. -/
namespace Go.Proofs.YtelgaglnmcggkaaGreatDoor
open Go.RowKit
set_option linter.unusedVariables false

end Go.Proofs.YtelgaglnmcggkaaGreatDoor

/- A set of dots by its base and its exceptions, in plain words: a dot more, what the base takes in, a join. No program in it. -/
namespace Go.Proofs.YtelgaglnmcggkaaGreatDoor
set_option linter.unusedVariables false

theorem SortedD.nodup {l : List DotN} (h : SortedD l) : l.Nodup := List.Pairwise.imp (fun {x y} hxy e => by subst e; rw [lessD_irrefl] at hxy; cases hxy) h

theorem hasV_iff {V : List DotN} {x : DotN} : hasV V x = true ↔ rightD x = true ∧ x.seq ≤ getV V x.dev x.inc := by
  unfold hasV
  rw [Bool.and_eq_true, decide_eq_true_iff]

/-- What a set has whose base are these numbers, and whose exceptions these dots. -/
def InVE (V E : List DotN) (x : DotN) : Prop := hasV V x = true ∨ x ∈ E
structure OkE (V E : List DotN) : Prop where
  okV : OkV V
  nodup : E.Nodup
  right : ∀ x ∈ E, rightD x = true
/-- No exception is of the base. -/
def DisE (V E : List DotN) : Prop := ∀ x ∈ E, getV V x.dev x.inc < x.seq
/-- The base can take in no exception of an actor. -/
def NorE (V E : List DotN) (d i : Int) : Prop := (⟨d, i, getV V d i + 1⟩ : DotN) ∉ E
/-- A base and exceptions that are these dots'. -/
structure RepE (V E : List DotN) (S : DotN → Prop) : Prop where
  ok : OkE V E
  dis : DisE V E
  nor : ∀ d i, NorE V E d i
  mem : ∀ x, S x ↔ InVE V E x
theorem nil_rep : RepE [] [] (fun x => x ∈ ([] : List DotN)) := by
  refine ⟨⟨nil_ok, List.nodup_nil, fun _ h => by cases h⟩, (fun _ h => by cases h), (fun _ _ h => by cases h), fun x => ⟨(fun h => by cases h), ?_⟩⟩
  rintro (h | h)
  · rw [hasV_iff] at h
    have h1 := right_range h.1
    have h2 : x.seq ≤ 0 := h.2
    omega
  · cases h
theorem RepE.congr {V E : List DotN} {S T : DotN → Prop} (h : RepE V E S) (hs : ∀ x, T x ↔ S x) : RepE V E T := ⟨h.ok, h.dis, h.nor, fun x => (hs x).trans (h.mem x)⟩

theorem right_down {d i n k : Int} (h : rightD ⟨d, i, n⟩ = true) (h1 : 1 ≤ k) (h2 : k ≤ n) : rightD ⟨d, i, k⟩ = true := by
  unfold rightD at *
  rw [Bool.and_eq_true] at *
  refine ⟨h.1, ?_⟩
  have := h.2
  rw [Bool.and_eq_true, decide_eq_true_iff, decide_eq_true_iff] at *
  simp only at *
  omega
theorem getV_right {V : List DotN} (h : OkV V) {d i k : Int} (h1 : 1 ≤ k) (h2 : k ≤ getV V d i) : rightD ⟨d, i, k⟩ = true := by
  obtain ⟨x, hx, rfl, rfl, e⟩ := getV_some (l := V) (d := d) (i := i) (by omega)
  have := h.right x hx
  exact right_down (n := x.seq) this h1 (by omega)

/-- The base and the exceptions of a list of dots. -/
theorem RepE.base {V E l : List DotN} (h : RepE V E (fun x => x ∈ l)) (hl : OkS l) : V = baseS l := by
  refine okV_ext h.ok.okV (base_ok hl.right) fun d i => ?_
  rw [base_get hl.right]
  have hr := getV_range h.ok.okV d i
  obtain ⟨n, hn⟩ := Int.eq_ofNat_of_zero_le hr.1
  rw [hn]
  congr 1
  refine (up_is (fun k hk => ?_) ?_).symm
  · rw [h.mem]
    exact .inl (hasV_iff.2 ⟨getV_right h.ok.okV (by omega) (by omega), by show (k : Int) + 1 ≤ getV V d i; omega⟩)
  · rw [h.mem]
    rintro (c | c)
    · have := (hasV_iff.1 c).2
      have e : (n : Int) + 1 ≤ getV V d i := this
      omega
    · have := h.nor d i
      unfold NorE at this
      rw [hn] at this
      exact this c
theorem RepE.beyond_mem {V E l : List DotN} (h : RepE V E (fun x => x ∈ l)) (hl : OkS l) (x : DotN) : x ∈ beyondS l ↔ x ∈ E := by
  have hb := h.base hl
  have hg := base_get hl.right x.dev x.inc
  rw [← hb] at hg
  unfold beyondS
  rw [List.mem_filter, decide_eq_true_iff, ← hg]
  constructor
  · rintro ⟨h1, h2⟩
    rcases (h.mem x).1 h1 with c | c
    · have := (hasV_iff.1 c).2
      omega
    · exact c
  · intro hx
    exact ⟨(h.mem x).2 (.inr hx), h.dis x hx⟩
theorem beyond_sorted {l : List DotN} (hl : OkS l) : SortedD (beyondS l) := List.Pairwise.filter _ hl.sorted
theorem RepE.beyond {V E l R : List DotN} (h : RepE V E (fun x => x ∈ l)) (hl : OkS l) (hR : ∀ x, x ∈ R ↔ x ∈ E) : sortD R = beyondS l :=
  sorted_unique (sortD_sorted R) (beyond_sorted hl) fun x => by rw [sortD_mem, hR, h.beyond_mem hl]
theorem RepE.has {V E l : List DotN} (h : RepE V E (fun x => x ∈ l)) (x : DotN) : hasD l x = (hasD E x || hasV V x) := by
  rw [Bool.eq_iff_iff, Bool.or_eq_true, hasD_iff, hasD_iff, h.mem]
  exact ⟨fun h => h.symm, fun h => h.symm⟩
theorem RepE.len {V E l : List DotN} (h : RepE V E (fun x => x ∈ l)) (hl : OkS l) : E.length ≤ l.length := by
  have h1 : (beyondS l).Perm E := (List.perm_ext_iff_of_nodup (beyond_sorted hl).nodup h.ok.nodup).2 (h.beyond_mem hl)
  rw [← h1.length_eq]
  exact beyond_len l
theorem OkS.parts {l : List DotN} (hl : OkS l) : RepE (baseS l) (beyondS l) (fun x => x ∈ l) := by
  have hg := fun d i => base_get hl.right d i
  refine ⟨⟨base_ok hl.right, (beyond_sorted hl).nodup, fun x hx => hl.right x (List.mem_filter.1 hx).1⟩, fun x hx => ?_, fun d i hx => ?_, fun x => ⟨fun hx => ?_, ?_⟩⟩
  · rw [hg]
    exact of_decide_eq_true (List.mem_filter.1 hx).2
  · rw [hg] at hx
    exact up_stop l d i (List.mem_filter.1 hx).1
  · by_cases c : (upS l x.dev x.inc : Int) < x.seq
    · exact .inr (List.mem_filter.2 ⟨hx, decide_eq_true c⟩)
    · exact .inl (hasV_iff.2 ⟨hl.right x hx, by rw [hg]; omega⟩)
  · rintro (c | c)
    · obtain ⟨h1, h2⟩ := hasV_iff.1 c
      rw [hg] at h2
      have h3 := right_range h1
      obtain ⟨n, hn⟩ := Int.eq_ofNat_of_zero_le (a := x.seq - 1) (by omega)
      have h4 := up_has (l := l) (d := x.dev) (i := x.inc) (k := n) (by omega)
      have e : (⟨x.dev, x.inc, (n : Int) + 1⟩ : DotN) = x := DotN.ext' rfl rfl (by show (n : Int) + 1 = x.seq; omega)
      rw [e] at h4
      exact h4
    · exact (List.mem_filter.1 c).1

/-- What the base took in of an actor. -/
structure TookE (d i : Int) (V E V1 E1 : List DotN) : Prop where
  ok : OkE V1 E1
  dis : DisE V1 E1
  mem : ∀ x, InVE V1 E1 x ↔ InVE V E x
  other : ∀ a b, ¬ (a = d ∧ b = i) → getV V1 a b = getV V a b
  sub : ∀ x ∈ E1, x ∈ E
  len : E1.length ≤ E.length
theorem TookE.refl {d i : Int} {V E : List DotN} (h : OkE V E) (hd : DisE V E) : TookE d i V E V E := ⟨h, hd, fun _ => Iff.rfl, fun _ _ _ => rfl, fun _ h => h, Nat.le_refl _⟩
theorem TookE.nor {d i : Int} {V E V1 E1 : List DotN} (h : TookE d i V E V1 E1) {a b : Int} (hn : NorE V E a b) (hne : ¬ (a = d ∧ b = i)) : NorE V1 E1 a b := by
  unfold NorE at *
  rw [h.other a b hne]
  exact fun c => hn (h.sub _ c)
theorem filter_out {E : List DotN} (hE : E.Nodup) {y : DotN} (hy : y ∈ E) : (E.filter fun z => !sameD z y).length + 1 = E.length := by
  induction E with
  | nil => cases hy
  | cons z t ih =>
    rw [List.nodup_cons] at hE
    by_cases e : z = y
    · subst e
      have h1 : (!sameD z z) = false := by rw [sameD_iff.2 rfl]; rfl
      rw [List.filter_cons_of_neg (p := fun a => !sameD a z) (by rw [h1]; decide), List.length_cons, List.filter_eq_self.2]
      intro a ha
      have : sameD a z = false := Bool.eq_false_iff.2 fun c => hE.1 (sameD_iff.1 c ▸ ha)
      rw [this]
      rfl
    · have h1 : (!sameD z y) = true := by rw [Bool.eq_false_iff.2 fun c => e (sameD_iff.1 c)]; rfl
      rw [List.filter_cons_of_pos (p := fun z => !sameD z y) h1, List.length_cons, List.length_cons, ih hE.2 (by
        rcases List.mem_cons.1 hy with c | c
        · exact absurd c.symm e
        · exact c)]
theorem mem_out {E : List DotN} {x y : DotN} : x ∈ E.filter (fun z => !sameD z y) ↔ x ∈ E ∧ x ≠ y := by
  rw [List.mem_filter]
  constructor
  · rintro ⟨h1, h2⟩
    refine ⟨h1, ?_⟩
    rintro rfl
    rw [sameD_iff.2 rfl] at h2
    cases h2
  · rintro ⟨h1, h2⟩
    refine ⟨h1, ?_⟩
    rw [Bool.eq_false_iff.2 fun c => h2 (sameD_iff.1 c)]
    rfl
theorem TookE.step {d i : Int} {V0 E0 V E : List DotN} (h : TookE d i V0 E0 V E) (hy : (⟨d, i, getV V d i + 1⟩ : DotN) ∈ E) :
    TookE d i V0 E0 (takeV V ⟨d, i, getV V d i + 1⟩).1 (E.filter fun z => !sameD z ⟨d, i, getV V d i + 1⟩) ∧ (E.filter fun z => !sameD z ⟨d, i, getV V d i + 1⟩).length + 1 = E.length := by
  have hr := h.ok.right _ hy
  have e1 : takeV V ⟨d, i, getV V d i + 1⟩ = (setV V ⟨d, i, getV V d i + 1⟩, true) := by
    unfold takeV
    rw [if_pos ⟨hr, rfl⟩]
  rw [e1]
  have hg := fun a b => getV_set h.ok.okV.ord ⟨d, i, getV V d i + 1⟩ a b
  dsimp only at hg
  generalize hn : getV V d i = n at *
  have hf := filter_out h.ok.nodup hy
  refine ⟨⟨⟨set_ok h.ok.okV hr, h.ok.nodup.filter _, fun x hx => h.ok.right x (mem_out.1 hx).1⟩, fun x hx => ?_, fun x => ?_, fun a b hne => ?_, fun x hx => h.sub x (mem_out.1 hx).1, by have := h.len; omega⟩, hf⟩
  · obtain ⟨h1, h2⟩ := mem_out.1 hx
    have h3 := h.dis x h1
    dsimp only
    rw [hg]
    split
    · rename_i c
      obtain ⟨rfl, rfl⟩ := c
      have : x.seq ≠ n + 1 := fun c => h2 (DotN.ext' rfl rfl c)
      omega
    · exact h3
  · rw [← h.mem]
    unfold InVE
    rw [hasV_iff, hasV_iff, mem_out, hg]
    constructor
    · rintro (⟨c1, c2⟩ | c)
      · by_cases q : d = x.dev ∧ i = x.inc
        · rw [if_pos q] at c2
          obtain ⟨rfl, rfl⟩ := q
          by_cases q2 : x.seq = n + 1
          · exact .inr ((DotN.ext' rfl rfl q2 : x = ⟨x.dev, x.inc, n + 1⟩) ▸ hy)
          · exact .inl ⟨c1, by omega⟩
        · rw [if_neg q] at c2
          exact .inl ⟨c1, c2⟩
      · exact .inr c.1
    · rintro (⟨c1, c2⟩ | c)
      · refine .inl ⟨c1, ?_⟩
        split
        · rename_i q
          obtain ⟨rfl, rfl⟩ := q
          omega
        · exact c2
      · by_cases q : x = ⟨d, i, n + 1⟩
        · refine .inl ⟨h.ok.right x c, ?_⟩
          subst q
          rw [if_pos ⟨rfl, rfl⟩]
          exact Int.le_refl _
        · exact .inr ⟨c, q⟩
  · rw [← h.other a b hne, hg, if_neg fun c => hne ⟨c.1.symm, c.2.symm⟩]

/-- A dot more. -/
theorem RepE.except {V E : List DotN} {S : DotN → Prop} (h : RepE V E S) {x : DotN} (hx : rightD x = true) (hn : ¬ InVE V E x) : OkE V (E ++ [x]) ∧ DisE V (E ++ [x]) := by
  unfold InVE at hn
  rw [not_or, hasV_iff, not_and] at hn
  have h1 := hn.1 hx
  refine ⟨⟨h.ok.okV, List.nodup_append.2 ⟨h.ok.nodup, by simp, fun a ha b hb => ?_⟩, fun y hy => ?_⟩, fun y hy => ?_⟩
  · rw [List.mem_singleton] at hb
    subst hb
    rintro rfl
    exact hn.2 ha
  · rcases List.mem_append.1 hy with c | c
    · exact h.ok.right y c
    · rw [List.mem_singleton] at c
      exact c ▸ hx
  · rcases List.mem_append.1 hy with c | c
    · exact h.dis y c
    · rw [List.mem_singleton] at c
      subst c
      omega
theorem RepE.added {V E V1 E1 : List DotN} {S : DotN → Prop} (h : RepE V E S) {x : DotN} (ht : TookE x.dev x.inc V (E ++ [x]) V1 E1) (hn : NorE V1 E1 x.dev x.inc) : RepE V1 E1 (fun y => S y ∨ y = x) := by
  refine ⟨ht.ok, ht.dis, fun a b => ?_, fun y => ?_⟩
  · by_cases q : a = x.dev ∧ b = x.inc
    · obtain ⟨rfl, rfl⟩ := q
      exact hn
    · refine ht.nor ?_ q
      unfold NorE
      rw [List.mem_append, List.mem_singleton]
      rintro (c | c)
      · exact h.nor a b c
      · rw [← c] at q
        exact q ⟨rfl, rfl⟩
  · rw [ht.mem, h.mem]
    unfold InVE
    rw [List.mem_append, List.mem_singleton]
    exact ⟨fun c => c.elim (fun c => c.imp id .inl) (fun c => .inr (.inr c)), fun c => c.elim (fun c => .inl (.inl c)) (fun c => c.elim (fun c => .inl (.inr c)) .inr)⟩
theorem RepE.there {V E : List DotN} {S : DotN → Prop} (h : RepE V E S) {x : DotN} (hx : InVE V E x) : RepE V E (fun y => S y ∨ y = x) :=
  h.congr fun y => ⟨fun c => c.elim id (fun c => by subst c; exact (h.mem _).2 hx), .inl⟩

/-- All of a vector more: its numbers, raised; what the base has is no exception any more. -/
structure StripE (V1 E E1 : List DotN) : Prop where
  nodup : E1.Nodup
  sub : ∀ x ∈ E1, x ∈ E
  gone : ∀ x ∈ E, x ∉ E1 → hasV V1 x = true
  dis : ∀ x ∈ E1, hasV V1 x = false
/-- In the midst of the actors that the base takes in. -/
structure MidE (V E L : List DotN) (S : DotN → Prop) (V1 E1 : List DotN) (k : Nat) : Prop where
  ok : OkE V1 E1
  dis : DisE V1 E1
  mem : ∀ x, InVE V1 E1 x ↔ S x ∨ hasV L x = true
  nor : ∀ d i, (∀ y ∈ L.drop k, ¬ (y.dev = d ∧ y.inc = i)) → NorE V1 E1 d i
theorem join_get {V L : List DotN} (hV : OkV V) (hL : OkV L) (d i : Int) : getV (joinV V L) d i = max (getV V d i) (getV L d i) := (join_all hV hL).2 d i
theorem RepE.mid {V E L E1 : List DotN} {S : DotN → Prop} (h : RepE V E S) (hL : OkV L) (hs : StripE (joinV V L) E E1) : MidE V E L S (joinV V L) E1 0 := by
  have hg := join_get h.ok.okV hL
  refine ⟨⟨(join_all h.ok.okV hL).1, hs.nodup, fun x hx => h.ok.right x (hs.sub x hx)⟩, fun x hx => ?_, fun x => ?_, fun d i hn => ?_⟩
  · have h1 := hs.dis x hx
    have h2 := h.ok.right x (hs.sub x hx)
    unfold hasV at h1
    rw [h2, Bool.true_and, decide_eq_false_iff_not] at h1
    omega
  · rw [h.mem]
    unfold InVE
    rw [hasV_iff, hasV_iff, hasV_iff, hg]
    constructor
    · rintro (⟨c1, c2⟩ | c)
      · rcases Int.le_total (getV V x.dev x.inc) (getV L x.dev x.inc) with q | q
        · rw [Int.max_eq_right q] at c2
          exact .inr ⟨c1, c2⟩
        · rw [Int.max_eq_left q] at c2
          exact .inl (.inl ⟨c1, c2⟩)
      · exact .inl (.inr (hs.sub x c))
    · rintro ((⟨c1, c2⟩ | c) | ⟨c1, c2⟩)
      · exact .inl ⟨c1, Int.le_trans c2 (Int.le_max_left _ _)⟩
      · by_cases q : x ∈ E1
        · exact .inr q
        · have := hasV_iff.1 (hs.gone x c q)
          rw [hg] at this
          exact .inl this
      · exact .inl ⟨c1, Int.le_trans c2 (Int.le_max_right _ _)⟩
  · have h0 : getV L d i = 0 := getV_none fun y hy => hn y (by rw [List.drop_zero]; exact hy)
    have h1 := (getV_range h.ok.okV d i).1
    unfold NorE
    rw [hg, h0, Int.max_eq_left h1]
    exact fun c => h.nor d i (hs.sub _ c)
theorem MidE.step {V E L V1 E1 V2 E2 : List DotN} {S : DotN → Prop} {k : Nat} {y : DotN} (h : MidE V E L S V1 E1 k) (hy : L[k]? = some y) (ht : TookE y.dev y.inc V1 E1 V2 E2) (hn : NorE V2 E2 y.dev y.inc) : MidE V E L S V2 E2 (k + 1) := by
  obtain ⟨hk, rfl⟩ := List.getElem?_eq_some_iff.1 hy
  refine ⟨ht.ok, ht.dis, fun x => (ht.mem x).trans (h.mem x), fun d i hd => ?_⟩
  by_cases q : d = L[k].dev ∧ i = L[k].inc
  · obtain ⟨rfl, rfl⟩ := q
    exact hn
  · refine ht.nor (h.nor d i fun y hy => ?_) q
    rw [List.drop_eq_getElem_cons hk] at hy
    rcases List.mem_cons.1 hy with rfl | hy
    · exact fun c => q ⟨c.1.symm, c.2.symm⟩
    · exact hd y hy
theorem MidE.rep {V E L V1 E1 : List DotN} {S : DotN → Prop} {k : Nat} (h : MidE V E L S V1 E1 k) (hk : L.length ≤ k) : RepE V1 E1 (fun x => S x ∨ hasV L x = true) :=
  ⟨h.ok, h.dis, fun d i => h.nor d i fun y hy => (by rw [List.drop_eq_nil_of_le hk] at hy; cases hy), fun x => (h.mem x).symm⟩
theorem OkE.len {V E : List DotN} (h : OkE V E) {l : List DotN} (hm : ∀ x ∈ E, x ∈ l) : E.length ≤ l.length := by
  have h1 : ∀ (E l : List DotN), E.Nodup → (∀ x ∈ E, x ∈ l) → E.length ≤ l.length := by
    intro E
    induction E with
    | nil => exact fun _ _ _ => Nat.zero_le _
    | cons y t ih =>
      intro l hn hs
      rw [List.nodup_cons] at hn
      have h2 := ih (l.filter fun z => !sameD z y) hn.2 fun x hx => mem_out.2 ⟨hs x (List.mem_cons_of_mem _ hx), fun e => hn.1 (e ▸ hx)⟩
      have h3 : (l.filter fun z => !sameD z y).length < l.length := by
        rw [List.length_filter_lt_length_iff_exists]
        exact ⟨y, hs y List.mem_cons_self, by rw [sameD_iff.2 rfl]; decide⟩
      rw [List.length_cons]
      omega
  exact h1 E l h.nodup hm
end Go.Proofs.YtelgaglnmcggkaaGreatDoor
