/- Contracts and plain words that the laws' proofs stand on, put together. -/
import Derived.Test.YtlggjijgilcloaaLibAF
import Derived.Test.YtlggjijgilcloaaLibAG
import Derived.Test.YtlggjijgilcloaaDotMap
import Derived.Deep.RegionHeld3
import Derived.Test.YtlggjijgilcloaaLibAC
import Derived.Test.YtlggjijgilcloaaLibAD
/- Sets of dots in plain words: up to where there are all of an actor's, what lies beyond, what another one lacks. No program in it. -/
namespace Go.Proofs.Ytlggjijgilcloaa
set_option linter.unusedVariables false

def hasD (l : List DotN) (x : DotN) : Bool := l.any fun y => sameD y x
theorem hasD_iff {l : List DotN} {x : DotN} : hasD l x = true ↔ x ∈ l := by
  unfold hasD
  rw [List.any_eq_true]
  constructor
  · rintro ⟨y, hy, h⟩
    rw [sameD_iff] at h
    exact h ▸ hy
  · intro h
    exact ⟨x, h, sameD_iff.2 rfl⟩
theorem hasD_no {l : List DotN} {x : DotN} : hasD l x = false ↔ x ∉ l := by
  rw [← hasD_iff, Bool.not_eq_true]

/-- A dot more. -/
def addS (l : List DotN) (x : DotN) : List DotN := if rightD x = true then sortD (l ++ [x]) else l

/-- So many, from n on, are all there. -/
def upF (l : List DotN) (d i : Int) : Nat → Nat → Nat
  | 0, n => n
  | f + 1, n => if hasD l ⟨d, i, (n : Int) + 1⟩ = true then upF l d i f (n + 1) else n
def upS (l : List DotN) (d i : Int) : Nat := upF l d i (l.length + 1) 0

theorem upF_le (l : List DotN) (d i : Int) : ∀ f n, n ≤ upF l d i f n
  | 0, n => Nat.le_refl _
  | f + 1, n => by
    unfold upF
    split
    · exact Nat.le_trans (Nat.le_succ n) (upF_le l d i f (n + 1))
    · exact Nat.le_refl _
theorem upF_has (l : List DotN) (d i : Int) : ∀ f n k, n ≤ k → k < upF l d i f n → (⟨d, i, (k : Int) + 1⟩ : DotN) ∈ l
  | 0, n, k, h1, h2 => by unfold upF at h2; omega
  | f + 1, n, k, h1, h2 => by
    unfold upF at h2
    split at h2
    · rename_i h
      by_cases e : k = n
      · subst e; exact hasD_iff.1 h
      · exact upF_has l d i f (n + 1) k (by omega) h2
    · omega
theorem upF_stop (l : List DotN) (d i : Int) : ∀ f n, upF l d i f n < n + f → hasD l ⟨d, i, (upF l d i f n : Int) + 1⟩ = false
  | 0, n, h => by unfold upF at h; omega
  | f + 1, n, h => by
    by_cases c : hasD l ⟨d, i, (n : Int) + 1⟩ = true
    · have e : upF l d i (f + 1) n = upF l d i f (n + 1) := by rw [upF, if_pos c]
      rw [e] at h ⊢
      exact upF_stop l d i f (n + 1) (by omega)
    · have e : upF l d i (f + 1) n = n := by rw [upF, if_neg c]
      rw [e]
      exact Bool.eq_false_iff.2 c

/-- No more numbers than dots. -/
theorem many_le (d i : Int) : ∀ (m : Nat) (l : List DotN), (∀ k, k < m → (⟨d, i, (k : Int) + 1⟩ : DotN) ∈ l) → m ≤ l.length
  | 0, l, _ => Nat.zero_le _
  | m + 1, l, h => by
    have h1 := h m (Nat.lt_succ_self m)
    have h2 := many_le d i m (l.filter fun y => !sameD y ⟨d, i, (m : Int) + 1⟩) fun k hk => by
      rw [List.mem_filter]
      refine ⟨h k (by omega), ?_⟩
      have : sameD ⟨d, i, (k : Int) + 1⟩ ⟨d, i, (m : Int) + 1⟩ = false := by
        rw [Bool.eq_false_iff]
        intro c
        rw [sameD_iff] at c
        have := congrArg DotN.seq c
        simp only at this
        omega
      rw [this]
      rfl
    have h3 : (l.filter fun y => !sameD y ⟨d, i, (m : Int) + 1⟩).length < l.length := by
      rw [List.length_filter_lt_length_iff_exists]
      exact ⟨_, h1, by rw [sameD_iff.2 rfl]; decide⟩
    omega

theorem up_le (l : List DotN) (d i : Int) : upS l d i ≤ l.length :=
  many_le d i _ l fun k hk => upF_has l d i _ 0 k (Nat.zero_le _) hk
theorem up_has {l : List DotN} {d i : Int} {k : Nat} (h : k < upS l d i) : (⟨d, i, (k : Int) + 1⟩ : DotN) ∈ l := upF_has l d i _ 0 k (Nat.zero_le _) h
theorem up_stop (l : List DotN) (d i : Int) : (⟨d, i, (upS l d i : Int) + 1⟩ : DotN) ∉ l := by
  rw [← hasD_no]
  exact upF_stop l d i _ 0 (by have := up_le l d i; unfold upS at this; omega)
/-- Which number it is. -/
theorem up_is {l : List DotN} {d i : Int} {n : Nat} (h1 : ∀ k, k < n → (⟨d, i, (k : Int) + 1⟩ : DotN) ∈ l) (h2 : (⟨d, i, (n : Int) + 1⟩ : DotN) ∉ l) : upS l d i = n := by
  rcases Nat.lt_trichotomy (upS l d i) n with h | h | h
  · exact absurd (h1 _ h) (up_stop l d i)
  · exact h
  · exact absurd (up_has h) h2
theorem up_mono {l m : List DotN} (h : ∀ x ∈ l, x ∈ m) (d i : Int) : upS l d i ≤ upS m d i := by
  rcases Nat.lt_or_ge (upS m d i) (upS l d i) with c | c
  · exact absurd (h _ (up_has c)) (up_stop m d i)
  · exact c
theorem up_ext {l m : List DotN} (h : ∀ x, x ∈ l ↔ x ∈ m) (d i : Int) : upS l d i = upS m d i :=
  Nat.le_antisymm (up_mono (fun x hx => (h x).1 hx) d i) (up_mono (fun x hx => (h x).2 hx) d i)

def baseStep (l : List DotN) (out : List DotN) (x : DotN) : List DotN := if 0 < upS l x.dev x.inc then setV out ⟨x.dev, x.inc, upS l x.dev x.inc⟩ else out
def baseS (l : List DotN) : List DotN := l.foldl (baseStep l) []
def beyondS (l : List DotN) : List DotN := l.filter fun x => decide ((upS l x.dev x.inc : Int) < x.seq)
def lackS (l : List DotN) (b : DotN) : List DotN := if (upS l b.dev b.inc : Int) < b.seq then [⟨b.dev, b.inc, (upS l b.dev b.inc : Int) + 1⟩] else []
def missingS (l m : List DotN) : List DotN := (baseS m).flatMap (lackS l) ++ (beyondS m).filter fun x => !hasD l x

/-- Dots that a set holds. -/
structure OkS (l : List DotN) : Prop where
  sorted : SortedD l
  right : ∀ x ∈ l, rightD x = true
theorem nil_okS : OkS [] := ⟨List.Pairwise.nil, fun _ h => by cases h⟩
theorem add_ok {l : List DotN} (h : OkS l) (x : DotN) : OkS (addS l x) := by
  unfold addS
  split
  · rename_i hx
    refine ⟨sortD_sorted _, fun y hy => ?_⟩
    rw [sortD_mem, List.mem_append, List.mem_singleton] at hy
    rcases hy with hy | rfl
    · exact h.right y hy
    · exact hx
  · exact h
theorem add_mem {l : List DotN} (x y : DotN) : y ∈ addS l x ↔ y ∈ l ∨ (y = x ∧ rightD x = true) := by
  unfold addS
  split
  · rename_i hx
    rw [sortD_mem, List.mem_append, List.mem_singleton]
    exact ⟨fun h => h.imp id fun h => ⟨h, hx⟩, fun h => h.imp id fun h => h.1⟩
  · rename_i hx
    exact ⟨.inl, fun h => h.elim id fun h => absurd h.2 hx⟩
theorem add_len (l : List DotN) (x : DotN) : (addS l x).length ≤ l.length + 1 := by
  unfold addS
  split
  · have := sortD_len (l ++ [x])
    rw [List.length_append, List.length_singleton] at this
    exact this
  · omega

/-- The dots of a list that a set takes. -/
def addsS (L : List DotN) : List DotN := L.foldl addS []
theorem adds_snoc {L : List DotN} {k : Nat} {y : DotN} (h : L[k]? = some y) : addsS (L.take (k + 1)) = addS (addsS (L.take k)) y := by
  obtain ⟨hk, rfl⟩ := List.getElem?_eq_some_iff.1 h
  unfold addsS
  rw [List.take_succ_eq_append_getElem hk, List.foldl_append]
  rfl
theorem adds_all (L : List DotN) : ∀ l, OkS l → OkS (L.foldl addS l) ∧ (∀ y, y ∈ L.foldl addS l ↔ y ∈ l ∨ (y ∈ L ∧ rightD y = true)) ∧ (L.foldl addS l).length ≤ l.length + L.length := by
  induction L with
  | nil => exact fun l h => ⟨h, fun y => ⟨.inl, fun h => h.elim id fun h => by cases h.1⟩, Nat.le_refl _⟩
  | cons x t ih =>
    intro l h
    obtain ⟨h1, h2, h3⟩ := ih _ (add_ok h x)
    have h4 := add_len l x
    refine ⟨h1, fun y => ?_, by rw [List.foldl_cons, List.length_cons]; omega⟩
    rw [List.foldl_cons, h2, add_mem]
    constructor
    · rintro ((h | ⟨rfl, h⟩) | ⟨h, h'⟩)
      · exact .inl h
      · exact .inr ⟨List.mem_cons_self, h⟩
      · exact .inr ⟨List.mem_cons_of_mem _ h, h'⟩
    · rintro (h | ⟨h, h'⟩)
      · exact .inl (.inl h)
      · rcases List.mem_cons.1 h with rfl | h
        · exact .inl (.inr ⟨rfl, h'⟩)
        · exact .inr ⟨h, h'⟩
theorem adds_ok (L : List DotN) : OkS (addsS L) := (adds_all L [] nil_okS).1
theorem adds_mem (L : List DotN) (y : DotN) : y ∈ addsS L ↔ y ∈ L ∧ rightD y = true := by
  have := (adds_all L [] nil_okS).2.1 y
  rw [show L.foldl addS [] = addsS L from rfl] at this
  rw [this]
  exact ⟨fun h => h.elim (fun h => by cases h) id, .inr⟩
theorem adds_len (L : List DotN) : (addsS L).length ≤ L.length := by
  have := (adds_all L [] nil_okS).2.2
  rw [List.length_nil, Nat.zero_add] at this
  exact this
/-- In whatever order they come. -/
theorem adds_turned {L M : List DotN} (h : ∀ y, y ∈ L ↔ y ∈ M) : addsS L = addsS M :=
  sorted_unique (adds_ok L).sorted (adds_ok M).sorted fun y => by rw [adds_mem, adds_mem, h]

def joinS (l m : List DotN) : List DotN := sortD (l ++ m)
theorem join_okS {l m : List DotN} (hl : OkS l) (hm : OkS m) : OkS (joinS l m) :=
  ⟨sortD_sorted _, fun y hy => by
    unfold joinS at hy
    rw [sortD_mem, List.mem_append] at hy
    exact hy.elim (hl.right y) (hm.right y)⟩
theorem join_lenS (l m : List DotN) : (joinS l m).length ≤ l.length + m.length := by
  have := sortD_len (l ++ m)
  rw [List.length_append] at this
  exact this

/-- The base, by its marks. -/
theorem base_all (L : List DotN) : ∀ (l out : List DotN), OkV out → (∀ x ∈ l, rightD x = true) → (∀ x ∈ l, x ∈ L) → (∀ x ∈ L, rightD x = true) → (∀ d i, getV out d i ≠ 0 → getV out d i = upS L d i) →
    OkV (l.foldl (baseStep L) out) ∧ (∀ d i, getV (l.foldl (baseStep L) out) d i = if getV out d i ≠ 0 ∨ ∃ x ∈ l, x.dev = d ∧ x.inc = i then (upS L d i : Int) else 0) := by
  intro l
  induction l with
  | nil =>
    intro out ho _ _ _ hg
    refine ⟨ho, fun d i => ?_⟩
    by_cases h : getV out d i = 0
    · rw [if_neg (by rintro (c | ⟨x, hx, _⟩)
                     · exact c h
                     · cases hx)]
      exact h
    · rw [if_pos (.inl h)]
      exact hg d i h
  | cons x t ih =>
    intro out ho hr hm hR hg
    have hx := hr x List.mem_cons_self
    by_cases c : 0 < upS L x.dev x.inc
    · have e : baseStep L out x = setV out ⟨x.dev, x.inc, upS L x.dev x.inc⟩ := by unfold baseStep; rw [if_pos c]
      have hrx : rightD ⟨x.dev, x.inc, (upS L x.dev x.inc : Int)⟩ = true := by
        have := up_has (l := L) (d := x.dev) (i := x.inc) (k := upS L x.dev x.inc - 1) (by omega)
        have h2 := hR _ this
        rw [show ((upS L x.dev x.inc - 1 : Nat) : Int) + 1 = (upS L x.dev x.inc : Int) by omega] at h2
        exact h2
      have hgs := getV_set ho.ord ⟨x.dev, x.inc, (upS L x.dev x.inc : Int)⟩
      simp only at hgs
      obtain ⟨h1, h2⟩ := ih (setV out ⟨x.dev, x.inc, upS L x.dev x.inc⟩) (set_ok ho hrx) (fun y hy => hr y (List.mem_cons_of_mem _ hy)) (fun y hy => hm y (List.mem_cons_of_mem _ hy)) hR (fun d i h => by
        rw [hgs] at h ⊢
        by_cases q : x.dev = d ∧ x.inc = i
        · rw [if_pos q, q.1, q.2]
        · rw [if_neg q] at h ⊢
          exact hg d i h)
      rw [List.foldl_cons, e]
      refine ⟨h1, fun d i => ?_⟩
      rw [h2, hgs]
      by_cases q : x.dev = d ∧ x.inc = i
      · rw [if_pos q, if_pos (.inl (by omega)), if_pos (.inr ⟨x, List.mem_cons_self, q⟩)]
      · rw [if_neg q]
        by_cases q2 : getV out d i ≠ 0 ∨ ∃ y ∈ t, y.dev = d ∧ y.inc = i
        · rw [if_pos q2, if_pos (q2.imp id fun ⟨y, hy, h⟩ => ⟨y, List.mem_cons_of_mem _ hy, h⟩)]
        · rw [if_neg q2, if_neg]
          rintro (h | ⟨y, hy, h⟩)
          · exact q2 (.inl h)
          · rcases List.mem_cons.1 hy with rfl | hy
            · exact q h
            · exact q2 (.inr ⟨y, hy, h⟩)
    · have e : baseStep L out x = out := by unfold baseStep; rw [if_neg c]
      obtain ⟨h1, h2⟩ := ih out ho (fun y hy => hr y (List.mem_cons_of_mem _ hy)) (fun y hy => hm y (List.mem_cons_of_mem _ hy)) hR hg
      rw [List.foldl_cons, e]
      refine ⟨h1, fun d i => ?_⟩
      rw [h2]
      by_cases q2 : getV out d i ≠ 0 ∨ ∃ y ∈ t, y.dev = d ∧ y.inc = i
      · rw [if_pos q2, if_pos (q2.imp id fun ⟨y, hy, h⟩ => ⟨y, List.mem_cons_of_mem _ hy, h⟩)]
      · rw [if_neg q2]
        split
        · rename_i h
          rcases h with h | ⟨y, hy, h⟩
          · exact absurd (.inl h) q2
          · rcases List.mem_cons.1 hy with rfl | hy
            · obtain ⟨rfl, rfl⟩ := h
              omega
            · exact absurd (.inr ⟨y, hy, h⟩) q2
        · rfl
theorem base_ok {l : List DotN} (h : ∀ x ∈ l, rightD x = true) : OkV (baseS l) :=
  (base_all l l [] nil_ok h (fun _ h => h) h (fun d i h => by exact absurd rfl h)).1
/-- Of each actor the number up to which all are there. -/
theorem base_get {l : List DotN} (h : ∀ x ∈ l, rightD x = true) (d i : Int) : getV (baseS l) d i = upS l d i := by
  have := (base_all l l [] nil_ok h (fun _ h => h) h (fun d i h => by exact absurd rfl h)).2 d i
  unfold baseS
  rw [this]
  split
  · rfl
  · rename_i c
    rcases Nat.eq_zero_or_pos (upS l d i) with h0 | h0
    · rw [h0]; rfl
    · exact absurd (.inr ⟨_, up_has h0, rfl, rfl⟩) c
theorem beyond_len (l : List DotN) : (beyondS l).length ≤ l.length := List.length_filter_le _ _

/-- Nothing lacks behind a join. -/
theorem missing_none {l m : List DotN} (hm : ∀ x ∈ m, rightD x = true) (h : ∀ x ∈ m, x ∈ l) : missingS l m = [] := by
  unfold missingS
  rw [List.append_eq_nil_iff]
  constructor
  · rw [List.flatMap_eq_nil_iff]
    intro b hb
    have ok := base_ok hm
    have e := getV_mem ok.ord hb
    rw [base_get hm] at e
    have := up_mono h b.dev b.inc
    unfold lackS
    rw [if_neg (by omega)]
  · rw [List.filter_eq_nil_iff]
    intro x hx
    rw [hasD_iff.2 (h x (List.mem_filter.1 hx).1)]
    decide

/-- How a set is packed. -/
def packS (l : List DotN) : List Int := packV (baseS l) ++ (short (beyondS l).length ++ (beyondS l).flatMap bytesD)
end Go.Proofs.Ytlggjijgilcloaa

/- Contracts of the reference of layer 18: is a dot there; up to where there are all. -/
namespace Go.Proofs.Ytlggjijgilcloaa
open Go.RowKit
set_option linter.unusedVariables false

theorem has_drop {L : List DotN} {x y : DotN} {k : Nat} (h : L[k]? = some y) : hasD (L.drop k) x = (sameD y x || hasD (L.drop (k + 1)) x) := by
  obtain ⟨h1, h2⟩ := List.getElem?_eq_some_iff.1 h
  rw [List.drop_eq_getElem_cons h1, h2]
  rfl

set_option maxRecDepth 100000 in
theorem refHasDC (a : Option Addr) (n c : Nat) (L : List DotN) (x : DotN) (w : World) (hL : RowOf encD 3 w a n c L) :
    Calls Try.prog 13 #[.slice a n c, .agg #[.int .i64 x.dev, .int .i64 x.inc, .int .i64 x.seq]] w fun e w' => e = .returned (.bool (hasD L x)) ∧ Below w.heap.size w w' := by
  have hn := hL.leq
  have hcm := hL.capm
  have hcl := hL.cle
  unfold maxLen at hcm
  have o1 := ObjAt.new w #[.int .i64 x.dev, .int .i64 x.inc, .int .i64 x.seq] 26
  have b1 := below_alloc w (.cells #[.int .i64 x.dev, .int .i64 x.inc, .int .i64 x.seq] 26)
  have HL := Lib.hid (hL.below b1)
  have Hn := Lib.hid hn
  have v0 := o1.cell 0 rfl; have v1 := o1.cell 1 rfl; have v2 := o1.cell 2 rfl
  clear hL hn o1
  generalize hw1 : w.alloc (.cells #[.int .i64 x.dev, .int .i64 x.inc, .int .i64 x.seq] 26) = w1 at *
  go_enter Try.func13, Try.ntmps13
  go_wp2
  go_loopw [5] (fun i wr => ∃ k q : Nat, k ≤ n ∧ i = .int .i64 (k : Int) ∧ Hid (hasD L x = hasD (L.drop k) x) ∧ wr = w1.drewN q) (fun i _ => n - (intOf i).toNat)
  case atStart => exact ⟨0, 0, Nat.zero_le _, rfl, rfl, rfl⟩
  case round =>
    obtain ⟨k, q, hk, rfl, hs, rfl⟩ := hrel
    by_cases hlt : k < n
    · have hlt' : (k : Int) < (n : Int) := by omega
      obtain ⟨y, g1, o1, hy, rfl, c0, c1, c2⟩ := dot_at HL.out k hlt
      have hd := has_drop (x := x) hy
      have hE := eqDot y x
      cases hxy : sameD y x with
      | true =>
        have e : Hid (hasD L x = true) := by unfold Hid; rw [hs.out, hd, hxy]; rfl
        rw [hxy] at hE
        clear hs hxy hd hy
        go_wp2_with fail
        go_quiet (fail)
        go_wp2
        go_ret
        exact ⟨by rw [e.out]; rfl, drawn_below (drawn_below b1 _) _⟩
      | false =>
        have e : Hid (hasD L x = hasD (L.drop (k + 1)) x) := by unfold Hid; rw [hs.out, hd, hxy]; rfl
        rw [hxy] at hE
        clear hs hxy hd hy
        go_wp2_with fail
        go_quiet (fail)
        go_wp2
        go_roundw
        case rel => exact ⟨k + 1, _, by omega, by go_num, e, by first | rfl | simp⟩
        case measure => simp [intOf]; omega
    · obtain rfl : k = n := by omega
      have e : Hid (hasD L x = false) := by
        unfold Hid
        rw [hs.out, List.drop_eq_nil_of_le (by rw [Hn.out]; exact Nat.le_refl _)]
        rfl
      go_wp2
      go_ret
      exact ⟨by rw [e.out]; rfl, drawn_below b1 _⟩

set_option maxRecDepth 100000 in
theorem refUpC (a : Option Addr) (n c : Nat) (L : List DotN) (d i : Int) (w : World) (hL : RowOf encD 3 w a n c L) (h9 : n ≤ 1000000) :
    Calls Try.prog 36 #[.slice a n c, .agg #[.int .i64 d, .int .i64 i]] w fun e w' => e = .returned (.int .i64 (upS L d i : Int)) ∧ Below w.heap.size w w' := by
  have hn := hL.leq
  have hcm := hL.capm
  have hcl := hL.cle
  unfold maxLen at hcm
  have o1 := ObjAt.new w #[.int .i64 d, .int .i64 i] 24
  have b1 := below_alloc w (.cells #[.int .i64 d, .int .i64 i] 24)
  have HL := Lib.hid (hL.below b1)
  have hul := up_le L d i
  have Hu := Lib.hid (fun k (h : k < upS L d i) => up_has h)
  have Hs := Lib.hid (up_stop L d i)
  rw [hn] at hul
  have HS := fun (k : Nat) v h => refHasDC a n c L ⟨d, i, (k : Int) + 1⟩ v h
  clear hL hn
  generalize upS L d i = U at *
  generalize hw1 : w.alloc (.cells #[.int .i64 d, .int .i64 i] 24) = w1 at *
  go_enter Try.func36, Try.ntmps36
  go_wp2
  go_loopw [5] (fun j wr => ∃ k : Nat, k ≤ U ∧ j = .int .i64 (k : Int) ∧ ObjAt wr w.heap.size [.int .i64 d, .int .i64 i] ∧ Below w1.heap.size w1 wr) (fun j _ => U - (intOf j).toNat)
  case atStart => exact ⟨0, Nat.zero_le _, rfl, o1, Below.refl _ _⟩
  case round =>
    obtain ⟨k, hk, rfl, o2, hb⟩ := hrel
    have v0 := o2.cell 0 rfl; have v1 := o2.cell 1 rfl
    have HK := fun v h => HS k v h
    by_cases hlt : k < U
    · have e := hasD_iff.2 (Hu.out k hlt)
      simp only [e] at HK
      clear e HS
      go_wp2_with (go_at_call 13; (with_reducible refine (HK _ (HL.out.below hb)).mono ?_); rintro e w2 ⟨rfl, hx⟩)
      go_roundw
      case rel => exact ⟨k + 1, by omega, by go_num, o2.below hx o2.lt, hb.trans (hx.mono hb.size)⟩
      case measure => simp [intOf]; omega
    · obtain rfl : k = U := by omega
      have e := hasD_no.2 Hs.out
      simp only [e] at HK
      clear e HS
      go_wp2_with (go_at_call 13; (with_reducible refine (HK _ (HL.out.below hb)).mono ?_); rintro e w2 ⟨rfl, hx⟩)
      go_ret
      exact ⟨rfl, b1.trans ((hb.trans (hx.mono hb.size)).mono b1.size)⟩
end Go.Proofs.Ytlggjijgilcloaa

/- Contracts of the reference of layer 18: the base, what lies beyond. -/
namespace Go.Proofs.Ytlggjijgilcloaa
open Go.RowKit
set_option linter.unusedVariables false

theorem base_len (l : List DotN) : (baseS l).length ≤ l.length := by
  have : ∀ (t out : List DotN), (t.foldl (baseStep l) out).length ≤ out.length + t.length := by
    intro t
    induction t with
    | nil => exact fun out => Nat.le_refl _
    | cons x t ih =>
      intro out
      have h1 := ih (baseStep l out x)
      have h2 : (baseStep l out x).length ≤ out.length + 1 := by
        unfold baseStep
        split
        · exact set_len out _
        · omega
      rw [List.foldl_cons, List.length_cons]
      omega
  have := this l []
  rw [List.length_nil, Nat.zero_add] at this
  exact this
theorem base_stepL {L : List DotN} {k : Nat} {y : DotN} (h : L[k]? = some y) : (L.take (k + 1)).foldl (baseStep L) [] = baseStep L ((L.take k).foldl (baseStep L) []) y := by
  rw [take_snocI h, List.foldl_append]
  rfl
theorem beyond_stepL {L M : List DotN} {k : Nat} {y : DotN} (h : L[k]? = some y) : (L.take (k + 1)).filter (fun x => decide ((upS M x.dev x.inc : Int) < x.seq)) = (L.take k).filter (fun x => decide ((upS M x.dev x.inc : Int) < x.seq)) ++ if (upS M y.dev y.inc : Int) < y.seq then [y] else [] := by
  rw [take_snocI h, List.filter_append]
  by_cases c : (upS M y.dev y.inc : Int) < y.seq
  · rw [if_pos c]; simp [c]
  · rw [if_neg c]; simp [c]

theorem OwnZ.at' {α : Type} {enc : α → List Value} {z base : Nat} {e : TypeId} {a : Option Addr} {n c : Nat} {P : List α} {w : World} (h : OwnZ enc z base e a n c P w) : ∀ k, At a k → base ≤ k ∧ k < w.heap.size := fun k hk => by
  rcases h.head with ⟨rfl, -⟩ | ⟨g, rfl, h1, h2⟩
  · exact absurd hk (at_none k)
  · have e : g = k := at_some.1 hk
    subst e
    exact ⟨h1, h2⟩

/-- A row of dots or marks that a call gives. -/
def GivesR (L : List DotN) (w : World) (e : Ending) (w' : World) : Prop :=
  ∃ a n c, e = .returned (.slice a n c) ∧ RowOf encD 3 w' a n c L ∧ (∀ k, At a k → w.heap.size ≤ k ∧ k < w'.heap.size) ∧ Below w.heap.size w w'

set_option maxHeartbeats 1000000 in
set_option maxRecDepth 100000 in
theorem refBaseC (a : Option Addr) (n c : Nat) (L : List DotN) (w : World) (hL : RowOf encD 3 w a n c L) (h9 : n ≤ 100000) :
    Calls Try.prog 31 #[.slice a n c] w (GivesR (baseS L) w) := by
  have hcm := hL.capm
  have hcl := hL.cle
  have hleq := hL.leq
  unfold maxLen at hcm
  have HL := Lib.hid hL
  have Hn := Lib.hid hleq
  have hO0 := (OwnZ.lit encD 3 53 w).row encD_len
  have hA0 := (OwnZ.lit encD 3 53 w).at'
  have hb0 := below_alloc w (.cells #[] 53)
  unfold GivesR
  clear hL hleq
  go_enter Try.func31, Try.ntmps31
  go_wp2
  go_loopw [3, 4] (fun l i wr => ∃ (k m' c' : Nat) (q : Option Addr) (R : List DotN), k ≤ n ∧ m' ≤ k ∧ i = .int .i64 (k : Int) ∧ l = .slice q m' c' ∧ Hid ((L.take k).foldl (baseStep L) [] = R) ∧ RowOf encD 3 wr q m' c' R ∧ (∀ j, At q j → w.heap.size ≤ j ∧ j < wr.heap.size) ∧ Below w.heap.size w wr) (fun _ i _ => n - (intOf i).toNat)
  case atStart => exact ⟨0, 0, _, _, [], Nat.zero_le _, Nat.le_refl _, rfl, rfl, rfl, hO0, hA0, hb0⟩
  case round =>
    clear hb0 hO0 hA0
    obtain ⟨k, m', c', q, R, hk, hmk, rfl, rfl, hs, hO, hA, hb⟩ := hrel
    by_cases hlt : k < n
    · have hlt' : (k : Int) < (n : Int) := by omega
      obtain ⟨y, g, off, hy, rfl, d0, d1, d2⟩ := dot_at (HL.out.below hb) k hlt
      have hd := base_stepL hy
      rw [hs.out] at hd
      have HU := fun v h => refUpC (some ⟨g, off, none⟩) n c L y.dev y.inc v h (by omega)
      have HG := fun v h => refSetVC q m' c' R ⟨y.dev, y.inc, (upS L y.dev y.inc : Int)⟩ v h (by omega)
      unfold GivesZ at HG
      unfold baseStep at hd
      have hul := up_le L y.dev y.inc
      rw [Hn.out] at hul
      have hsl := set_len R ⟨y.dev, y.inc, (upS L y.dev y.inc : Int)⟩
      rw [hO.leq] at hsl
      generalize upS L y.dev y.inc = U at *
      have HD := Lib.hid hd
      clear hd hy hs
      by_cases hp : 0 < U
      · have e := Lib.hid (HD.out.trans (if_pos hp))
        have hp' : (0 : Int) < (U : Int) := by omega
        clear HD
        generalize setV R ⟨y.dev, y.inc, (U : Int)⟩ = R2 at *
        obtain ⟨N2, hN2⟩ : ∃ N, R2.length = N := ⟨_, rfl⟩
        rw [hN2] at HG hsl
        clear hN2
        go_wp2_with (first
          | (go_at_call 36; (with_reducible refine (HU _ (HL.out.below hb)).mono ?_); rintro e w3 ⟨rfl, hx⟩; have hO := hO.below hx; have hs3 := hx.size; have d0 := (hx.cell (cell_lt d0)).trans d0; have d1 := (hx.cell (cell_lt d1)).trans d1; have hb := hb.trans (hx.mono hb.size); clear hx)
          | (go_at_call 49; (with_reducible refine (HG _ hO).mono ?_); rintro e w4 ⟨a4, c4, rfl, hz4, hx⟩; have hO4 := hz4.row encD_len; have hA4 := hz4.at'; have hs4 := hb.size; have hb := hb.trans (hx.mono hb.size); clear hx hz4))
        go_roundw
        case rel => exact ⟨k + 1, N2, c4, a4, R2, by omega, by omega, by go_num, rfl, e, hO4, fun j h => ⟨by have := (hA4 j h).1; omega, (hA4 j h).2⟩, hb⟩
        case measure => simp [intOf]; omega
      · have e := Lib.hid (HD.out.trans (if_neg hp))
        obtain rfl : U = 0 := by omega
        clear HD HG hsl
        go_wp2_with (first
          | (go_at_call 36; (with_reducible refine (HU _ (HL.out.below hb)).mono ?_); rintro e w3 ⟨rfl, hx⟩; have hO := hO.below hx; have hs3 := hx.size; have hb := hb.trans (hx.mono hb.size); clear hx))
        go_roundw
        case rel => exact ⟨k + 1, m', c', q, R, by omega, by omega, by go_num, rfl, e, hO, fun j h => ⟨(hA j h).1, Nat.lt_of_lt_of_le (hA j h).2 hs3⟩, hb⟩
        case measure => simp [intOf]; omega
    · obtain rfl : k = n := by omega
      have e0 : L.take k = L := List.take_of_length_le (by rw [Hn.out]; exact Nat.le_refl _)
      rw [e0] at hs
      have E := Lib.hid (show baseS L = R from hs.out)
      clear hs e0
      go_wp2
      go_ret
      exact ⟨q, m', c', rfl, by rw [E.out]; exact hO, hA, hb⟩

set_option maxHeartbeats 1000000 in
set_option maxRecDepth 100000 in
theorem refBeyondC (a : Option Addr) (n c : Nat) (L : List DotN) (w : World) (hL : RowOf encD 3 w a n c L) (h9 : n ≤ 100000) :
    Calls Try.prog 32 #[.slice a n c] w (GivesR (beyondS L) w) := by
  have hcm := hL.capm
  have hcl := hL.cle
  have hleq := hL.leq
  unfold maxLen at hcm
  obtain ⟨i0, hi, hz0, hz1, hz2⟩ := info_parts infoDot
  have HL := Lib.hid hL
  have Hn := Lib.hid hleq
  have hO0 := OwnZ.lit encD 3 26 w
  have hb0 := below_alloc w (.cells #[] 26)
  unfold GivesR
  clear hL hleq
  go_enter Try.func32, Try.ntmps32
  go_wp2
  go_loopw [3, 4] (fun l i wr => ∃ (k m' c' : Nat) (q : Option Addr) (R : List DotN), k ≤ n ∧ m' ≤ k ∧ i = .int .i64 (k : Int) ∧ l = .slice q m' c' ∧ Hid ((L.take k).filter (fun x => decide ((upS L x.dev x.inc : Int) < x.seq)) = R) ∧ OwnZ encD 3 w.heap.size 26 q m' c' R wr ∧ Below w.heap.size w wr) (fun _ i _ => n - (intOf i).toNat)
  case atStart => exact ⟨0, 0, _, _, [], Nat.zero_le _, Nat.le_refl _, rfl, rfl, rfl, hO0, hb0⟩
  case round =>
    clear hb0 hO0
    obtain ⟨k, m', c', q, R, hk, hmk, rfl, rfl, hs, hO, hb⟩ := hrel
    have hRl : R.length = m' := hO.2.1
    by_cases hlt : k < n
    · have hlt' : (k : Int) < (n : Int) := by omega
      have g1' : decide ((k : Int) < (n : Int)) = true := decide_eq_true hlt'
      have i1 : (0 : Int) ≤ (k : Int) := by omega
      obtain ⟨y, g, off, hy, rfl, d0, d1, d2⟩ := dot_at (HL.out.below hb) k hlt
      have hd := beyond_stepL (M := L) hy
      rw [hs.out] at hd
      have HG := fun v h => refUpC (some ⟨g, off, none⟩) n c L y.dev y.inc v h (by omega)
      have hS0 : ∀ w', Below wr.heap.size wr w' → w'.cell? ⟨g, off + k * 3, none⟩ = some (.int .i64 y.dev) ∧ w'.cell? ⟨g, off + k * 3 + 1, none⟩ = some (.int .i64 y.inc) ∧ w'.cell? ⟨g, off + k * 3 + 2, none⟩ = some (.int .i64 y.seq) := fun w' h => by
        obtain ⟨y', g', off', e1, e2, e3⟩ := dot_at (HL.out.below (hb.trans (h.mono hb.size))) k hlt
        rw [hy] at e1
        cases e1
        cases e2
        exact e3
      have hB1 : Below wr.heap.size wr wr.drew := (Below.refl _ wr).drew
      generalize upS L y.dev y.inc = U at *
      have HD := Lib.hid hd
      clear hd hy hs
      by_cases hp : (U : Int) < y.seq
      · have e := Lib.hid (HD.out.trans (by rw [if_pos hp]))
        clear HD
        go_wp2_with fail
        go_region_held3 (fun w' => w'.cell? ⟨g, off + k * 3, none⟩ = some (.int .i64 y.dev) ∧ w'.cell? ⟨g, off + k * 3 + 1, none⟩ = some (.int .i64 y.inc) ∧ w'.cell? ⟨g, off + k * 3 + 2, none⟩ = some (.int .i64 y.seq))
          (first | exact hS0 _ hB1)
          (first
            | (go_at_call 36; (with_reducible refine (HG _ (HL.out.below (hb.trans (hB1.mono hb.size)))).mono ?_); rintro e w3 ⟨rfl, hx⟩; have hB1 := hB1.trans (hx.mono hB1.size); clear hx))
        all_goals (
          obtain ⟨f0, f1, f2⟩ := hS0 _ hB1
          have hO3 := hO.below hB1 (Nat.le_refl _)
          have hb3 := hb.trans (hB1.mono hb.size)
          go_wp2_with (at_builtin; refine wpList_append_row1 encD_len (by decide) encD_one rfl (.tmp 25) (.tmp 30) 22 rfl 26 i0 (.agg #[.int .i64 0, .int .i64 0, .int .i64 0]) 24 Try.underlying22 hi hz0 hz1 hz2 rfl hO3 rfl y rfl rfl (m' + 1) rfl (by unfold maxLen; omega) (by omega) hb3.size ?_; intro q4 c4 w4 hO4 hx4 hg4 hn4)
          go_roundw
          case rel => exact ⟨k + 1, m' + 1, c4, q4, _, by omega, by omega, by go_num, rfl, e, hO4, hb3.trans hx4⟩
          case measure => simp [intOf]; omega)
      · have e := Lib.hid (HD.out.trans (by rw [if_neg hp, List.append_nil]))
        clear HD
        go_wp2_with fail
        go_region_held3 (fun w' => w'.cell? ⟨g, off + k * 3, none⟩ = some (.int .i64 y.dev) ∧ w'.cell? ⟨g, off + k * 3 + 1, none⟩ = some (.int .i64 y.inc) ∧ w'.cell? ⟨g, off + k * 3 + 2, none⟩ = some (.int .i64 y.seq))
          (first | exact hS0 _ hB1)
          (first
            | (go_at_call 36; (with_reducible refine (HG _ (HL.out.below (hb.trans (hB1.mono hb.size)))).mono ?_); rintro e w3 ⟨rfl, hx⟩; have hB1 := hB1.trans (hx.mono hB1.size); clear hx))
        all_goals (
          have hO3 := hO.below hB1 (Nat.le_refl _)
          have hb3 := hb.trans (hB1.mono hb.size)
          go_wp2_with fail
          go_roundw
          case rel => exact ⟨k + 1, m', c', q, R, by omega, by omega, by go_num, rfl, e, hO3, hb3⟩
          case measure => simp [intOf]; omega)
    · obtain rfl : k = n := by omega
      have e0 : L.take k = L := List.take_of_length_le (by rw [Hn.out]; exact Nat.le_refl _)
      rw [e0] at hs
      have E := Lib.hid (show beyondS L = R from hs.out)
      have HR := Lib.hid (hO.row encD_len)
      have hA := hO.at'
      clear hs e0 hRl
      go_wp2
      go_ret
      exact ⟨q, m', c', rfl, by rw [E.out]; exact HR.out, hA, hb⟩
end Go.Proofs.Ytlggjijgilcloaa

/- Contracts of the reference of layer 18: a dot more. -/
namespace Go.Proofs.Ytlggjijgilcloaa
open Go.RowKit
set_option linter.unusedVariables false

set_option maxHeartbeats 2000000 in
set_option maxRecDepth 100000 in
theorem refAddSC (a : Option Addr) (n c : Nat) (L : List DotN) (x : DotN) (w : World) (hL : RowOf encD 3 w a n c L) (h9 : n ≤ 90000) :
    Calls Try.prog 9 #[.slice a n c, .agg #[.int .i64 x.dev, .int .i64 x.inc, .int .i64 x.seq]] w (GivesV1 a (addS L x) (n + 1) w) := by
  have HR := fun v => refDRightC x v
  have o1 := ObjAt.new w #[.int .i64 x.dev, .int .i64 x.inc, .int .i64 x.seq] 26
  have b1 := below_alloc w (.cells #[.int .i64 x.dev, .int .i64 x.inc, .int .i64 x.seq] 26)
  have hL1 := hL.below b1
  have hcl := hL.cle
  have hcm := hL.capm
  unfold maxLen at hcm
  have hn := hL.leq
  unfold GivesV1 addS
  cases hr : rightD x with
  | false =>
    rw [hr] at HR
    rw [if_neg (by decide)]
    have v0 := o1.cell 0 rfl; have v1 := o1.cell 1 rfl; have v2 := o1.cell 2 rfl
    clear hL hn
    generalize hw1 : w.alloc (.cells #[.int .i64 x.dev, .int .i64 x.inc, .int .i64 x.seq] 26) = w1 at *
    go_enter Try.func9, Try.ntmps9
    go_wp2_with (go_at_call 26; (with_reducible refine (HR _).mono ?_); rintro e w2 ⟨rfl, hx⟩)
    go_ret
    exact ⟨a, n, c, rfl, hL1.below hx, by omega, fun k h => .inl h, b1.trans (hx.mono b1.size)⟩
  | true =>
    rw [hr] at HR
    rw [if_pos rfl]
    obtain ⟨i0, hi, hz0, hz1, hz2⟩ := info_parts infoDot
    have HSo := fun b m C v h => refSortDC b m C (L ++ [x]) v h
    unfold GivesZ at HSo
    have hSl := sortD_len (L ++ [x])
    rw [List.length_append, List.length_singleton, hn] at hSl
    have v0 := o1.cell 0 rfl; have v1 := o1.cell 1 rfl; have v2 := o1.cell 2 rfl
    generalize hw1 : w.alloc (.cells #[.int .i64 x.dev, .int .i64 x.inc, .int .i64 x.seq] 26) = w1 at *
    have HL1 := Lib.hid hL1
    clear hL hL1
    generalize sortD (L ++ [x]) = S at *
    obtain ⟨NS, hNS⟩ : ∃ N, S.length = N := ⟨_, rfl⟩
    rw [hNS] at HSo hSl
    go_enter Try.func9, Try.ntmps9
    go_wp2_with (go_at_call 26; (with_reducible refine (HR _).mono ?_); rintro e w2 ⟨rfl, hx2⟩)
    have hbd := b1.trans (hx2.mono b1.size)
    have o2 := o1.below hx2 o1.lt
    have hLd := Lib.hid (HL1.out.below hx2)
    have e0 := o2.cell 0 rfl; have e1 := o2.cell 1 rfl; have e2 := o2.cell 2 rfl
    clear v0 v1 v2 hx2 b1 o1
    rename World => wd
    have hd : Below wd.heap.size wd wd.drew := (Below.refl _ wd).drew
    have hW1 : Below wd.heap.size wd (wd.alloc (.cells #[] 26)).drew := (below_alloc wd _).drew
    have hW2 : Below wd.heap.size wd ((wd.alloc (.cells #[] 26)).alloc (.cells #[.int .i64 x.dev, .int .i64 x.inc, .int .i64 x.seq] 26)).drew := ((below_alloc wd _).alloc (by simp) _).drew
    have hW3 : Below wd.heap.size wd ((wd.alloc (.cells #[.int .i64 x.dev, .int .i64 x.inc, .int .i64 x.seq] 26)).alloc (.cells #[] 26)).drew := ((below_alloc wd _).alloc (by simp) _).drew
    have hA1 := (OwnZ.lit encD 3 26 wd).below (Below.refl _ _).drew (Nat.le_refl _)
    have hA2 := ((OwnZ.lit encD 3 26 wd).below (below_alloc _ (.cells #[.int .i64 x.dev, .int .i64 x.inc, .int .i64 x.seq] 26)) (Nat.le_refl _)).below (Below.refl _ _).drew (Nat.le_refl _)
    have s1 : (wd.alloc (.cells #[.int .i64 x.dev, .int .i64 x.inc, .int .i64 x.seq] 26)).heap.size = wd.heap.size + 1 := by simp
    have s2 : (wd.alloc (.cells #[] 26)).heap.size = wd.heap.size + 1 := by simp
    have hA3 := ((OwnZ.lit encD 3 26 (wd.alloc (.cells #[.int .i64 x.dev, .int .i64 x.inc, .int .i64 x.seq] 26))).below (Below.refl _ _).drew (Nat.le_refl _)).base (base' := wd.heap.size) (by rw [s1]; exact Nat.le_succ _)
    have hx2 := (((OwnZ.new encD_len [x] #[.int .i64 x.dev, .int .i64 x.inc, .int .i64 x.seq] rfl 1 rfl (by unfold maxLen; omega) 26 (wd.alloc (.cells #[] 26))).below (Below.refl _ _).drew (Nat.le_refl _)).row encD_len)
    have hx3 := ((((OwnZ.new encD_len [x] #[.int .i64 x.dev, .int .i64 x.inc, .int .i64 x.seq] rfl 1 rfl (by unfold maxLen; omega) 26 wd).below (below_alloc _ (.cells #[] 26)) (Nat.le_refl _)).below (Below.refl _ _).drew (Nat.le_refl _)).row encD_len)
    rw [s1] at hA3
    rw [s2] at hx2
    have F1 := fun W (h : Below wd.heap.size wd W) => hLd.out.below h
    have fc0 := (hd.cell (cell_lt e0)).trans e0; have fc1 := (hd.cell (cell_lt e1)).trans e1; have fc2 := (hd.cell (cell_lt e2)).trans e2
    have gc0 := (hW1.cell (cell_lt e0)).trans e0; have gc1 := (hW1.cell (cell_lt e1)).trans e1; have gc2 := (hW1.cell (cell_lt e2)).trans e2
    clear e0 e1 e2
    go_region_law (first
      | (refine step_append_rows encD_len (by decide) encD_one (by rfl) (.tmp 9) (.tmp 10) 22 (by rfl) 26 i0 (.agg #[.int .i64 0, .int .i64 0, .int .i64 0]) 24 Try.underlying22 hi hz0 hz1 hz2 rfl hA1 rfl (F1 _ hW1) rfl n (by omega) (by unfold maxLen; omega) (by omega) hW1.size ?_; intro a5 q5 w5 hO5 hb5 hg5 ha5; have hB5 := hW1.trans hb5; have o5 := o2.below hB5 o2.lt; have e0 := o5.cell 0 rfl; have e1 := o5.cell 1 rfl; have e2 := o5.cell 2 rfl)
      | (refine step_append_rows encD_len (by decide) encD_one (by rfl) (.tmp 9) (.tmp 10) 22 (by rfl) 26 i0 (.agg #[.int .i64 0, .int .i64 0, .int .i64 0]) 24 Try.underlying22 hi hz0 hz1 hz2 rfl hA2 rfl (F1 _ hW2) rfl n (by omega) (by unfold maxLen; omega) (by omega) hW2.size ?_; intro a5 q5 w5 hO5 hb5 hg5 ha5; have hB5 := hW2.trans hb5; have hx5 := row_grown hx2 hg5 (fun z hz => by cases hz; intro y hy; cases hy; simp))
      | (refine step_append_rows encD_len (by decide) encD_one (by rfl) (.tmp 9) (.tmp 10) 22 (by rfl) 26 i0 (.agg #[.int .i64 0, .int .i64 0, .int .i64 0]) 24 Try.underlying22 hi hz0 hz1 hz2 rfl hA3 rfl (F1 _ hW3) rfl n (by omega) (by unfold maxLen; omega) (by omega) hW3.size ?_; intro a5 q5 w5 hO5 hb5 hg5 ha5; have hB5 := hW3.trans hb5; have hx5 := row_grown hx3 hg5 (fun z hz => by cases hz; intro y hy; cases hy; simp))
      | (refine step_append_row1 encD_len (by decide) encD_one (by rfl) (.tmp 11) (.tmp 13) 22 (by rfl) 26 i0 (.agg #[.int .i64 0, .int .i64 0, .int .i64 0]) 24 Try.underlying22 hi hz0 hz1 hz2 rfl hO5 rfl x rfl rfl (n + 1) rfl (by unfold maxLen; omega) (by omega) hB5.size ?_; intro a7 q7 w7 hO7 hb7 hg7 ha7; have hB7 := hB5.trans hb7)
      | (refine step_append_rows encD_len (by decide) encD_one (by rfl) (.tmp 11) (.tmp 13) 22 (by rfl) 26 i0 (.agg #[.int .i64 0, .int .i64 0, .int .i64 0]) 24 Try.underlying22 hi hz0 hz1 hz2 rfl hO5 rfl hx5 rfl (n + 1) rfl (by unfold maxLen; omega) (by omega) hB5.size ?_; intro a7 q7 w7 hO7 hb7 hg7 ha7; have hB7 := hB5.trans hb7)
      | ((try go_simp); go_at_call 19; (with_reducible refine (HSo _ _ _ _ (hO7.row encD_len) (by omega)).mono ?_); rintro e w8 ⟨a8, c8, rfl, hz8, hx8⟩))
    all_goals
      have hB8 := hB7.trans (hx8.mono hB7.size)
      have hA8 := hz8.at'
      have hs7 := hB7.size
      have hsd := hbd.size
      go_wp2_with fail
      go_ret
      exact ⟨a8, NS, c8, rfl, hz8.row encD_len, hSl, fun k h => .inr ⟨by have := (hA8 k h).1; omega, (hA8 k h).2⟩, hbd.trans (hB8.mono hbd.size)⟩
end Go.Proofs.Ytlggjijgilcloaa

/- Contracts of the reference of layer 18: what one set has not of another one. -/
namespace Go.Proofs.Ytlggjijgilcloaa
open Go.RowKit
set_option linter.unusedVariables false

/-- A row that is being built, beside one that is read. -/
structure StB (w : World) (q : Option Addr) (m c : Nat) (R : List DotN) (qb : Option Addr) (nb cb : Nat) (B : List DotN) (v : World) : Prop where
  out : OwnZ encD 3 w.heap.size 26 q m c R v
  row : RowOf encD 3 v qb nb cb B
  off : Off q qb
  alt : ∀ k, At qb k → k < v.heap.size
  hb : Below w.heap.size w v
theorem StB.below {w v v' : World} {q : Option Addr} {m c : Nat} {R : List DotN} {qb : Option Addr} {nb cb : Nat} {B : List DotN} (h : StB w q m c R qb nb cb B v) (hx : Below v.heap.size v v') : StB w q m c R qb nb cb B v' :=
  ⟨h.out.below hx (Nat.le_refl _), h.row.below hx, h.off, fun k hk => Nat.lt_of_lt_of_le (h.alt k hk) hx.size, h.hb.trans (hx.mono h.hb.size)⟩
theorem StB.grown {w v v' : World} {q q' : Option Addr} {m c m' c' : Nat} {R R' : List DotN} {qb : Option Addr} {nb cb : Nat} {B : List DotN} (h : StB w q m c R qb nb cb B v) (hz : OwnZ encD 3 w.heap.size 26 q' m' c' R' v') (hx : Below w.heap.size v v') (hg : GrownBut v v' q) (hn : q' = q ∨ ∃ g, q' = some ⟨g, 0, none⟩ ∧ v.heap.size ≤ g) : StB w q' m' c' R' qb nb cb B v' :=
  ⟨hz, row_grown h.row hg (fun x e => apart_iff.2 fun c => h.off x.block c ⟨x, e, rfl⟩), h.off.moved hn h.alt, fun k hk => Nat.lt_of_lt_of_le (h.alt k hk) hg.1, h.hb.trans hx⟩

theorem lack_snoc {L B : List DotN} {k : Nat} {y : DotN} (h : B[k]? = some y) : (B.take (k + 1)).flatMap (lackS L) = (B.take k).flatMap (lackS L) ++ lackS L y := by
  rw [take_snocI h, List.flatMap_append]
  simp
theorem miss_snoc {L B : List DotN} {k : Nat} {y : DotN} (h : B[k]? = some y) : (B.take (k + 1)).filter (fun x => !hasD L x) = (B.take k).filter (fun x => !hasD L x) ++ if hasD L y = true then [] else [y] := by
  rw [take_snocI h, List.filter_append]
  by_cases c : hasD L y = true
  · rw [if_pos c]; simp [c]
  · rw [if_neg c]; simp [c]

set_option maxHeartbeats 2000000 in
set_option maxRecDepth 100000 in
theorem refMissingC (a b : Option Addr) (n m c1 c2 : Nat) (L M : List DotN) (w : World) (hL : RowOf encD 3 w a n c1 L) (hM : RowOf encD 3 w b m c2 M) (h9 : n ≤ 90000) (h8 : m ≤ 90000) :
    Calls Try.prog 17 #[.slice a n c1, .slice b m c2] w (GivesR (missingS L M) w) := by
  obtain ⟨i0, hi, hz0, hz1, hz2⟩ := info_parts infoDot
  have HL := Lib.hid hL
  have HM := Lib.hid hM
  have hml := hM.leq
  have hBl := base_len M
  have hXl := beyond_len M
  rw [hml] at hBl hXl
  have hO0 := OwnZ.lit encD 3 26 w
  have hb0 := below_alloc w (.cells #[] 26)
  have hs0 : (w.alloc (.cells #[] 26)).heap.size = w.heap.size + 1 := by simp
  have HB := fun v h => refBaseC b m c2 M v h (by omega)
  have HY := fun v h => refBeyondC b m c2 M v h (by omega)
  unfold GivesR at HB HY ⊢
  unfold missingS
  generalize baseS M = B at *
  generalize beyondS M = X at *
  clear hL hM hml
  go_enter Try.func17, Try.ntmps17
  go_wp2_with (go_at_call 31; (with_reducible refine (HB _ (HM.out.below hb0)).mono ?_); rintro e w1 ⟨qb, nb, cb, rfl, hrB, hAB, hx⟩; have hS1 : StB w (some ⟨w.heap.size, 0, none⟩) 0 0 [] qb nb cb B w1 := ⟨hO0.below hx (Nat.le_refl _), hrB, fun k h1 h2 => by have e : w.heap.size = k := at_some.1 h1; have := (hAB k h2).1; omega, fun k h => (hAB k h).2, hb0.trans (hx.mono hb0.size)⟩)
  have hnB := hrB.leq
  have hcB := hrB.capm
  have hclB := hrB.cle
  unfold maxLen at hcB
  have HnB := Lib.hid hnB
  rw [hnB] at hBl
  clear hnB hrB hAB hx hb0 hO0
  go_loopw [5, 7] (fun o i wr => ∃ (k m' c' : Nat) (q : Option Addr) (R : List DotN), k ≤ nb ∧ m' ≤ k ∧ i = .int .i64 (k : Int) ∧ o = .slice q m' c' ∧ Hid ((B.take k).flatMap (lackS L) = R) ∧ StB w q m' c' R qb nb cb B wr) (fun _ i _ => nb - (intOf i).toNat)
  case atStart => exact ⟨0, 0, 0, _, [], Nat.zero_le _, Nat.le_refl _, rfl, rfl, rfl, hS1⟩
  case round =>
    clear hS1
    obtain ⟨k, m', c', q, R, hk, hmk, rfl, rfl, hs, hS⟩ := hrel
    by_cases hlt : k < nb
    · have hlt' : (k : Int) < (nb : Int) := by omega
      obtain ⟨y, g, off, hy, rfl, d0, d1, d2⟩ := dot_at hS.row k hlt
      have hd := lack_snoc (L := L) hy
      rw [hs.out] at hd
      have HU := fun v h => refUpC a n c1 L y.dev y.inc v h (by omega)
      have hul := up_le L y.dev y.inc
      have hLl := HL.out.leq
      rw [hLl] at hul
      unfold lackS at hd
      generalize upS L y.dev y.inc = U at *
      have HD := Lib.hid hd
      clear hd hy hs hLl
      by_cases hp : (U : Int) < y.seq
      · have e := Lib.hid (HD.out.trans (by rw [if_pos hp]))
        clear HD
        go_wp2_with (first
          | (go_at_call 36; (with_reducible refine (HU _ (HL.out.below hS.hb)).mono ?_); rintro e w3 ⟨rfl, hx⟩; have hS := hS.below hx; have d0 := (hx.cell (cell_lt d0)).trans d0; have d1 := (hx.cell (cell_lt d1)).trans d1; have d2 := (hx.cell (cell_lt d2)).trans d2; clear hx)
          | (at_builtin; refine wpList_append_row1 encD_len (by decide) encD_one rfl (.tmp 34) (.tmp 43) 22 rfl 26 i0 (.agg #[.int .i64 0, .int .i64 0, .int .i64 0]) 24 Try.underlying22 hi hz0 hz1 hz2 rfl hS.out rfl ⟨y.dev, y.inc, (U : Int) + 1⟩ rfl rfl (m' + 1) rfl (by unfold maxLen; omega) (by omega) hS.hb.size ?_; intro q4 c4 w4 hO4 hx4 hg4 hn4; have hS4 := hS.grown hO4 hx4 hg4 hn4))
        go_roundw
        case rel => exact ⟨k + 1, m' + 1, c4, q4, _, by omega, by omega, by go_num, rfl, e, hS4⟩
        case measure => simp [intOf]; omega
      · have e := Lib.hid (HD.out.trans (by rw [if_neg hp, List.append_nil]))
        clear HD
        go_wp2_with (first
          | (go_at_call 36; (with_reducible refine (HU _ (HL.out.below hS.hb)).mono ?_); rintro e w3 ⟨rfl, hx⟩; have hS := hS.below hx; have d0 := (hx.cell (cell_lt d0)).trans d0; have d1 := (hx.cell (cell_lt d1)).trans d1; have d2 := (hx.cell (cell_lt d2)).trans d2; clear hx))
        go_roundw
        case rel => exact ⟨k + 1, m', c', q, R, by omega, by omega, by go_num, rfl, e, hS⟩
        case measure => simp [intOf]; omega
    · obtain rfl : k = nb := by omega
      have e0 : B.take k = B := List.take_of_length_le (by rw [HnB.out]; exact Nat.le_refl _)
      rw [e0] at hs
      have hOs := hS.out.at'
      clear e0 HnB
      obtain ⟨w5, hw5⟩ : ∃ w5, w5 = wr := ⟨wr, rfl⟩
      subst hw5
      go_wp2_with (go_at_call 32; (with_reducible refine (HY _ (HM.out.below hS.hb)).mono ?_); rintro e w6 ⟨qx, nx, cx, rfl, hrX, hAX, hx⟩; have hS6 : StB w q m' c' R qx nx cx X w6 := ⟨hS.out.below hx (Nat.le_refl _), hrX, fun k h1 h2 => by have := (hAX k h2).1; have := (hOs k h1).2; omega, fun k h => (hAX k h).2, hS.hb.trans (hx.mono hS.hb.size)⟩)
      have hnX := hrX.leq
      have hcX := hrX.capm
      have hclX := hrX.cle
      unfold maxLen at hcX
      have HnX := Lib.hid hnX
      rw [hnX] at hXl
      clear hnX hrX hAX hx hS hOs
      have hk0 : m' ≤ k := hmk
      have HR := Lib.hid hs
      clear hs
      go_loopw [5, 10] (fun o i wr => ∃ (j m2 c2 : Nat) (q2 : Option Addr) (R2 : List DotN), j ≤ nx ∧ m2 ≤ k + j ∧ i = .int .i64 (j : Int) ∧ o = .slice q2 m2 c2 ∧ Hid (R ++ (X.take j).filter (fun x => !hasD L x) = R2) ∧ StB w q2 m2 c2 R2 qx nx cx X wr) (fun _ i _ => nx - (intOf i).toNat)
      case atStart => exact ⟨0, m', c', q, R, Nat.zero_le _, by omega, rfl, rfl, by unfold Hid; simp, hS6⟩
      case round =>
        clear hS6
        obtain ⟨j, m2, c2', q2, R2, hj, hmj, rfl, rfl, hs, hS⟩ := hrel
        by_cases hlt : j < nx
        · have hlt' : (j : Int) < (nx : Int) := by omega
          obtain ⟨y, g, off, hy, rfl, d0, d1, d2⟩ := dot_at hS.row j hlt
          have hd := miss_snoc (L := L) hy
          have HH := fun v h => refHasDC a n c1 L y v h
          generalize hasD L y = t at *
          have HD := Lib.hid hd
          clear hd hy
          cases t with
          | true =>
            have e : Hid (R ++ (X.take (j + 1)).filter (fun x => !hasD L x) = R2) := by unfold Hid; rw [HD.out, ← hs.out]; simp
            clear HD hs
            go_wp2_with (first
              | (go_at_call 13; (with_reducible refine (HH _ (HL.out.below hS.hb)).mono ?_); rintro e w3 ⟨rfl, hx⟩; have hS := hS.below hx; have d0 := (hx.cell (cell_lt d0)).trans d0; have d1 := (hx.cell (cell_lt d1)).trans d1; have d2 := (hx.cell (cell_lt d2)).trans d2; clear hx))
            go_roundw
            case rel => exact ⟨j + 1, m2, c2', q2, R2, by omega, by omega, by go_num, rfl, e, hS⟩
            case measure => simp [intOf]; omega
          | false =>
            have e : Hid (R ++ (X.take (j + 1)).filter (fun x => !hasD L x) = R2 ++ [y]) := by unfold Hid; rw [HD.out, ← hs.out]; simp
            clear HD hs
            go_wp2_with (first
              | (go_at_call 13; (with_reducible refine (HH _ (HL.out.below hS.hb)).mono ?_); rintro e w3 ⟨rfl, hx⟩; have hS := hS.below hx; have d0 := (hx.cell (cell_lt d0)).trans d0; have d1 := (hx.cell (cell_lt d1)).trans d1; have d2 := (hx.cell (cell_lt d2)).trans d2; clear hx)
              | (at_builtin; refine wpList_append_row1 encD_len (by decide) encD_one rfl (.tmp 60) (.tmp 65) 22 rfl 26 i0 (.agg #[.int .i64 0, .int .i64 0, .int .i64 0]) 24 Try.underlying22 hi hz0 hz1 hz2 rfl hS.out rfl y rfl rfl (m2 + 1) rfl (by unfold maxLen; omega) (by omega) hS.hb.size ?_; intro q4 c4 w4 hO4 hx4 hg4 hn4; have hS4 := hS.grown hO4 hx4 hg4 hn4))
            go_roundw
            case rel => exact ⟨j + 1, m2 + 1, c4, q4, _, by omega, by omega, by go_num, rfl, e, hS4⟩
            case measure => simp [intOf]; omega
        · obtain rfl : j = nx := by omega
          have E : Hid (B.flatMap (lackS L) ++ X.filter (fun x => !hasD L x) = R2) := by
            unfold Hid
            rw [HR.out.out, ← hs.out, List.take_of_length_le (by rw [HnX.out]; exact Nat.le_refl _)]
          clear hs
          go_wp2
          go_ret
          exact ⟨q2, m2, c2', rfl, by rw [E.out]; exact hS.out.row encD_len, hS.out.at', hS.hb⟩
end Go.Proofs.Ytlggjijgilcloaa

/- Contracts of the reference of layer 18: a set, packed. -/
namespace Go.Proofs.Ytlggjijgilcloaa
open Go.RowKit
set_option linter.unusedVariables false

theorem beyond_right {l : List DotN} (h : ∀ x ∈ l, rightD x = true) : ∀ x ∈ beyondS l, rightD x = true := fun x hx => h x (List.mem_filter.1 hx).1

/-- Bytes that are being built, beside a row that is read. -/
structure StY (w : World) (q : Option Addr) (m c : Nat) (R : List Int) (qb : Option Addr) (nb cb : Nat) (B : List DotN) (v : World) : Prop where
  out : OwnZ encB 1 w.heap.size 5 q m c R v
  row : RowOf encD 3 v qb nb cb B
  off : Off q qb
  alt : ∀ k, At qb k → k < v.heap.size
  hb : Below w.heap.size w v
theorem StY.below {w v v' : World} {q : Option Addr} {m c : Nat} {R : List Int} {qb : Option Addr} {nb cb : Nat} {B : List DotN} (h : StY w q m c R qb nb cb B v) (hx : Below v.heap.size v v') : StY w q m c R qb nb cb B v' :=
  ⟨h.out.below hx (Nat.le_refl _), h.row.below hx, h.off, fun k hk => Nat.lt_of_lt_of_le (h.alt k hk) hx.size, h.hb.trans (hx.mono h.hb.size)⟩
theorem StY.grown {w v v' : World} {q q' : Option Addr} {m c m' c' : Nat} {R R' : List Int} {qb : Option Addr} {nb cb : Nat} {B : List DotN} (h : StY w q m c R qb nb cb B v) (hz : OwnZ encB 1 w.heap.size 5 q' m' c' R' v') (hx : Below w.heap.size v v') (hg : GrownBut v v' q) (hn : q' = q ∨ ∃ g, q' = some ⟨g, 0, none⟩ ∧ v.heap.size ≤ g) : StY w q' m' c' R' qb nb cb B v' :=
  ⟨hz, row_grown h.row hg (fun x e => apart_iff.2 fun c => h.off x.block c ⟨x, e, rfl⟩), h.off.moved hn h.alt, fun k hk => Nat.lt_of_lt_of_le (h.alt k hk) hg.1, h.hb.trans hx⟩

set_option maxHeartbeats 2000000 in
set_option maxRecDepth 100000 in
theorem refSPutC (a : Option Addr) (n c : Nat) (L : List DotN) (w : World) (hL : RowOf encD 3 w a n c L) (hR : ∀ x ∈ L, rightD x = true) (h9 : n ≤ 4000) :
    Calls Try.prog 23 #[.slice a n c] w (GivesOwned 5 ((packS L).map (Value.int .u8)) (packS L).length w) := by
  obtain ⟨i0, hi, hz0, hz1, hz2⟩ := info_parts info8
  have HL := Lib.hid hL
  have hleq := hL.leq
  have hBl := base_len L
  have hXl := beyond_len L
  rw [hleq] at hBl hXl
  have hBR := (base_ok hR).right
  have hXR := beyond_right hR
  have HB := fun v h => refBaseC a n c L v h (by omega)
  have HY := fun v h => refBeyondC a n c L v h (by omega)
  have hpl := packs_len hBR
  unfold GivesR at HB HY
  unfold packS
  generalize baseS L = B at *
  generalize beyondS L = X at *
  have HV := fun q nb cb v h => refVPutC q nb cb B v h hBR
  have hVl : (packV B).length ≤ 10 + 30 * B.length := by
    unfold packV
    rw [List.length_append]
    have := short_ten B.length (by omega)
    omega
  unfold GivesOwned at HV ⊢
  generalize packV B = P at *
  obtain ⟨NP, hNP⟩ : ∃ N, P.length = N := ⟨_, rfl⟩
  rw [hNP] at HV hVl
  obtain ⟨NX, hNX⟩ : ∃ N, X.length = N := ⟨_, rfl⟩
  rw [hNX] at hXl
  rw [hNX]
  have HN := fun v => refNumC (short NX) NX (short NX).length v rfl rfl (by omega)
  have hs10 := short_ten NX (by omega)
  obtain ⟨m0, hm0⟩ : ∃ m, (short NX).length = m := ⟨_, rfl⟩
  rw [hm0] at HN hs10
  generalize short NX = N at *
  have HM0 := Lib.hid hm0
  have HNX := Lib.hid hNX
  have HXR := Lib.hid hXR
  have hn64 : (NX : Int) < 18446744073709551616 := by omega
  clear hm0 hNP hNX hXR hBR hleq hL hpl
  go_enter Try.func23, Try.ntmps23
  go_wp2_with (first
    | (go_at_call 31; (with_reducible refine (HB _ HL.out).mono ?_); rintro e w1 ⟨qb, nb, cb, rfl, hrB, hAB, hx1⟩; have hnb := hrB.leq; have hbW := hx1; clear hAB)
    | (go_at_call 41; (with_reducible refine (HV _ _ _ _ hrB (by omega)).mono ?_); rintro e w2 ⟨a2, c2, rfl, ho2, hx2⟩; have hO := own_bytes (ho2.base hx1.size); have hbW := hbW.trans (hx2.mono hbW.size))
    | (go_at_call 32; (with_reducible refine (HY _ (HL.out.below hbW)).mono ?_); rintro e w3 ⟨qx, nx, cx, rfl, hrX, hAX, hx3⟩; obtain rfl : nx = NX := hrX.leq.symm.trans HNX.out; have hS : StY w a2 NP c2 P qx nx cx X w3 := ⟨hO.below hx3 (Nat.le_refl _), hrX, fun k h1 h2 => by have := (hO.at' k h1).2; have := (hAX k h2).1; omega, fun k h => (hAX k h).2, hbW.trans (hx3.mono hbW.size)⟩)
    | (go_at_call 42; (with_reducible refine (HN _).mono ?_); rintro e w4 ⟨a4, c4, rfl, ho4, hx4⟩; have hS := hS.below hx4; have hr4 := (own_bytes ho4).row encB_len)
    | (at_builtin; refine wpList_append_rows encB_len (by decide) encB_one rfl (.tmp 11) (.tmp 15) 42 rfl 5 i0 (.int .u8 0) 1 Try.underlying42 hi hz0 hz1 hz2 rfl hS.out rfl hr4 rfl (NP + m0) rfl (by unfold maxLen; omega) (by omega) hS.hb.size ?_; intro a5 c5 w5 hO5 hx5 hg5 hn5; have hS5 := hS.grown hO5 hx5 hg5 hn5))
  have hcX := hrX.capm
  have hclX := hrX.cle
  unfold maxLen at hcX
  clear hS hr4 hO5 hx5 hg5 hn5 hrX hAX hx3 hO ho2 hx2 hrB hx1 ho4 hx4 hbW HB HV HY HN
  go_loopw [3, 5] (fun l i wr => ∃ (k m c' : Nat) (q : Option Addr), k ≤ nx ∧ m ≤ NP + m0 + 30 * k ∧ i = .int .i64 (k : Int) ∧ l = .slice q m c' ∧ StY w q m c' ((P ++ N) ++ (X.take k).flatMap bytesD) qx nx cx X wr) (fun _ i _ => nx - (intOf i).toNat)
  case atStart => exact ⟨0, NP + m0, c5, a5, Nat.zero_le _, by omega, rfl, rfl, by simpa using hS5⟩
  case round =>
    clear hS5
    obtain ⟨k, m, c', q, hk, hm, rfl, rfl, hS⟩ := hrel
    by_cases hlt : k < nx
    · have hlt' : (k : Int) < (nx : Int) := by omega
      obtain ⟨y, g, off, hy, rfl, d0, d1, d2⟩ := dot_at hS.row k hlt
      have hry := HXR.out y (List.mem_of_getElem? hy)
      have hyl := bytesD_len hry
      have HSN := Lib.hid (packs_snoc hy)
      obtain ⟨d, hd⟩ : ∃ d, (bytesD y).length = d := ⟨_, rfl⟩
      rw [hd] at hyl
      have HP := fun v => refDPutC y d v hry hd
      generalize bytesD y = D at *
      unfold GivesOwned at HP
      clear hy hd hry
      go_wp2_with (first
        | (go_at_call 43; (with_reducible refine (HP _).mono ?_); rintro e w4 ⟨a4, c4, rfl, ho4, hx4⟩; have hS := hS.below hx4; have hr4 := (own_bytes ho4).row encB_len)
        | (at_builtin; refine wpList_append_rows encB_len (by decide) encB_one rfl (.tmp 23) (.tmp 28) 42 rfl 5 i0 (.int .u8 0) 1 Try.underlying42 hi hz0 hz1 hz2 rfl hS.out rfl hr4 rfl (m + d) rfl (by unfold maxLen; omega) (by omega) hS.hb.size ?_; intro a5 c5 w5 hO5 hx5 hg5 hn5; have hS5 := hS.grown hO5 hx5 hg5 hn5))
      go_roundw
      case rel => exact ⟨k + 1, m + d, c5, a5, by omega, by omega, by go_num, rfl, by rw [HSN.out, ← List.append_assoc]; exact hS5⟩
      case measure => simp [intOf]; omega
    · obtain rfl : k = nx := by omega
      have e0 : X.take k = X := List.take_of_length_le (by rw [HNX.out]; exact Nat.le_refl _)
      have hO := hS.out
      rw [e0, List.append_assoc] at hO
      have hlen := hO.2.1
      have HLE := Lib.hid hlen
      have hOb := Lib.hid (bytes_own hO)
      clear hlen hO e0
      go_wp2
      go_ret
      exact ⟨q, c', by rw [HLE.out]; rfl, by rw [HLE.out]; exact hOb.out, hS.hb⟩
end Go.Proofs.Ytlggjijgilcloaa

/- A set of dots by its base and its exceptions, in plain words: a dot more, what the base takes in, a join. No program in it. -/
namespace Go.Proofs.Ytlggjijgilcloaa
set_option linter.unusedVariables false

theorem SortedD.nodup {l : List DotN} (h : SortedD l) : l.Nodup := List.Pairwise.imp (fun {x y} hxy e => by subst e; rw [lessD_irrefl] at hxy; cases hxy) h

theorem hasV_iff {V : List DotN} {x : DotN} : hasV V x = true ↔ rightD x = true ∧ x.seq ≤ getV V x.dev x.inc := by
  unfold hasV
  rw [Bool.and_eq_true, decide_eq_true_iff]

/-- What a set has whose base are these numbers, and whose exceptions these dots. -/
def InVE (V E : List DotN) (x : DotN) : Prop := hasV V x = true ∨ x ∈ E
structure OkE (V E : List DotN) : Prop where
  okV : OkV V
  nodup : E.Nodup
  right : ∀ x ∈ E, rightD x = true
/-- No exception is of the base. -/
def DisE (V E : List DotN) : Prop := ∀ x ∈ E, getV V x.dev x.inc < x.seq
/-- The base can take in no exception of an actor. -/
def NorE (V E : List DotN) (d i : Int) : Prop := (⟨d, i, getV V d i + 1⟩ : DotN) ∉ E
/-- A base and exceptions that are these dots'. -/
structure RepE (V E : List DotN) (S : DotN → Prop) : Prop where
  ok : OkE V E
  dis : DisE V E
  nor : ∀ d i, NorE V E d i
  mem : ∀ x, S x ↔ InVE V E x
theorem nil_rep : RepE [] [] (fun x => x ∈ ([] : List DotN)) := by
  refine ⟨⟨nil_ok, List.nodup_nil, fun _ h => by cases h⟩, (fun _ h => by cases h), (fun _ _ h => by cases h), fun x => ⟨(fun h => by cases h), ?_⟩⟩
  rintro (h | h)
  · rw [hasV_iff] at h
    have h1 := right_range h.1
    have h2 : x.seq ≤ 0 := h.2
    omega
  · cases h
theorem RepE.congr {V E : List DotN} {S T : DotN → Prop} (h : RepE V E S) (hs : ∀ x, T x ↔ S x) : RepE V E T := ⟨h.ok, h.dis, h.nor, fun x => (hs x).trans (h.mem x)⟩

theorem right_down {d i n k : Int} (h : rightD ⟨d, i, n⟩ = true) (h1 : 1 ≤ k) (h2 : k ≤ n) : rightD ⟨d, i, k⟩ = true := by
  unfold rightD at *
  rw [Bool.and_eq_true] at *
  refine ⟨h.1, ?_⟩
  have := h.2
  rw [Bool.and_eq_true, decide_eq_true_iff, decide_eq_true_iff] at *
  simp only at *
  omega
theorem getV_right {V : List DotN} (h : OkV V) {d i k : Int} (h1 : 1 ≤ k) (h2 : k ≤ getV V d i) : rightD ⟨d, i, k⟩ = true := by
  obtain ⟨x, hx, rfl, rfl, e⟩ := getV_some (l := V) (d := d) (i := i) (by omega)
  have := h.right x hx
  exact right_down (n := x.seq) this h1 (by omega)

/-- The base and the exceptions of a list of dots. -/
theorem RepE.base {V E l : List DotN} (h : RepE V E (fun x => x ∈ l)) (hl : OkS l) : V = baseS l := by
  refine okV_ext h.ok.okV (base_ok hl.right) fun d i => ?_
  rw [base_get hl.right]
  have hr := getV_range h.ok.okV d i
  obtain ⟨n, hn⟩ := Int.eq_ofNat_of_zero_le hr.1
  rw [hn]
  congr 1
  refine (up_is (fun k hk => ?_) ?_).symm
  · rw [h.mem]
    exact .inl (hasV_iff.2 ⟨getV_right h.ok.okV (by omega) (by omega), by show (k : Int) + 1 ≤ getV V d i; omega⟩)
  · rw [h.mem]
    rintro (c | c)
    · have := (hasV_iff.1 c).2
      have e : (n : Int) + 1 ≤ getV V d i := this
      omega
    · have := h.nor d i
      unfold NorE at this
      rw [hn] at this
      exact this c
theorem RepE.beyond_mem {V E l : List DotN} (h : RepE V E (fun x => x ∈ l)) (hl : OkS l) (x : DotN) : x ∈ beyondS l ↔ x ∈ E := by
  have hb := h.base hl
  have hg := base_get hl.right x.dev x.inc
  rw [← hb] at hg
  unfold beyondS
  rw [List.mem_filter, decide_eq_true_iff, ← hg]
  constructor
  · rintro ⟨h1, h2⟩
    rcases (h.mem x).1 h1 with c | c
    · have := (hasV_iff.1 c).2
      omega
    · exact c
  · intro hx
    exact ⟨(h.mem x).2 (.inr hx), h.dis x hx⟩
theorem beyond_sorted {l : List DotN} (hl : OkS l) : SortedD (beyondS l) := List.Pairwise.filter _ hl.sorted
theorem RepE.beyond {V E l R : List DotN} (h : RepE V E (fun x => x ∈ l)) (hl : OkS l) (hR : ∀ x, x ∈ R ↔ x ∈ E) : sortD R = beyondS l :=
  sorted_unique (sortD_sorted R) (beyond_sorted hl) fun x => by rw [sortD_mem, hR, h.beyond_mem hl]
theorem RepE.has {V E l : List DotN} (h : RepE V E (fun x => x ∈ l)) (x : DotN) : hasD l x = (hasD E x || hasV V x) := by
  rw [Bool.eq_iff_iff, Bool.or_eq_true, hasD_iff, hasD_iff, h.mem]
  exact ⟨fun h => h.symm, fun h => h.symm⟩
theorem RepE.len {V E l : List DotN} (h : RepE V E (fun x => x ∈ l)) (hl : OkS l) : E.length ≤ l.length := by
  have h1 : (beyondS l).Perm E := (List.perm_ext_iff_of_nodup (beyond_sorted hl).nodup h.ok.nodup).2 (h.beyond_mem hl)
  rw [← h1.length_eq]
  exact beyond_len l
theorem OkS.parts {l : List DotN} (hl : OkS l) : RepE (baseS l) (beyondS l) (fun x => x ∈ l) := by
  have hg := fun d i => base_get hl.right d i
  refine ⟨⟨base_ok hl.right, (beyond_sorted hl).nodup, fun x hx => hl.right x (List.mem_filter.1 hx).1⟩, fun x hx => ?_, fun d i hx => ?_, fun x => ⟨fun hx => ?_, ?_⟩⟩
  · rw [hg]
    exact of_decide_eq_true (List.mem_filter.1 hx).2
  · rw [hg] at hx
    exact up_stop l d i (List.mem_filter.1 hx).1
  · by_cases c : (upS l x.dev x.inc : Int) < x.seq
    · exact .inr (List.mem_filter.2 ⟨hx, decide_eq_true c⟩)
    · exact .inl (hasV_iff.2 ⟨hl.right x hx, by rw [hg]; omega⟩)
  · rintro (c | c)
    · obtain ⟨h1, h2⟩ := hasV_iff.1 c
      rw [hg] at h2
      have h3 := right_range h1
      obtain ⟨n, hn⟩ := Int.eq_ofNat_of_zero_le (a := x.seq - 1) (by omega)
      have h4 := up_has (l := l) (d := x.dev) (i := x.inc) (k := n) (by omega)
      have e : (⟨x.dev, x.inc, (n : Int) + 1⟩ : DotN) = x := DotN.ext' rfl rfl (by show (n : Int) + 1 = x.seq; omega)
      rw [e] at h4
      exact h4
    · exact (List.mem_filter.1 c).1

/-- What the base took in of an actor. -/
structure TookE (d i : Int) (V E V1 E1 : List DotN) : Prop where
  ok : OkE V1 E1
  dis : DisE V1 E1
  mem : ∀ x, InVE V1 E1 x ↔ InVE V E x
  other : ∀ a b, ¬ (a = d ∧ b = i) → getV V1 a b = getV V a b
  sub : ∀ x ∈ E1, x ∈ E
  len : E1.length ≤ E.length
theorem TookE.refl {d i : Int} {V E : List DotN} (h : OkE V E) (hd : DisE V E) : TookE d i V E V E := ⟨h, hd, fun _ => Iff.rfl, fun _ _ _ => rfl, fun _ h => h, Nat.le_refl _⟩
theorem TookE.nor {d i : Int} {V E V1 E1 : List DotN} (h : TookE d i V E V1 E1) {a b : Int} (hn : NorE V E a b) (hne : ¬ (a = d ∧ b = i)) : NorE V1 E1 a b := by
  unfold NorE at *
  rw [h.other a b hne]
  exact fun c => hn (h.sub _ c)
theorem filter_out {E : List DotN} (hE : E.Nodup) {y : DotN} (hy : y ∈ E) : (E.filter fun z => !sameD z y).length + 1 = E.length := by
  induction E with
  | nil => cases hy
  | cons z t ih =>
    rw [List.nodup_cons] at hE
    by_cases e : z = y
    · subst e
      have h1 : (!sameD z z) = false := by rw [sameD_iff.2 rfl]; rfl
      rw [List.filter_cons_of_neg (p := fun a => !sameD a z) (by rw [h1]; decide), List.length_cons, List.filter_eq_self.2]
      intro a ha
      have : sameD a z = false := Bool.eq_false_iff.2 fun c => hE.1 (sameD_iff.1 c ▸ ha)
      rw [this]
      rfl
    · have h1 : (!sameD z y) = true := by rw [Bool.eq_false_iff.2 fun c => e (sameD_iff.1 c)]; rfl
      rw [List.filter_cons_of_pos (p := fun z => !sameD z y) h1, List.length_cons, List.length_cons, ih hE.2 (by
        rcases List.mem_cons.1 hy with c | c
        · exact absurd c.symm e
        · exact c)]
theorem mem_out {E : List DotN} {x y : DotN} : x ∈ E.filter (fun z => !sameD z y) ↔ x ∈ E ∧ x ≠ y := by
  rw [List.mem_filter]
  constructor
  · rintro ⟨h1, h2⟩
    refine ⟨h1, ?_⟩
    rintro rfl
    rw [sameD_iff.2 rfl] at h2
    cases h2
  · rintro ⟨h1, h2⟩
    refine ⟨h1, ?_⟩
    rw [Bool.eq_false_iff.2 fun c => h2 (sameD_iff.1 c)]
    rfl
theorem TookE.step {d i : Int} {V0 E0 V E : List DotN} (h : TookE d i V0 E0 V E) (hy : (⟨d, i, getV V d i + 1⟩ : DotN) ∈ E) :
    TookE d i V0 E0 (takeV V ⟨d, i, getV V d i + 1⟩).1 (E.filter fun z => !sameD z ⟨d, i, getV V d i + 1⟩) ∧ (E.filter fun z => !sameD z ⟨d, i, getV V d i + 1⟩).length + 1 = E.length := by
  have hr := h.ok.right _ hy
  have e1 : takeV V ⟨d, i, getV V d i + 1⟩ = (setV V ⟨d, i, getV V d i + 1⟩, true) := by
    unfold takeV
    rw [if_pos ⟨hr, rfl⟩]
  rw [e1]
  have hg := fun a b => getV_set h.ok.okV.ord ⟨d, i, getV V d i + 1⟩ a b
  dsimp only at hg
  generalize hn : getV V d i = n at *
  have hf := filter_out h.ok.nodup hy
  refine ⟨⟨⟨set_ok h.ok.okV hr, h.ok.nodup.filter _, fun x hx => h.ok.right x (mem_out.1 hx).1⟩, fun x hx => ?_, fun x => ?_, fun a b hne => ?_, fun x hx => h.sub x (mem_out.1 hx).1, by have := h.len; omega⟩, hf⟩
  · obtain ⟨h1, h2⟩ := mem_out.1 hx
    have h3 := h.dis x h1
    dsimp only
    rw [hg]
    split
    · rename_i c
      obtain ⟨rfl, rfl⟩ := c
      have : x.seq ≠ n + 1 := fun c => h2 (DotN.ext' rfl rfl c)
      omega
    · exact h3
  · rw [← h.mem]
    unfold InVE
    rw [hasV_iff, hasV_iff, mem_out, hg]
    constructor
    · rintro (⟨c1, c2⟩ | c)
      · by_cases q : d = x.dev ∧ i = x.inc
        · rw [if_pos q] at c2
          obtain ⟨rfl, rfl⟩ := q
          by_cases q2 : x.seq = n + 1
          · exact .inr ((DotN.ext' rfl rfl q2 : x = ⟨x.dev, x.inc, n + 1⟩) ▸ hy)
          · exact .inl ⟨c1, by omega⟩
        · rw [if_neg q] at c2
          exact .inl ⟨c1, c2⟩
      · exact .inr c.1
    · rintro (⟨c1, c2⟩ | c)
      · refine .inl ⟨c1, ?_⟩
        split
        · rename_i q
          obtain ⟨rfl, rfl⟩ := q
          omega
        · exact c2
      · by_cases q : x = ⟨d, i, n + 1⟩
        · refine .inl ⟨h.ok.right x c, ?_⟩
          subst q
          rw [if_pos ⟨rfl, rfl⟩]
          exact Int.le_refl _
        · exact .inr ⟨c, q⟩
  · rw [← h.other a b hne, hg, if_neg fun c => hne ⟨c.1.symm, c.2.symm⟩]

/-- A dot more. -/
theorem RepE.except {V E : List DotN} {S : DotN → Prop} (h : RepE V E S) {x : DotN} (hx : rightD x = true) (hn : ¬ InVE V E x) : OkE V (E ++ [x]) ∧ DisE V (E ++ [x]) := by
  unfold InVE at hn
  rw [not_or, hasV_iff, not_and] at hn
  have h1 := hn.1 hx
  refine ⟨⟨h.ok.okV, List.nodup_append.2 ⟨h.ok.nodup, by simp, fun a ha b hb => ?_⟩, fun y hy => ?_⟩, fun y hy => ?_⟩
  · rw [List.mem_singleton] at hb
    subst hb
    rintro rfl
    exact hn.2 ha
  · rcases List.mem_append.1 hy with c | c
    · exact h.ok.right y c
    · rw [List.mem_singleton] at c
      exact c ▸ hx
  · rcases List.mem_append.1 hy with c | c
    · exact h.dis y c
    · rw [List.mem_singleton] at c
      subst c
      omega
theorem RepE.added {V E V1 E1 : List DotN} {S : DotN → Prop} (h : RepE V E S) {x : DotN} (ht : TookE x.dev x.inc V (E ++ [x]) V1 E1) (hn : NorE V1 E1 x.dev x.inc) : RepE V1 E1 (fun y => S y ∨ y = x) := by
  refine ⟨ht.ok, ht.dis, fun a b => ?_, fun y => ?_⟩
  · by_cases q : a = x.dev ∧ b = x.inc
    · obtain ⟨rfl, rfl⟩ := q
      exact hn
    · refine ht.nor ?_ q
      unfold NorE
      rw [List.mem_append, List.mem_singleton]
      rintro (c | c)
      · exact h.nor a b c
      · rw [← c] at q
        exact q ⟨rfl, rfl⟩
  · rw [ht.mem, h.mem]
    unfold InVE
    rw [List.mem_append, List.mem_singleton]
    exact ⟨fun c => c.elim (fun c => c.imp id .inl) (fun c => .inr (.inr c)), fun c => c.elim (fun c => .inl (.inl c)) (fun c => c.elim (fun c => .inl (.inr c)) .inr)⟩
theorem RepE.there {V E : List DotN} {S : DotN → Prop} (h : RepE V E S) {x : DotN} (hx : InVE V E x) : RepE V E (fun y => S y ∨ y = x) :=
  h.congr fun y => ⟨fun c => c.elim id (fun c => by subst c; exact (h.mem _).2 hx), .inl⟩

/-- What is added to a list of dots. -/
theorem add_there {l : List DotN} (hl : OkS l) {x : DotN} (hx : x ∈ l) : addS l x = l :=
  sorted_unique (add_ok hl x).sorted hl.sorted fun y => by
    rw [add_mem]
    exact ⟨fun h => h.elim id (fun h => h.1 ▸ hx), .inl⟩
theorem add_more {l : List DotN} (hl : OkS l) {x : DotN} (hr : rightD x = true) (hx : x ∉ l) : (addS l x).length = l.length + 1 := by
  have h1 : (addS l x).Perm (l ++ [x]) := (List.perm_ext_iff_of_nodup (add_ok hl x).sorted.nodup (List.nodup_append.2 ⟨hl.sorted.nodup, by simp, fun a ha b hb => by
    rw [List.mem_singleton] at hb
    subst hb
    rintro rfl
    exact hx ha⟩)).2 fun y => by
      rw [add_mem, List.mem_append, List.mem_singleton]
      exact ⟨fun h => h.imp id fun h => h.1, fun h => h.imp id fun h => ⟨h, hr⟩⟩
  rw [h1.length_eq, List.length_append, List.length_singleton]
theorem add_told {l : List DotN} (hl : OkS l) (x : DotN) : decide (l.length < (addS l x).length) = (rightD x && !hasD l x) := by
  cases hr : rightD x with
  | false =>
    have : addS l x = l := by unfold addS; rw [hr, if_neg Bool.false_ne_true]
    rw [this]
    simp
  | true =>
    cases hh : hasD l x with
    | true =>
      rw [add_there hl (hasD_iff.1 hh)]
      simp
    | false =>
      rw [add_more hl hr (hasD_no.1 hh)]
      simp

/-- All of a vector more: its numbers, raised; what the base has is no exception any more. -/
structure StripE (V1 E E1 : List DotN) : Prop where
  nodup : E1.Nodup
  sub : ∀ x ∈ E1, x ∈ E
  gone : ∀ x ∈ E, x ∉ E1 → hasV V1 x = true
  dis : ∀ x ∈ E1, hasV V1 x = false
/-- In the midst of the actors that the base takes in. -/
structure MidE (V E L : List DotN) (S : DotN → Prop) (V1 E1 : List DotN) (k : Nat) : Prop where
  ok : OkE V1 E1
  dis : DisE V1 E1
  mem : ∀ x, InVE V1 E1 x ↔ S x ∨ hasV L x = true
  nor : ∀ d i, (∀ y ∈ L.drop k, ¬ (y.dev = d ∧ y.inc = i)) → NorE V1 E1 d i
theorem join_get {V L : List DotN} (hV : OkV V) (hL : OkV L) (d i : Int) : getV (joinV V L) d i = max (getV V d i) (getV L d i) := (join_all hV hL).2 d i
theorem RepE.mid {V E L E1 : List DotN} {S : DotN → Prop} (h : RepE V E S) (hL : OkV L) (hs : StripE (joinV V L) E E1) : MidE V E L S (joinV V L) E1 0 := by
  have hg := join_get h.ok.okV hL
  refine ⟨⟨(join_all h.ok.okV hL).1, hs.nodup, fun x hx => h.ok.right x (hs.sub x hx)⟩, fun x hx => ?_, fun x => ?_, fun d i hn => ?_⟩
  · have h1 := hs.dis x hx
    have h2 := h.ok.right x (hs.sub x hx)
    unfold hasV at h1
    rw [h2, Bool.true_and, decide_eq_false_iff_not] at h1
    omega
  · rw [h.mem]
    unfold InVE
    rw [hasV_iff, hasV_iff, hasV_iff, hg]
    constructor
    · rintro (⟨c1, c2⟩ | c)
      · rcases Int.le_total (getV V x.dev x.inc) (getV L x.dev x.inc) with q | q
        · rw [Int.max_eq_right q] at c2
          exact .inr ⟨c1, c2⟩
        · rw [Int.max_eq_left q] at c2
          exact .inl (.inl ⟨c1, c2⟩)
      · exact .inl (.inr (hs.sub x c))
    · rintro ((⟨c1, c2⟩ | c) | ⟨c1, c2⟩)
      · exact .inl ⟨c1, Int.le_trans c2 (Int.le_max_left _ _)⟩
      · by_cases q : x ∈ E1
        · exact .inr q
        · have := hasV_iff.1 (hs.gone x c q)
          rw [hg] at this
          exact .inl this
      · exact .inl ⟨c1, Int.le_trans c2 (Int.le_max_right _ _)⟩
  · have h0 : getV L d i = 0 := getV_none fun y hy => hn y (by rw [List.drop_zero]; exact hy)
    have h1 := (getV_range h.ok.okV d i).1
    unfold NorE
    rw [hg, h0, Int.max_eq_left h1]
    exact fun c => h.nor d i (hs.sub _ c)
theorem MidE.step {V E L V1 E1 V2 E2 : List DotN} {S : DotN → Prop} {k : Nat} {y : DotN} (h : MidE V E L S V1 E1 k) (hy : L[k]? = some y) (ht : TookE y.dev y.inc V1 E1 V2 E2) (hn : NorE V2 E2 y.dev y.inc) : MidE V E L S V2 E2 (k + 1) := by
  obtain ⟨hk, rfl⟩ := List.getElem?_eq_some_iff.1 hy
  refine ⟨ht.ok, ht.dis, fun x => (ht.mem x).trans (h.mem x), fun d i hd => ?_⟩
  by_cases q : d = L[k].dev ∧ i = L[k].inc
  · obtain ⟨rfl, rfl⟩ := q
    exact hn
  · refine ht.nor (h.nor d i fun y hy => ?_) q
    rw [List.drop_eq_getElem_cons hk] at hy
    rcases List.mem_cons.1 hy with rfl | hy
    · exact fun c => q ⟨c.1.symm, c.2.symm⟩
    · exact hd y hy
theorem MidE.rep {V E L V1 E1 : List DotN} {S : DotN → Prop} {k : Nat} (h : MidE V E L S V1 E1 k) (hk : L.length ≤ k) : RepE V1 E1 (fun x => S x ∨ hasV L x = true) :=
  ⟨h.ok, h.dis, fun d i => h.nor d i fun y hy => (by rw [List.drop_eq_nil_of_le hk] at hy; cases hy), fun x => (h.mem x).symm⟩
theorem OkE.len {V E : List DotN} (h : OkE V E) {l : List DotN} (hm : ∀ x ∈ E, x ∈ l) : E.length ≤ l.length := by
  have h1 : ∀ (E l : List DotN), E.Nodup → (∀ x ∈ E, x ∈ l) → E.length ≤ l.length := by
    intro E
    induction E with
    | nil => exact fun _ _ _ => Nat.zero_le _
    | cons y t ih =>
      intro l hn hs
      rw [List.nodup_cons] at hn
      have h2 := ih (l.filter fun z => !sameD z y) hn.2 fun x hx => mem_out.2 ⟨hs x (List.mem_cons_of_mem _ hx), fun e => hn.1 (e ▸ hx)⟩
      have h3 : (l.filter fun z => !sameD z y).length < l.length := by
        rw [List.length_filter_lt_length_iff_exists]
        exact ⟨y, hs y List.mem_cons_self, by rw [sameD_iff.2 rfl]; decide⟩
      rw [List.length_cons]
      omega
  exact h1 E l h.nodup hm
end Go.Proofs.Ytlggjijgilcloaa

/- A set of dots behind a pointer: what lies where; a new one; the next dot; a dot more among the exceptions. -/
namespace Go.Proofs.Ytlggjijgilcloaa
open Go.RowKit
set_option linter.unusedVariables false

/-- The map of a set's exceptions. -/
structure ExcD (D : DataW Unit) (E : List DotN) : Prop where
  size : Go.Maps.size D ≤ E.length
  has : ∀ x, FitD x → Go.Maps.has D (keyD x) = hasD E x
def ExsIs (w : World) (mv : Option Nat) (E : List DotN) : Prop :=
  (mv = none ∧ E = []) ∨ ∃ B n D, mv = some B ∧ w.ownsMap Try.prog 26 unitElem B n D ∧ ExcD D E
theorem ExcD.empty : ExcD (.map []) [] := ⟨Nat.le_refl _, fun _ _ => rfl⟩
theorem hasD_snoc (E : List DotN) (x y : DotN) : hasD (E ++ [x]) y = (hasD E y || sameD x y) := by
  unfold hasD
  rw [List.any_append]
  simp
theorem ExcD.put {D : DataW Unit} {E : List DotN} (h : ExcD D E) (hT : Go.Maps.Tidy D) {x : DotN} (hx : FitD x) : ExcD (D.put (keyD x) (.agg [])) (E ++ [x]) := by
  refine ⟨?_, fun y hy => ?_⟩
  · rw [Go.Maps.size_put hT, List.length_append, List.length_singleton]
    have := h.size
    split <;> omega
  · rw [hasD_snoc, ← h.has y hy]
    by_cases e : y = x
    · subst e
      rw [Go.Maps.has_put_same hT.isMap (keyedDot.key (key_dot hy)), sameD_iff.2 rfl, Bool.or_true]
    · rw [Go.Maps.has_put_other (fun c => e (keyD_inj hy hx c)), Bool.eq_false_iff.2 fun c => e (sameD_iff.1 c).symm, Bool.or_false]
theorem hasD_out (E : List DotN) (x y : DotN) : hasD (E.filter fun z => !sameD z x) y = (hasD E y && !sameD y x) := by
  rw [Bool.eq_iff_iff, hasD_iff, mem_out, Bool.and_eq_true, hasD_iff, Bool.not_eq_true', Bool.eq_false_iff, ne_eq, ne_eq, sameD_iff]
theorem ExcD.del {D : DataW Unit} {E : List DotN} (h : ExcD D E) (hT : Go.Maps.Tidy D) (hE : E.Nodup) {x : DotN} (hx : FitD x) (hm : x ∈ E) : ExcD (D.del (keyD x)) (E.filter fun z => !sameD z x) := by
  refine ⟨?_, fun y hy => ?_⟩
  · have h1 := Go.Maps.size_del (k := keyD x) hT
    have h2 := filter_out hE hm
    rw [h.has x hx, hasD_iff.2 hm, if_pos rfl] at h1
    have := h.size
    omega
  · rw [hasD_out, ← h.has y hy]
    by_cases e : y = x
    · subst e
      rw [Go.Maps.has_del_same, sameD_iff.2 rfl, Bool.not_true, Bool.and_false]
    · rw [Go.Maps.has_del_other (fun c => e (keyD_inj hy hx c)), Bool.eq_false_iff.2 fun c => e (sameD_iff.1 c), Bool.not_false, Bool.and_true]
theorem ExsIs.lt {w : World} {mv : Option Nat} {E : List DotN} (h : ExsIs w mv E) : ∀ b, mv = some b → b < w.heap.size := by
  intro b e
  rcases h with ⟨rfl, _⟩ | ⟨B, n, D, rfl, hm, hD⟩
  · cases e
  · cases e
    exact hm.lt
theorem ExsIs.keeps {G : Nat → Prop} {w w' : World} {mv : Option Nat} {E : List DotN} (h : ExsIs w mv E) (hk : Keeps G w w') (hd : ∀ b, mv = some b → ¬ G b) : ExsIs w' mv E := by
  rcases h with h | ⟨B, n, D, rfl, hm, hD⟩
  · exact .inl h
  · exact .inr ⟨B, n, D, rfl, hk.grownBy (hd B rfl) hm, hD⟩

/-- The blocks that are a set's own. -/
def Own (p : Nat) (m1 m2 : Option Nat) : Nat → Prop := fun b => b = p ∨ m1 = some b ∨ m2 = some b
/-- A set's struct, its numbers, its exceptions. -/
structure SetVE (w : World) (p : Nat) (m1 m2 : Option Nat) (V E : List DotN) : Prop where
  obj : ObjAt w p [.map m1, .map m2]
  nums : NumsIs w m1 (fun b => m1 = some b) V
  exs : ExsIs w m2 E
  okV : OkV V
  apart : ∀ b, m1 = some b → m2 ≠ some b
theorem SetVE.lt {w : World} {p : Nat} {m1 m2 : Option Nat} {V E : List DotN} (h : SetVE w p m1 m2 V E) : ∀ b, Own p m1 m2 b → b < w.heap.size := by
  rintro b (rfl | e | e)
  · exact h.obj.lt
  · exact h.nums.lt b e
  · exact h.exs.lt b e
theorem SetVE.keeps {G : Nat → Prop} {w w' : World} {p : Nat} {m1 m2 : Option Nat} {V E : List DotN} (h : SetVE w p m1 m2 V E) (hk : Keeps G w w') (hd : ∀ b, Own p m1 m2 b → ¬ G b) : SetVE w' p m1 m2 V E :=
  ⟨h.obj.keeps hk (hd p (.inl rfl)), h.nums.keeps hk fun b e => hd b (.inr (.inl e)), h.exs.keeps hk fun b e => hd b (.inr (.inr e)), h.okV, h.apart⟩
theorem SetVE.below {w w' : World} {p : Nat} {m1 m2 : Option Nat} {V E : List DotN} (h : SetVE w p m1 m2 V E) (hb : Below w.heap.size w w') : SetVE w' p m1 m2 V E :=
  h.keeps (Keeps.new (F := fun _ => False) hb) (fun _ _ h => h)
theorem SetVE.vec {w : World} {p : Nat} {m1 m2 : Option Nat} {V E : List DotN} (h : SetVE w p m1 m2 V E) : VecIn w p 0 [.map m1, .map m2] m1 V := ⟨h.obj, rfl, h.nums, h.okV⟩
theorem SetVE.exs_obj {w : World} {p : Nat} {m1 m2 : Option Nat} {V E : List DotN} (h : SetVE w p m1 m2 V E) : m2 ≠ some p := by
  rintro rfl
  rcases h.exs with ⟨c, _⟩ | ⟨B, n, D, e, hm, hD⟩
  · cases c
  · cases e
    exact obj_not_map h.obj hm rfl

theorem SetVE.off {w : World} {p : Nat} {m1 m2 : Option Nat} {V E : List DotN} (h : SetVE w p m1 m2 V E) {q : Nat} {vs : List Value} (ho : ObjAt w q vs) (hq : q ≠ p) : ¬ Own p m1 m2 q := by
  rintro (c | c | c)
  · exact hq c
  · rcases h.nums with ⟨e, _⟩ | ⟨B, n, D, e, hB, hm, hD⟩
    · rw [e] at c
      cases c
    · rw [e] at c
      cases c
      exact obj_not_map ho hm rfl
  · rcases h.exs with ⟨e, _⟩ | ⟨B, n, D, e, hm, hD⟩
    · rw [e] at c
      cases c
    · rw [e] at c
      cases c
      exact obj_not_map ho hm rfl

/-- What a call changes of some blocks, and which it has made its own. -/
structure Chg (F F' : Nat → Prop) (w w' : World) : Prop where
  keeps : Keeps F w w'
  new : ∀ b, F' b → F b ∨ w.heap.size ≤ b
theorem Chg.trans {F F1 F2 : Nat → Prop} {w w1 w2 : World} (h : Chg F F1 w w1) (h1 : Chg F1 F2 w1 w2) : Chg F F2 w w2 :=
  ⟨h.keeps.trans h1.keeps fun b hb hF => (h.new b hF).elim id fun c => absurd c (by omega), fun b hb => (h1.new b hb).elim (h.new b) fun c => .inr (Nat.le_trans h.keeps.size c)⟩
theorem Chg.below {F : Nat → Prop} {w w' : World} (hb : Below w.heap.size w w') : Chg F F w w' := ⟨Keeps.new hb, fun _ h => .inl h⟩
theorem Chg.refl (F : Nat → Prop) (w : World) : Chg F F w w := .below (Below.refl _ _)
/-- A call that changes a set. -/
def SetTo (p : Nat) (m1 m2 : Option Nat) (V' E' : List DotN) (v : Value) (w : World) (e : Ending) (w' : World) : Prop :=
  e = .returned v ∧ ∃ n1 n2, SetVE w' p n1 n2 V' E' ∧ Chg (Own p m1 m2) (Own p n1 n2) w w'
/-- Behind a change of the base. -/
theorem SetVE.based {w w' : World} {p : Nat} {m1 m2 n1 : Option Nat} {V E V' : List DotN} (h : SetVE w p m1 m2 V E) (hv : VecIn w' p 0 ([Value.map m1, .map m2].set 0 (.map n1)) n1 V') (hk : Keeps (fun b => b = p ∨ m1 = some b) w w') (hn : n1 = m1 ∨ ∃ B, n1 = some B ∧ w.heap.size ≤ B) :
    SetVE w' p n1 m2 V' E ∧ Chg (Own p m1 m2) (Own p n1 m2) w w' := by
  have hx := h.exs_obj
  refine ⟨⟨hv.obj, hv.nums, h.exs.keeps hk fun b e => ?_, hv.ok, fun b e1 e2 => ?_⟩, ⟨hk.mono fun b _ hb => ?_, fun b hb => ?_⟩⟩
  · rintro (c | c)
    · subst c
      exact hx e
    · exact h.apart b c e
  · rcases hn with rfl | ⟨B, rfl, hB⟩
    · exact h.apart b e1 e2
    · have e3 := h.exs.lt b e2
      have := Option.some.inj e1
      omega
  · exact hb.elim .inl fun c => .inr (.inl c)
  · rcases hb with c | c | c
    · exact .inl (.inl c)
    · rcases hn with rfl | ⟨B, rfl, hB⟩
      · exact .inl (.inr (.inl c))
      · cases c
        exact .inr hB
    · exact .inl (.inr (.inr c))

/-- A set that is handed in to be read, a nil one too. -/
def ArgS (w : World) (v : Value) (F : Nat → Prop) (V E : List DotN) : Prop :=
  (v = .pointer none ∧ V = [] ∧ E = []) ∨ ∃ p m1 m2, v = .pointer (some ⟨p, 0, none⟩) ∧ SetVE w p m1 m2 V E ∧ ∀ b, Own p m1 m2 b → F b
theorem ArgS.keeps {F G : Nat → Prop} {w w' : World} {v : Value} {V E : List DotN} (h : ArgS w v F V E) (hk : Keeps G w w') (hd : ∀ b, F b → ¬ G b) : ArgS w' v F V E := by
  rcases h with h | ⟨p, m1, m2, rfl, h, hF⟩
  · exact .inl h
  · exact .inr ⟨p, m1, m2, rfl, h.keeps hk fun b hb => hd b (hF b hb), hF⟩
theorem ArgS.below {F : Nat → Prop} {w w' : World} {v : Value} {V E : List DotN} (h : ArgS w v F V E) (hb : Below w.heap.size w w') : ArgS w' v F V E :=
  h.keeps (Keeps.new (F := fun _ => False) hb) (fun _ _ h => h)
theorem SetVE.arg {w : World} {p : Nat} {m1 m2 : Option Nat} {V E : List DotN} (h : SetVE w p m1 m2 V E) : ArgS w (.pointer (some ⟨p, 0, none⟩)) (Own p m1 m2) V E := .inr ⟨p, m1, m2, rfl, h, fun _ h => h⟩
theorem nilSet (w : World) : ArgS w (.pointer none) (fun _ => False) [] [] := .inl ⟨rfl, rfl, rfl⟩

/-- A new set. -/
theorem sNewI (w : World) : Calls Try.prog 8 #[] w fun e w' => ∃ p, e = .returned (.pointer (some ⟨p, 0, none⟩)) ∧ SetVE w' p none none [] [] ∧ Below w.heap.size w w' ∧ w.heap.size ≤ p := by
  have o1 := ObjAt.new w #[.map none, .map none] 59
  have hb := below_alloc w (.cells #[.map none, .map none] 59)
  have hz : ∀ w, (zeroValue 59).run Try.prog w = .ok (.agg #[.map none, .map none]) w := fun w => by kernel_rfl
  go_enter Try.func8, Try.ntmps8
  go_wp2
  go_ret
  exact ⟨w.heap.size, rfl, ⟨o1, .inl ⟨rfl, rfl⟩, .inl ⟨rfl, rfl⟩, nil_ok, fun b e => by cases e⟩, hb, Nat.le_refl _⟩

/-- The set itself; of a nil one a new one. -/
theorem orNewC {w : World} {v : Value} {F : Nat → Prop} {V E : List DotN} (h : ArgS w v F V E) :
    Calls Try.prog 33 #[v] w fun e w' => ∃ p m1 m2, e = .returned (.pointer (some ⟨p, 0, none⟩)) ∧ SetVE w' p m1 m2 V E ∧ Below w.heap.size w w' ∧ ∀ b, Own p m1 m2 b → F b ∨ w.heap.size ≤ b := by
  rcases h with ⟨rfl, rfl, rfl⟩ | ⟨p, m1, m2, rfl, h, hF⟩
  · have HN := sNewI w
    go_enter Try.func33, Try.ntmps33
    go_wp2_with (go_at_call 8; (with_reducible refine HN.mono ?_); rintro e w1 ⟨p, rfl, h1, h2, h3⟩)
    go_ret
    exact ⟨p, none, none, rfl, h1, h2, fun b hb => .inr (hb.elim (fun c => c ▸ h3) fun c => c.elim (fun c => by cases c) (fun c => by cases c))⟩
  · go_enter Try.func33, Try.ntmps33
    go_wp2
    go_ret
    exact ⟨p, m1, m2, rfl, h, Below.refl _ _, fun b hb => .inl (hF b hb)⟩

set_option maxRecDepth 100000 in
/-- A dot more among the exceptions. -/
theorem exceptC (p : Nat) (m1 m2 : Option Nat) (V E : List DotN) (x : DotN) (w : World) (h : SetVE w p m1 m2 V E) (hx : FitD x) (hn : E.length ≤ 100000) :
    Calls Try.prog 28 #[.pointer (some ⟨p, 0, none⟩), .agg #[.int .i64 x.dev, .int .i64 x.inc, .int .i64 x.seq]] w (SetTo p m1 m2 V (E ++ [x]) (.tuple #[]) w) := by
  have hex := h.exs_obj
  have h6 := h.vec.not_obj
  have hlt := h.lt
  obtain ⟨h1, h2, h3, h4, h5⟩ := h
  have hput := fun D (hD : ExcD D E) hT => hD.put hT hx
  have hkey := key_dot hx
  obtain ⟨dev, inc, seq⟩ := x
  dsimp only at *
  have o1 := ObjAt.new w #[.int .i64 dev, .int .i64 inc, .int .i64 seq] 26
  have hb := below_alloc w (.cells #[.int .i64 dev, .int .i64 inc, .int .i64 seq] 26)
  have q1 := h1.below hb h1.lt
  have hpl := h1.lt
  have hmm := @run_makeMap Try.prog
  have kn := fun w r => Go.run_eql_map_nil (P := Try.prog) w 57 26 64 r Try.underlying57
  have k1 : Keeps (fun b => b = p) w (w.alloc (.cells #[.int .i64 dev, .int .i64 inc, .int .i64 seq] 26)) := Keeps.new hb
  generalize hw1 : w.alloc (.cells #[.int .i64 dev, .int .i64 inc, .int .i64 seq] 26) = w1 at *
  have c0 := q1.cell 0 rfl; have c1 := q1.cell 1 rfl
  have v0 := o1.cell 0 rfl; have v1 := o1.cell 1 rfl; have v2 := o1.cell 2 rfl
  rcases h3 with ⟨rfl, rfl⟩ | ⟨B, n, D, rfl, hm, hD⟩
  · have b4 := below_alloc w1 (.map #[] 0)
    have q4 := q1.below b4 q1.lt
    have g4 := q4.free 1
    have y4 := q4.cell 1 rfl
    go_enter Try.func28, Try.ntmps28
    go_wp2
    have q5 := q4.set 1 (.map (some w1.heap.size))
    have o5 := (o1.below b4 o1.lt).other (p := ⟨p, 1, none⟩) (by show p ≠ w.heap.size; omega) (.map (some w1.heap.size))
    have hm5 := (World.ownsMap_made (H := Unit) w1 Try.prog 26 unitElem).setCell (a := ⟨p, 1, none⟩) (fun e => by have := q1.lt; have e2 : w1.heap.size = p := e; omega) (.map (some w1.heap.size))
    have k5 : Keeps (fun b => b = p) w ((w1.alloc (.map #[] 0)).setCell ⟨p, 1, none⟩ (.map (some w1.heap.size))) := (k1.trans (Keeps.new b4) (fun _ _ h => h)).setCell rfl _
    generalize (w1.alloc (.map #[] 0)).setCell ⟨p, 1, none⟩ (.map (some w1.heap.size)) = w5 at *
    have d0 := q5.cell 0 rfl; have d1 := q5.cell 1 rfl
    have z0 := o5.cell 0 rfl; have z1 := o5.cell 1 rfl; have z2 := o5.cell 2 rfl
    obtain ⟨w6, hrun, hm6, hg6⟩ := hm5.drew.update keyedDot Try.underlying57 (by unfold maxLen; omega) hkey unitElem_mk
    go_region
    all_goals (
      go_wp2
      go_end0)
    have kd : Keeps (fun b => b = p) w5 w5.drew := Keeps.new (Below.refl _ _).drew
    have k6 := Keeps.ofGrownBy hg6
    have hs := hb.size
    have k9 : Keeps (fun b => b = p) w w6 := (k5.trans kd (fun _ _ h => h)).trans k6 (fun k hk e => by have := Option.some.inj e; omega)
    refine ⟨rfl, m1, some w1.heap.size, ⟨(q5.drew).keeps k6 (fun e => by have := Option.some.inj e; omega), ?_, .inr ⟨_, _, _, rfl, hm6, hput _ ExcD.empty ⟨[], rfl, List.Pairwise.nil⟩⟩, h4, fun b e1 e2 => ?_⟩, k9.mono (fun _ _ e => .inl e), fun b hb => ?_⟩
    · refine h2.keeps k9 fun b e c => ?_
      rw [c] at e
      exact h6 e
    · have := hlt b (.inr (.inl e1))
      have := Option.some.inj e2
      omega
    · rcases hb with c | c | c
      · exact .inl (.inl c)
      · exact .inl (.inr (.inl c))
      · have := Option.some.inj c
        exact .inr (by omega)
  · have hsz := hD.size
    have hT := hm.tidy keyedDot
    have hm0 := ownsMap_tight hm
    go_enter Try.func28, Try.ntmps28
    go_wp2
    have hm5 := (Keeps.new (F := fun _ => False) hb).grownBy (b := B) (fun h => h) hm0
    obtain ⟨w6, hrun, hm6, hg6⟩ := hm5.drew.update keyedDot Try.underlying57 (by unfold maxLen; omega) hkey unitElem_mk
    go_region
    all_goals (
      go_wp2
      go_end0)
    have kd : Keeps (fun b => b = B) w1 w1.drew := Keeps.new (Below.refl _ _).drew
    have k6 := Keeps.ofGrownBy hg6
    have k1' : Keeps (fun b => b = B) w w1 := Keeps.new hb
    have k9 : Keeps (fun b => b = B) w w6 := (k1'.trans kd (fun _ _ h => h)).trans k6 (fun k hk e => (Option.some.inj e).symm)
    refine ⟨rfl, m1, some B, ⟨h1.keeps k9 (fun e => hex (by rw [e])), h2.keeps k9 (fun b e c => h5 b e (by rw [c])), .inr ⟨_, _, _, rfl, hm6, hput _ hD hT⟩, h4, h5⟩, k9.mono (fun _ _ e => .inr (.inr (by rw [e]))), fun b hb => .inl hb⟩
end Go.Proofs.Ytlggjijgilcloaa

/- A set of dots: the next dot of an actor; has it a dot; what the base takes in. -/
namespace Go.Proofs.Ytlggjijgilcloaa
open Go.RowKit
set_option linter.unusedVariables false

set_option maxRecDepth 100000 in
/-- The next dot of an actor. -/
theorem nextC {w : World} {p : Nat} {m1 m2 : Option Nat} {V E : List DotN} (h : SetVE w p m1 m2 V E) (d i : Int) (hd : is64 d) (hi : is64 i) :
    Calls Try.prog 35 #[.pointer (some ⟨p, 0, none⟩), .agg #[.int .i64 d, .int .i64 i]] w fun e w' => e = .returned (.agg #[.int .i64 d, .int .i64 i, .int .i64 (getV V d i + 1)]) ∧ Below w.heap.size w w' := by
  have ha := h.vec.arg
  have hq := getV_range h.okV d i
  have hw9 : IntKind.i64.wrap (getV V d i + 1) = getV V d i + 1 := by rw [IntKind.wrap_i64]; omega
  obtain ⟨o1, z1, hb⟩ := two_objs w #[.int .i64 d, .int .i64 i] #[.int .i64 0, .int .i64 0, .int .i64 0] 24 26
  have u0 := o1.cell 0 rfl; have u1 := o1.cell 1 rfl
  have HG := fun ww (hv : ArgV ww (.pointer (some ⟨p, 0, none⟩)) m1 (fun b => b = p ∨ m1 = some b) V) => vGetA hv d i hd hi
  generalize getV V d i = G at *
  have hb1 := hb.drew
  have HG1 := HG _ (ha.below hb1)
  clear hq HG ha h
  go_enter Try.func35, Try.ntmps35
  go_wp2_with fail
  go_region_law ((try go_simp); go_at_call 50; (refine HG1.mono ?_); rintro e w2 ⟨rfl, hx⟩; have o2 := o1.drew.below hx o1.drew.lt; have z2 := z1.drew.below hx z1.drew.lt; have v0 := o2.cell 0 rfl; have v1 := o2.cell 1 rfl; have g0 := z2.free 0; have g1 := z2.free 1; have g2 := z2.free 2; have y0 := z2.cell 0 rfl; have y1 := z2.cell 1 rfl; have y2 := z2.cell 2 rfl; have hb2 := hb1.trans (hx.mono hb1.size))
  all_goals (
    go_wp2
    have o9 := ((z2.set 0 (.int .i64 d)).set 1 (.int .i64 i)).set 2 (.int .i64 (G + 1))
    have r0 := o9.cell 0 rfl; have r1 := o9.cell 1 rfl; have r2 := o9.cell 2 rfl
    exact bodyPost_ret (v := .agg #[.int .i64 d, .int .i64 i, .int .i64 (G + 1)]) (by simp [results, Try.results35, go_sem, r0, r1, r2]) rfl ⟨rfl, ((hb2.setCell (p := ⟨w.heap.size + 1, 0, none⟩) (Nat.le_succ _) (.int .i64 d)).setCell (p := ⟨w.heap.size + 1, 1, none⟩) (Nat.le_succ _) (.int .i64 i)).setCell (p := ⟨w.heap.size + 1, 2, none⟩) (Nat.le_succ _) (.int .i64 (G + 1))⟩)

/-- A look-up among the exceptions. -/
theorem ExsIs.look {w : World} {mv : Option Nat} {E : List DotN} (h : ExsIs w mv E) {x : DotN} (hx : FitD x) (ww : World) (he : ww.heap = w.heap) :
    (Instr.lookup 57 (.map mv) (.agg #[.int .i64 x.dev, .int .i64 x.inc, .int .i64 x.seq]) true).run Try.prog ww = .ok (.tuple #[.agg #[], .bool (hasD E x)]) ww := by
  rcases h with ⟨rfl, rfl⟩ | ⟨B, n, D, rfl, hm, hD⟩
  · exact Go.Maps.look_nil true keyedDot Try.underlying57 (zeroUnit _) (key_dot hx)
  · have hm2 : ww.ownsMap Try.prog 26 unitElem B n D := by
      unfold World.ownsMap at hm ⊢
      rw [he]
      exact hm
    obtain ⟨v, ps, hrun, hv⟩ := hm2.look_ok (zd := .agg []) (zp := []) keyedDot Try.underlying57 (zeroUnit _) unitElem_mk (key_dot hx)
    obtain ⟨rfl, _⟩ := unitElem_inv hv
    rw [hD.has x hx] at hrun
    exact hrun

set_option maxRecDepth 100000 in
/-- Has the set a dot? -/
theorem sHasI {w : World} {v : Value} {F : Nat → Prop} {V E : List DotN} (h : ArgS w v F V E) (x : DotN) (hx : FitD x) :
    Calls Try.prog 12 #[v, .agg #[.int .i64 x.dev, .int .i64 x.inc, .int .i64 x.seq]] w fun e w' => e = .returned (.bool (hasD E x || hasV V x)) ∧ Below w.heap.size w w' := by
  have HB := fun ww p m1 m2 (h2 : SetVE ww p m1 m2 V E) => vHasA h2.vec.arg x hx
  have HL := fun ww p m1 m2 (h2 : SetVE ww p m1 m2 V E) vv (e : vv.heap = ww.heap) => h2.exs.look hx vv e
  obtain ⟨dev, inc, seq⟩ := x
  dsimp only at *
  have o1 := ObjAt.new w #[.int .i64 dev, .int .i64 inc, .int .i64 seq] 26
  have b1 := below_alloc w (.cells #[.int .i64 dev, .int .i64 inc, .int .i64 seq] 26)
  have HO := orNewC (h.below b1)
  generalize hw1 : w.alloc (.cells #[.int .i64 dev, .int .i64 inc, .int .i64 seq] 26) = w1 at *
  generalize hasV V ⟨dev, inc, seq⟩ = b at *
  have hb1 := b1
  cases hE : hasD E ⟨dev, inc, seq⟩ with
  | true =>
    rw [hE] at HL
    clear hE h
    go_enter Try.func12, Try.ntmps12
    go_wp2_with (go_at_call 33; (with_reducible refine HO.mono ?_); rintro e w2 ⟨p, m1, m2, rfl, h2, hx2, _⟩; have b3 := below_alloc w2 (.cells #[] 64); have h3 := h2.below b3; have o2 := o1.below hx2 o1.lt; have o3 := o2.below b3 o2.lt; have c0 := h2.obj.cell 0 rfl; have c1 := h2.obj.cell 1 rfl; have d0 := h3.obj.cell 0 rfl; have d1 := h3.obj.cell 1 rfl; have v0 := o2.cell 0 rfl; have v1 := o2.cell 1 rfl; have v2 := o2.cell 2 rfl; have u0 := o3.cell 0 rfl; have u1 := o3.cell 1 rfl; have u2 := o3.cell 2 rfl; have hb2 := hb1.trans (hx2.mono hb1.size); have hb3 := hb2.trans (b3.mono hb2.size); have hl := HL w2 p m1 m2 h2 w2.drew rfl; have hl3 := HL _ p m1 m2 h3 (w2.alloc (.cells #[] 64)).drew rfl)
    go_region
    all_goals (
      go_wp2_with fail
      go_quiet (fail)
      go_wp2
      go_ret
      exact ⟨rfl, below_drawn2 hb3.drew _⟩)
  | false =>
    rw [hE] at HL
    clear hE h
    go_enter Try.func12, Try.ntmps12
    go_wp2_with (go_at_call 33; (with_reducible refine HO.mono ?_); rintro e w2 ⟨p, m1, m2, rfl, h2, hx2, _⟩; have b3 := below_alloc w2 (.cells #[] 64); have h3 := h2.below b3; have o2 := o1.below hx2 o1.lt; have o3 := o2.below b3 o2.lt; have c0 := h2.obj.cell 0 rfl; have c1 := h2.obj.cell 1 rfl; have d0 := h3.obj.cell 0 rfl; have d1 := h3.obj.cell 1 rfl; have v0 := o2.cell 0 rfl; have v1 := o2.cell 1 rfl; have v2 := o2.cell 2 rfl; have u0 := o3.cell 0 rfl; have u1 := o3.cell 1 rfl; have u2 := o3.cell 2 rfl; have hb2 := hb1.trans (hx2.mono hb1.size); have hb3 := hb2.trans (b3.mono hb2.size); have hl := HL w2 p m1 m2 h2 w2.drew rfl; have hl3 := HL _ p m1 m2 h3 (w2.alloc (.cells #[] 64)).drew rfl)
    go_region
    all_goals (
      have H9 := HB _ p m1 m2 (h3.below ((Below.refl _ _).drew.drew))
      go_wp2_with fail
      go_region_law ((try go_simp); go_at_call 34; (refine H9.mono ?_); rintro e w4 ⟨rfl, hx4⟩)
      all_goals (
        go_wp2
        go_ret
        exact ⟨rfl, hb3.drew.drew.trans (hx4.mono hb3.drew.drew.size)⟩))

set_option maxRecDepth 100000 in
set_option maxHeartbeats 2000000 in
/-- What the base takes in of an actor. -/
theorem takeInC (p : Nat) (m1 m2 : Option Nat) (V E : List DotN) (d i : Int) (w : World) (h : SetVE w p m1 m2 V E) (hE : OkE V E) (hD : DisE V E) (hd : is64 d) (hi : is64 i) :
    Calls Try.prog 29 #[.pointer (some ⟨p, 0, none⟩), .agg #[.int .i64 d, .int .i64 i]] w fun e w' => e = .returned (.tuple #[]) ∧ ∃ n1 n2 V1 E1, SetVE w' p n1 n2 V1 E1 ∧ Chg (Own p m1 m2) (Own p n1 n2) w w' ∧ TookE d i V E V1 E1 ∧ NorE V1 E1 d i := by
  have o1 := ObjAt.new w #[.int .i64 d, .int .i64 i] 24
  have b1 := below_alloc w (.cells #[.int .i64 d, .int .i64 i] 24)
  have hlt := h.lt
  have h1 := h.below b1
  have hs1 : w.heap.size < (w.alloc (.cells #[.int .i64 d, .int .i64 i] 24)).heap.size := by simp
  generalize hw1 : w.alloc (.cells #[.int .i64 d, .int .i64 i] 24) = w1 at *
  clear h
  go_enter Try.func29, Try.ntmps29
  go_wp2
  go_loopg [] E.length (fun k wr => ∃ n1 n2 V1 E1, SetVE wr p n1 n2 V1 E1 ∧ Chg (Own p m1 m2) (Own p n1 n2) w1 wr ∧ TookE d i V E V1 E1 ∧ E1.length ≤ k ∧ ObjAt wr w.heap.size [.int .i64 d, .int .i64 i])
  case atStart => exact ⟨m1, m2, V, E, h1, Chg.refl _ _, TookE.refl hE hD, Nat.le_refl _, o1⟩
  case round =>
    obtain ⟨n1, n2, V1, E1, hs, hc, ht, hk, oa⟩ := hrel
    have a0 := oa.cell 0 rfl; have a1 := oa.cell 1 rfl
    have HN := nextC hs d i hd hi
    have hq := getV_range hs.okV d i
    have hg1 : is64 (getV V1 d i + 1) := by unfold is64; omega
    have hf : FitD ⟨d, i, getV V1 d i + 1⟩ := ⟨hd, hi, hg1⟩
    have hkey := key_dot hf
    have HL := fun ww (h2 : SetVE ww p n1 n2 V1 E1) vv (e : vv.heap = ww.heap) => h2.exs.look hf vv e
    have HT := fun ww (h2 : VecIn ww p 0 [.map n1, .map n2] n1 V1) => vTakeI p 0 _ n1 V1 _ ww h2 hf
    have hnor := fun (e : hasD E1 ⟨d, i, getV V1 d i + 1⟩ = false) => (show NorE V1 E1 d i from hasD_no.1 e)
    have hstep := fun (e : hasD E1 ⟨d, i, getV V1 d i + 1⟩ = true) => ht.step (hasD_iff.1 e)
    have hdel := fun D (hD : ExcD D E1) hT (e : hasD E1 ⟨d, i, getV V1 d i + 1⟩ = true) => hD.del hT ht.ok.nodup hf (hasD_iff.1 e)
    clear hq hg1 hf
    generalize getV V1 d i + 1 = G at *
    generalize takeV V1 ⟨d, i, G⟩ = tk at *
    obtain ⟨V2, t2⟩ := tk
    generalize (E1.filter fun z => !sameD z ⟨d, i, G⟩) = E2 at *
    dsimp only at *
    have HX := Lib.hid hstep
    clear hstep
    cases hy : hasD E1 ⟨d, i, G⟩ with
    | false =>
      have hno := hnor hy
      rw [hy] at HL
      clear HT hdel hy hnor
      go_wp2_with (go_at_call 35; (with_reducible refine HN.mono ?_); rintro e w2 ⟨rfl, hx2⟩; have od := ObjAt.new w2 #[.int .i64 d, .int .i64 i, .int .i64 G] 26; have bd := below_alloc w2 (.cells #[.int .i64 d, .int .i64 i, .int .i64 G] 26); have s2 := (hs.below hx2).below bd; have be := below_alloc (w2.alloc (.cells #[.int .i64 d, .int .i64 i, .int .i64 G] 26)) (.cells #[] 64); have oe := od.below be od.lt; have s3 := s2.below be; have c1 := s2.obj.cell 1 rfl; have e1 := s3.obj.cell 1 rfl; have x0 := od.cell 0 rfl; have x1 := od.cell 1 rfl; have x2 := od.cell 2 rfl; have y0 := oe.cell 0 rfl; have y1 := oe.cell 1 rfl; have y2 := oe.cell 2 rfl; have hl2 := HL _ s2 (w2.alloc (.cells #[.int .i64 d, .int .i64 i, .int .i64 G] 26)).drew rfl; have hl3 := HL _ s3 ((w2.alloc (.cells #[.int .i64 d, .int .i64 i, .int .i64 G] 26)).alloc (.cells #[] 64)).drew rfl; have B3 := (hx2.trans (bd.mono hx2.size)).trans (be.mono (Nat.le_trans hx2.size bd.size)))
      go_region
      all_goals (
        go_wp2
        (try simp only [Exit.inBlock, Exit.then])
        refine bodyPost_ret (results_none rfl _ _ _) rfl ?_
        exact ⟨rfl, n1, n2, V1, E1, s3.below (Below.refl _ _).drew, ((Chg.below b1).trans hc).trans (Chg.below B3.drew), ht, hno⟩)
    | true =>
      rw [hy] at HL
      have hdel := fun D hD hT => hdel D hD hT hy
      rcases hs.exs with ⟨rfl, rfl⟩ | ⟨B, n, D, rfl, hm, hD⟩
      · cases hy
      have hT := hm.tidy keyedDot
      have hDel := hdel D hD hT
      have hne : ∀ b, n1 = some b → b ≠ B := fun b e c => hs.apart b e (by rw [c])
      have hnp : B ≠ p := fun c => hs.exs_obj (by rw [c])
      have hoff := hs.off oa (by have := hlt p (.inl rfl); omega)
      clear hnor hdel hD hT
      go_wp2_with (go_at_call 35; (with_reducible refine HN.mono ?_); rintro e w2 ⟨rfl, hx2⟩; have od := ObjAt.new w2 #[.int .i64 d, .int .i64 i, .int .i64 G] 26; have bd := below_alloc w2 (.cells #[.int .i64 d, .int .i64 i, .int .i64 G] 26); have s2 := (hs.below hx2).below bd; have be := below_alloc (w2.alloc (.cells #[.int .i64 d, .int .i64 i, .int .i64 G] 26)) (.cells #[] 64); have oe := od.below be od.lt; have s3 := s2.below be; have c1 := s2.obj.cell 1 rfl; have e1 := s3.obj.cell 1 rfl; have x0 := od.cell 0 rfl; have x1 := od.cell 1 rfl; have x2 := od.cell 2 rfl; have y0 := oe.cell 0 rfl; have y1 := oe.cell 1 rfl; have y2 := oe.cell 2 rfl; have hl2 := HL _ s2 (w2.alloc (.cells #[.int .i64 d, .int .i64 i, .int .i64 G] 26)).drew rfl; have hl3 := HL _ s3 ((w2.alloc (.cells #[.int .i64 d, .int .i64 i, .int .i64 G] 26)).alloc (.cells #[] 64)).drew rfl; have B3 := (hx2.trans (bd.mono hx2.size)).trans (be.mono (Nat.le_trans hx2.size bd.size)))
      go_region
      all_goals (
        go_wp2_with fail
        clear hl2 hl3 HL HN c1 x0 x1 x2 od bd s2 be
        generalize (w2.alloc (.cells #[.int .i64 d, .int .i64 i, .int .i64 G] 26)).alloc (.cells #[] 64) = w3 at *
        have k3 : Keeps (fun k => k = B) wr w3.drew := Keeps.new B3.drew
        have hm3 := ((Keeps.new (F := fun _ => False) B3).grownBy (b := B) (fun h => h) hm).drew
        have s4 := s3.below (Below.refl _ _).drew
        have oa4 := (oa.below B3 oa.lt).drew
        have o4 := oe.drew
        have hw2 : wr.heap.size ≤ w2.heap.size := hx2.size
        have hBl := hm.lt
        clear oe s3 e1 y0 y1 y2 B3 hm hs oa
        generalize w3.drew = w4 at *
        have f0 := s4.obj.cell 0 rfl; have f1 := s4.obj.cell 1 rfl
        have g0 := o4.cell 0 rfl; have g1 := o4.cell 1 rfl; have g2 := o4.cell 2 rfl
        obtain ⟨w5, hrun, hm5, ht5⟩ := hm3.drew.drop keyedDot Try.underlying57 hkey 0
        go_region
        all_goals (
          go_wp2_with fail
          have kd : Keeps (fun k => k = B) w4 w4.drew := Keeps.new (Below.refl _ _).drew
          have k5 := ((k3.trans kd (fun _ _ h => h)).trans (Keeps.ofGrownBy ht5.grown) (fun k _ e => (Option.some.inj e).symm))
          have k45 := kd.trans (Keeps.ofGrownBy ht5.grown) (fun k _ e => (Option.some.inj e).symm)
          have s5 : SetVE w5.drew p n1 (some B) V1 E2 := ⟨(s4.obj.keeps k45 (fun e => hnp e.symm)).drew, (s4.nums.keeps k45 hne).keeps (Keeps.new (F := fun _ => False) (Below.refl _ _).drew) (fun _ _ h => h), .inr ⟨B, n, _, rfl, hm5.drew, hDel⟩, s4.okV, s4.apart⟩
          have oa5 := (oa4.keeps k45 (fun e => hoff (.inr (.inr (by rw [e]))))).drew
          have o5 := o4.keeps k45 (by omega)
          have q0 := o5.cell 0 rfl; have q1 := o5.cell 1 rfl; have q2 := o5.cell 2 rfl
          have HT5 := HT _ s5.vec
          clear HT g0 g1 g2 f0 f1 hrun s4 hm3 oa4 o4
          go_region_law ((try go_simp); go_at_call 48; (refine HT5.mono ?_); rintro e w6 ⟨rfl, n1', hv6, hk6, hn6⟩)
          all_goals (
            go_wp2
            obtain ⟨s6, c6⟩ := s5.based hv6 hk6 hn6
            have oa6 := oa5.keeps hk6 (fun c => hoff (c.elim .inl (fun c => .inr (.inl c))))
            obtain ⟨hT2, hl2⟩ := HX.out hy
            go_roundg (gk - 1)
            case measure => omega
            case rel => exact ⟨n1', some B, V2, E2, s6, (hc.trans ⟨k5.mono (fun b _ e => .inr (.inr (by rw [e]))), fun b hb => .inl hb⟩).trans ((Chg.below (Below.refl _ _).drew).trans c6), hT2, by omega, oa6⟩)))
end Go.Proofs.Ytlggjijgilcloaa

/- A set of dots: its base's marks; its exceptions in order. -/
namespace Go.Proofs.Ytlggjijgilcloaa
open Go.RowKit
set_option linter.unusedVariables false

theorem fit_r {x : DotN} (h : rightD x = true) : FitD x := by
  have := right_range h
  refine ⟨?_, ?_, ?_⟩ <;> (unfold is64; omega)

/-- The base's marks. -/
theorem sBaseI {w : World} {v : Value} {F : Nat → Prop} {V E : List DotN} (h : ArgS w v F V E) :
    Calls Try.prog 24 #[v] w (GivesZ encD 3 53 V V.length w) := by
  have HO := orNewC h
  have HM := fun ww p m1 m2 (h2 : SetVE ww p m1 m2 V E) => vMarksA ww h2.vec.arg
  go_enter Try.func24, Try.ntmps24
  go_wp2_with (first
    | (go_at_call 33; (with_reducible refine HO.mono ?_); rintro e w2 ⟨p, m1, m2, rfl, h2, hx2, _⟩; have c0 := h2.obj.cell 0 rfl; have HM2 := HM _ _ _ _ h2)
    | (go_at_call 44; (with_reducible refine HM2.mono ?_); rintro e w3 ⟨a, c, rfl, hz, hx3⟩))
  go_ret
  exact ⟨a, c, rfl, hz.base hx2.size, hx2.trans (hx3.mono hx2.size)⟩

/-- What a round over the exceptions has met. -/
structure MetE (E : List DotN) (left : Lit → Bool) (R : List DotN) : Prop where
  nodup : R.Nodup
  mem : ∀ x, x ∈ R ↔ x ∈ E ∧ left (keyD x) = false
theorem MetE.start {D : DataW Unit} {E : List DotN} (h : ExcD D E) (hE : ∀ x ∈ E, rightD x = true) : MetE E (Go.Maps.has D) [] := by
  refine ⟨List.nodup_nil, fun x => ⟨fun h => (by cases h), ?_⟩⟩
  rintro ⟨h1, h2⟩
  rw [h.has x (fit_r (hE x h1)), hasD_iff.2 h1] at h2
  cases h2
theorem MetE.none {E : List DotN} {left : Lit → Bool} (h : MetE E left []) {P : DotN → Prop} : ∀ x ∈ E, left (keyD x) = false → P x := fun x h1 h2 => by
  have := (h.mem x).2 ⟨h1, h2⟩
  cases this
theorem ExcD.met {D : DataW Unit} {E : List DotN} (h : ExcD D E) {x : DotN} (hx : FitD x) (hat : ∀ zd, D.atKey (keyD x) zd = .agg []) : x ∈ E := by
  have h1 := Go.Maps.has_true_of_atKey hat
  rw [h.has x hx] at h1
  exact hasD_iff.1 h1
theorem left_other {left : Lit → Bool} {x y : DotN} (hx : FitD x) (hy : FitD y) : (left (keyD y) && !(keyD y).sameKey (keyD x)) = false ↔ left (keyD y) = false ∨ y = x := by
  by_cases e : y = x
  · subst e
    rw [WideAt.sameKey_self (keyedDot.key (key_dot hy))]
    simp
  · rw [Go.Maps.sameKey_ne fun c => e (keyD_inj hy hx c)]
    simp [e]
theorem MetE.step {E R : List DotN} {left : Lit → Bool} (h : MetE E left R) (hE : ∀ x ∈ E, rightD x = true) {x : DotN} (hx : FitD x) (hm : x ∈ E) (hlk : left (keyD x) = true) :
    MetE E (fun z => left z && !z.sameKey (keyD x)) (R ++ [x]) := by
  refine ⟨List.nodup_append.2 ⟨h.nodup, by simp, fun a ha b hb => ?_⟩, fun y => ?_⟩
  · rw [List.mem_singleton] at hb
    subst hb
    rintro rfl
    have := ((h.mem a).1 ha).2
    rw [hlk] at this
    cases this
  · rw [List.mem_append, h.mem, List.mem_singleton]
    constructor
    · rintro (⟨a, b⟩ | rfl)
      · exact ⟨a, (left_other hx (fit_r (hE y a))).2 (.inl b)⟩
      · exact ⟨hm, (left_other hx hx).2 (.inr rfl)⟩
    · rintro ⟨a, b⟩
      exact ((left_other hx (fit_r (hE y a))).1 b).imp (fun c => ⟨a, c⟩) id
theorem MetE.all {E R : List DotN} {left : Lit → Bool} (h : MetE E left R) (h0 : ∀ kl, left kl = false) (x : DotN) : x ∈ R ↔ x ∈ E := by rw [h.mem, h0]; simp
theorem sort_same {A B : List DotN} (h : ∀ x, x ∈ A ↔ x ∈ B) : sortD A = sortD B := sorted_unique (sortD_sorted A) (sortD_sorted B) fun x => by rw [sortD_mem, sortD_mem, h]

set_option maxRecDepth 100000 in
set_option maxHeartbeats 2000000 in
/-- The exceptions, in order. -/
theorem sBeyondI {w : World} {v : Value} {F : Nat → Prop} {V E : List DotN} (h : ArgS w v F V E) (hE : ∀ x ∈ E, rightD x = true) (hN : E.Nodup) (hn : E.length ≤ 10000) :
    Calls Try.prog 25 #[v] w (GivesZ encD 3 26 (sortD E) (sortD E).length w) := by
  have HO := orNewC h
  obtain ⟨i0, hi, hz0, hz1, hz2⟩ := info_parts infoDot
  have HS := fun a n c L ww hL hF hk => dotSortC0 a n c L ww hL hF hk
  clear h
  go_enter Try.func25, Try.ntmps25
  go_wp2_with fail
  go_at_call 33
  refine HO.mono ?_
  rintro e w2 ⟨p, m1, m2, rfl, h2, hx2, _⟩
  have c1 := h2.obj.cell 1 rfl
  rcases h2.exs with ⟨rfl, rfl⟩ | ⟨B, n, D, rfl, hm, hD⟩
  · have hb := below_alloc w2 (.mapIter none 0 #[] 0)
    have hrg := run_range_nilMap (P := Try.prog) w2 57 26 64 Try.underlying57
    have hnx : ∀ ty, (Instr.next (.pointer (some ⟨w2.heap.size, 0, none⟩)) false ty).run Try.prog (w2.alloc (.mapIter none 0 #[] 0)) = _ := fun ty => run_next_nilMap _ ty 0 0 #[]
    have HS0 := HS none 0 0 [] (w2.alloc (.mapIter none 0 #[] 0)) (OwnZ.none encD 3 0 26 _ |>.row encD_len) (fun _ h => by cases h) (by omega)
    go_wp2
    refine wp_loop_rounds 1 ?_
    rw [rounds_succ]
    go_wp2_with (go_at_call 45; (refine HS0.mono ?_); rintro e w3 ⟨a, c, rfl, hz, hx3⟩)
    go_ret
    exact ⟨a, c, rfl, hz.base (Nat.le_trans hx2.size hb.size), hx2.trans ((hb.trans (hx3.mono hb.size)).mono hx2.size)⟩
  · have hBl := hm.lt
    have hszD := hD.size
    go_wp2_with (at_range; refine wpList_range_own _ rfl _ 57 rfl 26 64 keyedDot Try.underlying57 _ B _ _ rfl (ownsMap_tight hm) ?_; intro w0 hrg0 hg0 hs0)
    go_frame
    go_loopw [3] (fun s ww => ∃ (left : Lit → Bool) (cnt : Nat) (R : List DotN) (q : Option Addr) (k c2 : Nat), s = .slice q k c2 ∧ ww.ranges Try.prog 26 unitElem B w2.heap.size (Go.Maps.size D) D left cnt ∧ MetE E left R ∧ OwnZ encD 3 (w2.heap.size + 1) 26 q k c2 R ww ∧ k + cnt ≤ 10000 ∧ Below w2.heap.size w2 ww)
      (fun _ ww => ww.rangeLeft B w2.heap.size)
    case atStart => exact ⟨_, _, [], none, 0, 0, rfl, hrg0, MetE.start hD hE, OwnZ.none _ _ _ _ _, by omega, (Keeps.ofGrownBy hg0).below (Nat.le_refl _) (fun k _ e => by cases e)⟩
    case round =>
      obtain ⟨left, cnt, R, q, k, c2, rfl, hrg, hmet, hz, hcnt, hb⟩ := hrel
      clear hrg0 hg0 hs0 HO hszD
      have hRl : R.length = k := hz.2.1
      have hcm := hz.2.2
      unfold maxLen at hcm
      go_wp2_with (first
        | (at_next; refine wpList_next_dots rfl rfl _ rfl B w2.heap.size _ D _ _ rfl hrg ?_ ?_))
      · intro hc0 hl0
        have hsame : sortD R = sortD E := sort_same (hmet.all hl0)
        have HS1 := HS q k c2 R wr (hz.row encD_len) (fun x hx => fit_r (hE x ((hmet.all hl0 x).1 hx))) (by omega)
        rw [hsame] at HS1
        go_wp2_with (go_at_call 45; (refine HS1.mono ?_); rintro e w3 ⟨a, c, rfl, hz3, hx3⟩)
        go_ret
        exact ⟨a, c, rfl, hz3.base (Nat.le_trans hx2.size hb.size), hx2.trans ((hb.trans (hx3.mono hb.size)).mono hx2.size)⟩
      · intro d i c w1 cnt1 hfd hfi hfc hlk hat hrg1 hlt1 hg1 hs1 hen
        have hfx : FitD ⟨d, i, c⟩ := ⟨hfd, hfi, hfc⟩
        have hmet1 := hmet.step hE hfx (hD.met hfx hat) hlk
        have k1 := Keeps.ofGrownBy hg1
        have hz1' := hz.keeps k1 (fun j hj e => by have := (hz.lt' j hj).1; have := Option.some.inj e; omega)
        have oa := ObjAt.new w1 #[.int .i64 d, .int .i64 i, .int .i64 c] 26
        have ba := below_alloc w1 (.cells #[.int .i64 d, .int .i64 i, .int .i64 c] 26)
        have hrg2 := hrg1.alloc (.cells #[.int .i64 d, .int .i64 i, .int .i64 c] 26)
        have hz2' := hz1'.below ba (Nat.le_refl _)
        have u0 := oa.cell 0 rfl; have u1 := oa.cell 1 rfl; have u2 := oa.cell 2 rfl
        have hb1 := hb.trans (grown_below_at hg1 (Nat.le_refl _) hb.size)
        have hb2 := hb1.trans (ba.mono hb1.size)
        have hrl := hrg1.lt
        have hwl : w2.heap.size + 1 ≤ (w1.alloc (.cells #[.int .i64 d, .int .i64 i, .int .i64 c] 26)).heap.size := Nat.le_trans hrl (Nat.le_of_lt oa.lt)
        generalize hw2 : w1.alloc (.cells #[.int .i64 d, .int .i64 i, .int .i64 c] 26) = w4 at *
        clear hs1 hz hz1' hrg1 hmet hfd hfi hfc hlk hat hb hb1 HS
        go_wp2_with (at_builtin; refine wpList_append_row1 encD_len (by decide) encD_one rfl (.tmp 15) (.tmp 17) 22 rfl 26 i0 (.agg #[.int .i64 0, .int .i64 0, .int .i64 0]) 24 Try.underlying22 hi hz0 hz1 hz2 rfl hz2' rfl ⟨d, i, c⟩ rfl rfl (k + 1) rfl (by unfold maxLen; omega) (by omega) hwl ?_; intro q3 c3 w3 hz3 hx3 hg3 hn3)
        have k3 := Keeps.ofGrown hx3 hg3
        have hrg3 := k3.ranges (b := B) (r := w2.heap.size) (fun h => by have := (hz2'.lt' _ h).1; omega) (fun h => by have := (hz2'.lt' _ h).1; omega) hrg2
        go_roundw
        case rel => exact ⟨_, cnt1, _, q3, k + 1, c3, rfl, hrg3, hmet1, hz3, by omega, hb2.trans (hx3.mono (Nat.le_succ _))⟩
        case measure => rw [hrg3.left_eq, hrg.left_eq]; exact hlt1
end Go.Proofs.Ytlggjijgilcloaa

/- A set of dots: a dot more. -/
namespace Go.Proofs.Ytlggjijgilcloaa
open Go.RowKit
set_option linter.unusedVariables false

set_option maxRecDepth 100000 in
set_option maxHeartbeats 2000000 in
/-- A dot more. -/
theorem sAddI {w : World} {p : Nat} {m1 m2 : Option Nat} {V E : List DotN} {S : DotN → Prop} (h : SetVE w p m1 m2 V E) (hR : RepE V E S) (x : DotN) (hx : FitD x) (hn : E.length ≤ 10000) :
    Calls Try.prog 10 #[.pointer (some ⟨p, 0, none⟩), .agg #[.int .i64 x.dev, .int .i64 x.inc, .int .i64 x.seq]] w fun e w' => e = .returned (.bool (rightD x && !(hasD E x || hasV V x))) ∧
      ∃ n1 n2 V1 E1, SetVE w' p n1 n2 V1 E1 ∧ Chg (Own p m1 m2) (Own p n1 n2) w w' ∧ RepE V1 E1 (fun y => S y ∨ (y = x ∧ rightD x = true)) ∧ E1.length ≤ E.length + 1 := by
  have HR := fun v => dotRightC0 x v
  have HH := fun ww (h2 : SetVE ww p m1 m2 V E) => sHasI h2.arg x hx
  have HE := fun ww (h2 : SetVE ww p m1 m2 V E) => exceptC p m1 m2 V E x ww h2 hx (by omega)
  have HT := fun ww n1 n2 (h2 : SetVE ww p n1 n2 V (E ++ [x])) hE hD => takeInC p n1 n2 V (E ++ [x]) x.dev x.inc ww h2 hE hD hx.dev hx.inc
  have hin : (hasD E x || hasV V x) = true ↔ InVE V E x := by
    unfold InVE
    rw [Bool.or_eq_true, hasD_iff]
    exact Or.comm
  have hyes := fun (c : InVE V E x) => hR.there c
  have hnew := fun (hr : rightD x = true) (c : ¬ InVE V E x) => hR.except hr c
  have hadd := fun V1 E1 (ht : TookE x.dev x.inc V (E ++ [x]) V1 E1) (hno : NorE V1 E1 x.dev x.inc) => hR.added ht hno
  have hlen : (E ++ [x]).length = E.length + 1 := by simp
  unfold SetTo at HE
  have HLEN := Lib.hid hlen
  clear hlen
  obtain ⟨EX, hEX⟩ : ∃ EX, E ++ [x] = EX := ⟨_, rfl⟩
  rw [hEX] at HE HT hnew hadd HLEN
  clear hEX
  obtain ⟨dev, inc, seq⟩ := x
  dsimp only at *
  have o1 := ObjAt.new w #[.int .i64 dev, .int .i64 inc, .int .i64 seq] 26
  have b1 := below_alloc w (.cells #[.int .i64 dev, .int .i64 inc, .int .i64 seq] 26)
  have hlt := h.lt
  have h1 := h.below b1
  generalize hw1 : w.alloc (.cells #[.int .i64 dev, .int .i64 inc, .int .i64 seq] 26) = w1 at *
  have v0 := o1.cell 0 rfl; have v1 := o1.cell 1 rfl; have v2 := o1.cell 2 rfl
  have hb := b1
  clear h
  cases hr : rightD ⟨dev, inc, seq⟩ with
  | false =>
    rw [hr] at HR
    go_enter Try.func10, Try.ntmps10
    go_wp2_with (go_at_call 27; (with_reducible refine (HR _).mono ?_); rintro e w2 ⟨rfl, hx2⟩; have hb := hb.trans (hx2.mono hb.size); have h1 := h1.below hx2)
    go_ret
    exact ⟨rfl, m1, m2, V, E, h1, Chg.below hb, hR.congr fun y => ⟨fun c => c.elim id (fun c => by cases c.2), .inl⟩, by omega⟩
  | true =>
    rw [hr] at HR
    have hnew := hnew hr
    generalize hq : (hasD E ⟨dev, inc, seq⟩ || hasV V ⟨dev, inc, seq⟩) = q at *
    cases q with
    | true =>
      have hyes := hyes (hin.1 rfl)
      clear hq hin hnew hadd HE HT
      go_enter Try.func10, Try.ntmps10
      go_wp2_with (first
        | (go_at_call 27; (with_reducible refine (HR _).mono ?_); rintro e w2 ⟨rfl, hx2⟩; have h2 := h1.below hx2; have o2 := o1.below hx2 o1.lt; have u0 := o2.cell 0 rfl; have u1 := o2.cell 1 rfl; have u2 := o2.cell 2 rfl; have hb := hb.trans (hx2.mono hb.size); have HH2 := HH _ h2)
        | (go_at_call 12; (with_reducible refine HH2.mono ?_); rintro e w3 ⟨rfl, hx3⟩; have h3 := h2.below hx3; have hb := hb.trans (hx3.mono hb.size)))
      go_ret
      exact ⟨rfl, m1, m2, V, E, h3, Chg.below hb, hyes.congr fun y => ⟨fun c => c.imp id And.left, fun c => c.imp id fun c => ⟨c, by first | rfl | trivial⟩⟩, by omega⟩
    | false =>
      obtain ⟨hE1, hD1⟩ := hnew (fun c => by have := hin.2 c; cases this)
      clear hq hin hyes
      go_enter Try.func10, Try.ntmps10
      go_wp2_with (first
        | (go_at_call 27; (with_reducible refine (HR _).mono ?_); rintro e w2 ⟨rfl, hx2⟩; have h2 := h1.below hx2; have o2 := o1.below hx2 o1.lt; have u0 := o2.cell 0 rfl; have u1 := o2.cell 1 rfl; have u2 := o2.cell 2 rfl; have hb := hb.trans (hx2.mono hb.size); have HH2 := HH _ h2)
        | (go_at_call 12; (with_reducible refine HH2.mono ?_); rintro e w3 ⟨rfl, hx3⟩; have h3 := h2.below hx3; have o3 := o2.below hx3 o2.lt; have x0 := o3.cell 0 rfl; have x1 := o3.cell 1 rfl; have x2 := o3.cell 2 rfl; have hb := hb.trans (hx3.mono hb.size); have HE3 := HE _ h3; have hoff := h3.off o3 (by have := hlt p (.inl rfl); omega))
        | (go_at_call 28; (with_reducible refine HE3.mono ?_); rintro e w4 ⟨rfl, n1, n2, h4, c4⟩; have o4 := o3.keeps c4.keeps hoff; have y0 := o4.cell 0 rfl; have y1 := o4.cell 1 rfl; have y2 := o4.cell 2 rfl; have HT4 := HT _ _ _ h4 hE1 hD1)
        | (go_at_call 29; (with_reducible refine HT4.mono ?_); rintro e w5 ⟨rfl, k1, k2, V1, E1, h5, c5, ht, hno⟩))
      go_ret
      have hl := ht.len
      rw [HLEN.out] at hl
      exact ⟨rfl, k1, k2, V1, E1, h5, ((Chg.below hb).trans c4).trans c5, (hadd V1 E1 ht hno).congr fun y => ⟨fun c => c.imp id And.left, fun c => c.imp id fun c => ⟨c, by first | rfl | trivial⟩⟩, hl⟩
end Go.Proofs.Ytlggjijgilcloaa

/- A set of dots: all of a vector more. -/
namespace Go.Proofs.Ytlggjijgilcloaa
open Go.RowKit
set_option linter.unusedVariables false

set_option maxRecDepth 100000 in
set_option maxHeartbeats 4000000 in
/-- All of a vector more, which is told by its marks. -/
theorem raiseI {w : World} {p : Nat} {m1 m2 : Option Nat} {V E : List DotN} {S : DotN → Prop} (h : SetVE w p m1 m2 V E) (hR : RepE V E S) (a : Option Addr) (n c : Nat) (L : List DotN) (hL : RowOf encD 3 w a n c L) (hLk : OkV L) (hoff : ∀ k, At a k → ¬ Own p m1 m2 k) :
    Calls Try.prog 37 #[.pointer (some ⟨p, 0, none⟩), .slice a n c] w fun e w' => e = .returned (.tuple #[]) ∧
      ∃ n1 n2 V1 E1, SetVE w' p n1 n2 V1 E1 ∧ Chg (Own p m1 m2) (Own p n1 n2) w w' ∧ RepE V1 E1 (fun y => S y ∨ hasV L y = true) ∧ E1.length ≤ E.length := by
  have hF : ∀ y ∈ L, FitD y := fun y hy => fit_r (hLk.right y hy)
  have hrow := fun v (hk : Keeps (Own p m1 m2) w v) => hL.keeps hk hoff
  have hleq := hL.leq
  have hcm := hL.capm
  have hcl := hL.cle
  unfold maxLen at hcm
  have hmid := fun E1 (hs : StripE (joinV V L) E E1) => hR.mid hLk hs
  have hVk := hR.ok.okV
  clear hL
  go_enter Try.func37, Try.ntmps37
  go_wp2
  go_loopw [11] (fun i wr => ∃ (k : Nat) (n1 : Option Nat), k ≤ n ∧ i = .int .i64 (k : Int) ∧ SetVE wr p n1 m2 (joinV V (L.take k)) E ∧ Chg (Own p m1 m2) (Own p n1 m2) w wr) (fun i _ => n - (intOf i).toNat)
  case atStart => exact ⟨0, m1, Nat.zero_le _, rfl, h, Chg.refl _ _⟩
  case round =>
    obtain ⟨k, n1, hk, rfl, hs, hc⟩ := hrel
    clear h
    by_cases hlt : k < n
    · have hlt' : (k : Int) < (n : Int) := by omega
      obtain ⟨y, g, off, hy, rfl, d0, d1, d2⟩ := dot_at (hrow wr hc.keeps) k hlt
      have hfy := hF y (List.mem_of_getElem? hy)
      have o1 := ObjAt.new wr #[.int .i64 y.dev, .int .i64 y.inc, .int .i64 y.seq] 53
      have b1 := below_alloc wr (.cells #[.int .i64 y.dev, .int .i64 y.inc, .int .i64 y.seq] 53)
      have u0 := o1.cell 0 rfl; have u1 := o1.cell 1 rfl; have u2 := o1.cell 2 rfl
      have hs1 := hs.below b1.drew
      have HV := vRaiseI p 0 _ n1 _ y _ hs1.vec hfy
      have hj : (raiseV (joinV V (L.take k)) y).1 = joinV V (L.take (k + 1)) := by rw [take_snocI hy, joinV_snoc]
      have HJ := Lib.hid hj
      obtain ⟨rv, hrv⟩ : ∃ rv, raiseV (joinV V (L.take k)) y = rv := ⟨_, rfl⟩
      rw [hrv] at HV HJ
      clear hj hrv hmid hrow
      go_wp2_with fail
      go_region_law ((try go_simp); go_at_call 51; (refine HV.mono ?_); rintro e w5 ⟨rfl, n1', hv5, hk5, hn5⟩)
      all_goals (
        obtain ⟨hs5, hc5⟩ := hs1.based hv5 hk5 hn5
        go_wp2
        go_roundw
        case rel => exact ⟨k + 1, n1', by omega, by go_num, by rw [← HJ.out]; exact hs5, (hc.trans (Chg.below b1.drew)).trans hc5⟩
        case measure => simp [intOf]; omega)
    · obtain rfl : n = k := by omega
      obtain ⟨wo, hwo⟩ : ∃ wo, wo = wr := ⟨wr, rfl⟩
      subst hwo
      have e0 : L.take n = L := List.take_of_length_le (by rw [hleq]; exact Nat.le_refl _)
      rw [e0] at hs
      have hV1 := hs.okV
      have c1 := hs.obj.cell 1 rfl
      clear e0 hlt
      rcases hs.exs with ⟨rfl, rfl⟩ | ⟨B, nB, D, rfl, hm, hD⟩
      · have hM := hmid [] ⟨List.nodup_nil, fun _ h => h, fun x hx => (by cases hx), fun x hx => (by cases hx)⟩
        have hb := below_alloc wo (.mapIter none 0 #[] 0)
        have hrg := run_range_nilMap (P := Try.prog) wo 57 26 64 Try.underlying57
        have hnx : ∀ ty, (Instr.next (.pointer (some ⟨wo.heap.size, 0, none⟩)) false ty).run Try.prog (wo.alloc (.mapIter none 0 #[] 0)) = _ := fun ty => run_next_nilMap _ ty 0 0 #[]
        have hs9 := hs.below hb
        have hc9 := hc.trans (Chg.below hb)
        clear hs hc
        go_wp2
        refine wp_loop_rounds 1 ?_
        rw [rounds_succ]
        go_wp2
        go_loopw [45] (fun i wr => ∃ (k : Nat) (n1 n2 : Option Nat) (V2 E2 : List DotN), k ≤ n ∧ i = .int .i64 (k : Int) ∧ SetVE wr p n1 n2 V2 E2 ∧ Chg (Own p m1 none) (Own p n1 n2) w wr ∧ MidE V ([] : List DotN) L S V2 E2 k ∧ E2.length ≤ ([] : List DotN).length) (fun i _ => n - (intOf i).toNat)
        case atStart => exact ⟨0, _, _, _, _, Nat.zero_le _, rfl, hs9, hc9, hM, Nat.le_refl _⟩
        case round =>
          obtain ⟨k, r1, r2, V2, E2, hk, rfl, hs2, hc2, hmid, hle2⟩ := hrel
          by_cases hlt : k < n
          · have hlt' : (k : Int) < (n : Int) := by omega
            obtain ⟨y, g, off, hy, rfl, d0, d1, d2⟩ := dot_at (hrow wr hc2.keeps) k hlt
            have hfy := hF y (List.mem_of_getElem? hy)
            have o1 := ObjAt.new wr #[.int .i64 y.dev, .int .i64 y.inc, .int .i64 y.seq] 53
            have b1 := below_alloc wr (.cells #[.int .i64 y.dev, .int .i64 y.inc, .int .i64 y.seq] 53)
            have u0 := o1.cell 0 rfl; have u1 := o1.cell 1 rfl; have u2 := o1.cell 2 rfl
            have HT := takeInC p r1 r2 V2 E2 y.dev y.inc _ (hs2.below b1) hmid.ok hmid.dis hfy.dev hfy.inc
            clear hs2
            go_wp2_with (go_at_call 29; (with_reducible refine HT.mono ?_); rintro e w6 ⟨rfl, s1, s2, V3, E3, hs3, hc3, ht3, hno3⟩)
            go_roundw
            case rel => exact ⟨k + 1, s1, s2, V3, E3, by omega, by go_num, hs3, (hc2.trans (Chg.below b1)).trans hc3, hmid.step hy ht3 hno3, Nat.le_trans ht3.len hle2⟩
            case measure => simp [intOf]; omega
          · obtain rfl : k = n := by omega
            go_wp2
            go_end0
            exact ⟨rfl, r1, r2, V2, E2, hs2, hc2, hmid.rep (by omega), hle2⟩
      · have hBl := hm.lt
        have hrE := hR.ok.right
        have hnE := hR.ok.nodup
        have hne : ∀ b, n1 = some b → b ≠ B := fun b e c => hs.apart b e (by rw [c])
        have hnp : B ≠ p := fun c => hs.exs_obj (by rw [c])
        have hap := hs.apart
        go_wp2_with (at_range; refine wpList_range_own _ rfl _ 57 rfl 26 64 keyedDot Try.underlying57 _ B _ _ rfl hm ?_; intro w0 hrg0 hg0 hs0)
        go_frame
        go_loopw [] (fun ww => ∃ (left : Lit → Bool) (cnt : Nat) (Ec : List DotN) (Dc : DataW Unit), ww.ranges Try.prog 26 unitElem B wo.heap.size nB Dc left cnt ∧ ExcD Dc Ec ∧ Ec.Nodup ∧ (∀ x ∈ Ec, x ∈ E) ∧ (∀ x ∈ E, x ∉ Ec → hasV (joinV V L) x = true) ∧ (∀ x ∈ Ec, left (keyD x) = false → hasV (joinV V L) x = false) ∧ Ec.length ≤ E.length ∧ VecIn ww p 0 [.map n1, .map (some B)] n1 (joinV V L) ∧ Keeps (fun k => k = B) wo ww)
          (fun ww => ww.rangeLeft B wo.heap.size)
        case atStart => exact ⟨_, _, E, D, hrg0, hD, hnE, fun _ h => h, fun x h1 h2 => absurd h1 h2, (MetE.start hD hrE).none, Nat.le_refl _, hs.vec.below ((Keeps.ofGrownBy hg0).below (Nat.le_refl _) (fun k _ e => by cases e)), (Keeps.ofGrownBy hg0).mono (fun k _ e => by cases e)⟩
        case round =>
          obtain ⟨left, cnt, Ec, Dc, hrg, hDc, hnd, hsub, hgone, hdis, hlen, hv, hkB⟩ := hrel
          clear hrg0 hg0 hs0
          go_wp2_with (at_next; refine wpList_next_dots rfl rfl _ rfl B wo.heap.size nB Dc _ _ rfl hrg ?_ ?_)
          · intro hc0 hl0
            have hM := hmid Ec ⟨hnd, hsub, hgone, fun x hx => hdis x hx (hl0 _)⟩
            have hs9 : SetVE wr p n1 (some B) (joinV V L) Ec := ⟨hv.obj, hv.nums, .inr ⟨B, nB, Dc, rfl, hrg.owns, hDc⟩, hV1, hap⟩
            have hc9 := hc.trans (⟨hkB.mono (fun b _ e => .inr (.inr (by rw [e]))), fun b hb => .inl hb⟩ : Chg (Own p n1 (some B)) (Own p n1 (some B)) wo wr)
            clear hs hc hv hrg
            go_wp2
            go_loopw [45] (fun i wr => ∃ (k : Nat) (n1 n2 : Option Nat) (V2 E2 : List DotN), k ≤ n ∧ i = .int .i64 (k : Int) ∧ SetVE wr p n1 n2 V2 E2 ∧ Chg (Own p m1 (some B)) (Own p n1 n2) w wr ∧ MidE V E L S V2 E2 k ∧ E2.length ≤ E.length) (fun i _ => n - (intOf i).toNat)
            case atStart => exact ⟨0, _, _, _, _, Nat.zero_le _, rfl, hs9, hc9, hM, hlen⟩
            case round =>
              obtain ⟨k, r1, r2, V2, E2, hk, rfl, hs2, hc2, hmid, hle2⟩ := hrel
              by_cases hlt : k < n
              · have hlt' : (k : Int) < (n : Int) := by omega
                obtain ⟨y, g, off, hy, rfl, d0, d1, d2⟩ := dot_at (hrow wr hc2.keeps) k hlt
                have hfy := hF y (List.mem_of_getElem? hy)
                have o1 := ObjAt.new wr #[.int .i64 y.dev, .int .i64 y.inc, .int .i64 y.seq] 53
                have b1 := below_alloc wr (.cells #[.int .i64 y.dev, .int .i64 y.inc, .int .i64 y.seq] 53)
                have u0 := o1.cell 0 rfl; have u1 := o1.cell 1 rfl; have u2 := o1.cell 2 rfl
                have HT := takeInC p r1 r2 V2 E2 y.dev y.inc _ (hs2.below b1) hmid.ok hmid.dis hfy.dev hfy.inc
                clear hs2
                go_wp2_with (go_at_call 29; (with_reducible refine HT.mono ?_); rintro e w6 ⟨rfl, s1, s2, V3, E3, hs3, hc3, ht3, hno3⟩)
                go_roundw
                case rel => exact ⟨k + 1, s1, s2, V3, E3, by omega, by go_num, hs3, (hc2.trans (Chg.below b1)).trans hc3, hmid.step hy ht3 hno3, Nat.le_trans ht3.len hle2⟩
                case measure => simp [intOf]; omega
              · obtain rfl : k = n := by omega
                go_wp2
                go_end0
                exact ⟨rfl, r1, r2, V2, E2, hs2, hc2, hmid.rep (by omega), hle2⟩
          · intro d i e w1 cnt1 hfd hfi hfe hlk hat hrg1 hlt1 hg1 hs1 hen
            have hx : FitD ⟨d, i, e⟩ := ⟨hfd, hfi, hfe⟩
            have hkey := key_dot hx
            have hmE := hDc.met hx hat
            have hT := hrg.owns.tidy keyedDot
            have hdel := hDc.del hT hnd hx hmE
            have hfil := filter_out hnd hmE
            have k1 := Keeps.ofGrownBy hg1
            have hro : p ≠ wo.heap.size := by have := hs.lt p (.inl rfl); omega
            have hv1 := hv.keeps k1 (fun e => by have := Option.some.inj e; omega) (fun b e c => by have := Option.some.inj c; have := hs.lt b (.inr (.inl e)); omega)
            have hkB1 := hkB.trans k1 (fun k hk e => by have := Option.some.inj e; omega)
            have oa := ObjAt.new w1 #[.int .i64 d, .int .i64 i, .int .i64 e] 26
            have ba := below_alloc w1 (.cells #[.int .i64 d, .int .i64 i, .int .i64 e] 26)
            have hrg2 := hrg1.alloc (.cells #[.int .i64 d, .int .i64 i, .int .i64 e] 26)
            have hv2 := hv1.below ba
            have hkB2 := hkB1.trans (Keeps.new (F := fun _ => False) ba) (fun _ _ h => h.elim)
            clear hs1 hv1 hv hrg1 hkB hkB1 hat hfd hfi hfe k1 hmid
            generalize hw2 : w1.alloc (.cells #[.int .i64 d, .int .i64 i, .int .i64 e] 26) = w2 at *
            have u0 := oa.cell 0 rfl; have u1 := oa.cell 1 rfl; have u2 := oa.cell 2 rfl
            have HV := vHasA (hv2.below (Below.refl _ _).drew).arg ⟨d, i, e⟩ hx
            dsimp only at HV
            have hoth := fun (y : DotN) (hy : y ∈ Ec) => left_other (left := left) hx (fit_r (hrE y (hsub y hy)))
            cases hq : hasV (joinV V L) ⟨d, i, e⟩ with
            | false =>
              rw [hq] at HV
              have hdis9 : ∀ x ∈ Ec, (left (keyD x) && !(keyD x).sameKey (keyD ⟨d, i, e⟩)) = false → hasV (joinV V L) x = false := fun y hy hl => by
                rcases (hoth y hy).1 hl with c | c
                · exact hdis y hy c
                · rw [c]; exact hq
              clear hdis hoth hq hdel hfil
              go_wp2_with fail
              go_region_law ((try go_simp); go_at_call 34; (refine HV.mono ?_); rintro z w5 ⟨rfl, hx5⟩)
              all_goals (
                have bx := (Below.refl w2.heap.size w2).drew.trans hx5
                have kx : Keeps (fun _ => False) w2 w5 := Keeps.new bx
                have hrg5 := kx.ranges (b := B) (r := wo.heap.size) (fun h => h) (fun h => h) hrg2
                go_wp2
                go_roundw
                case rel => exact ⟨_, cnt1, Ec, Dc, hrg5, hDc, hnd, hsub, hgone, hdis9, hlen, hv2.below bx, hkB2.trans kx (fun _ _ h => h.elim)⟩
                case measure => rw [hrg5.left_eq, hrg.left_eq]; exact hlt1)
            | true =>
              rw [hq] at HV
              have hgone9 : ∀ x ∈ E, x ∉ (Ec.filter fun z => !sameD z ⟨d, i, e⟩) → hasV (joinV V L) x = true := fun y hy hn => by
                by_cases c : y ∈ Ec
                · by_cases c2 : y = ⟨d, i, e⟩
                  · rw [c2]; exact hq
                  · exact absurd (mem_out.2 ⟨c, c2⟩) hn
                · exact hgone y hy c
              have hdis9 : ∀ x ∈ (Ec.filter fun z => !sameD z ⟨d, i, e⟩), ((left (keyD x) && !(keyD x).sameKey (keyD ⟨d, i, e⟩)) && !(keyD x).sameKey (keyD ⟨d, i, e⟩)) = false → hasV (joinV V L) x = false := fun y hy hl => by
                obtain ⟨h1, h2⟩ := mem_out.1 hy
                have h3 : (left (keyD y) && !(keyD y).sameKey (keyD ⟨d, i, e⟩)) = false := by
                  rw [Bool.and_assoc, Bool.and_self] at hl
                  exact hl
                rcases (hoth y h1).1 h3 with c | c
                · exact hdis y h1 c
                · exact absurd c h2
              have hnd9 : (Ec.filter fun z => !sameD z ⟨d, i, e⟩).Nodup := hnd.filter _
              have hsub9 : ∀ x ∈ (Ec.filter fun z => !sameD z ⟨d, i, e⟩), x ∈ E := fun y hy => hsub y (mem_out.1 hy).1
              have hlen9 : (Ec.filter fun z => !sameD z ⟨d, i, e⟩).length ≤ E.length := by omega
              generalize (Ec.filter fun z => !sameD z ⟨d, i, e⟩) = E9 at *
              clear hdis hoth hq hfil hgone hsub hlen hnd hDc hT
              go_wp2_with fail
              go_region_law ((try go_simp); go_at_call 34; (refine HV.mono ?_); rintro z w5 ⟨rfl, hx5⟩)
              all_goals (
                have bx := (Below.refl w2.heap.size w2).drew.trans hx5
                have kx : Keeps (fun _ => False) w2 w5 := Keeps.new bx
                have hrg5 := kx.ranges (b := B) (r := wo.heap.size) (fun h => h) (fun h => h) hrg2
                have hv5 := hv2.below bx
                have oa5 := oa.below bx oa.lt
                have hkB5 := hkB2.trans kx (fun _ _ h => h.elim)
                have q0 := hv5.obj.cell 0 rfl; have q1 := hv5.obj.cell 1 rfl
                have x0 := oa5.cell 0 rfl; have x1 := oa5.cell 1 rfl; have x2 := oa5.cell 2 rfl
                have hd5 : Keeps (fun _ => False) w5 w5.drew := Keeps.new (Below.refl _ _).drew
                obtain ⟨w6, cnt6, hrun, hrg6, hle6, ht6⟩ := (hd5.ranges (b := B) (r := wo.heap.size) (fun h => h) (fun h => h) hrg5).drop keyedDot Try.underlying57 hkey 0
                clear HV hrg2 hv2 oa u0 u1 u2
                go_wp2_with fail
                go_region
                all_goals (
                  have k6 := (Keeps.new (F := fun k => some B = some k) (Below.refl w5.heap.size w5).drew).trans (Keeps.ofGrownBy ht6.grown) (fun k _ h => h)
                  go_wp2
                  go_roundw
                  case rel => exact ⟨_, cnt6, E9, _, hrg6, hdel, hnd9, hsub9, hgone9, hdis9, hlen9, hv5.keeps k6 (fun e => hnp (Option.some.inj e)) (fun b e c => hne b e (Option.some.inj c).symm), hkB5.trans k6 (fun k _ e => (Option.some.inj e).symm)⟩
                  case measure => rw [hrg6.left_eq, hrg.left_eq]; omega))
end Go.Proofs.Ytlggjijgilcloaa

/- A set of dots: joined with another one, a nil one too. -/
namespace Go.Proofs.Ytlggjijgilcloaa
open Go.RowKit
set_option linter.unusedVariables false

set_option maxRecDepth 100000 in
set_option maxHeartbeats 4000000 in
/-- All of another set's dots more. -/
theorem sJoinI {w : World} {p : Nat} {m1 m2 : Option Nat} {V E : List DotN} {S : DotN → Prop} (h : SetVE w p m1 m2 V E) (hR : RepE V E S) {v2 : Value} {F2 : Nat → Prop} {V2 E2 : List DotN} (ho : ArgS w v2 F2 V2 E2) (hk2 : OkE V2 E2) (hd : ∀ b, F2 b → ¬ Own p m1 m2 b) (hn : E.length + E2.length ≤ 9000) :
    Calls Try.prog 18 #[.pointer (some ⟨p, 0, none⟩), v2] w fun e w' => e = .returned (.tuple #[]) ∧
      ∃ n1 n2 V1 E1, SetVE w' p n1 n2 V1 E1 ∧ Chg (Own p m1 m2) (Own p n1 n2) w w' ∧ RepE V1 E1 (fun y => (S y ∨ hasV V2 y = true) ∨ y ∈ E2) ∧ E1.length ≤ E.length + E2.length := by
  have HB := sBaseI ho
  have HA := fun ww a c (hs : SetVE ww p m1 m2 V E) hL hoff => raiseI hs hR a V2.length c V2 hL hk2.okV hoff
  have HY := fun ww (hA : ArgS ww v2 F2 V2 E2) => sBeyondI hA hk2.right hk2.nodup (by omega)
  have hlt := h.lt
  have hB9 : (sortD E2).length ≤ E2.length := sortD_len E2
  have hBm := sortD_mem E2
  have hBr : ∀ y ∈ sortD E2, rightD y = true := fun y hy => hk2.right y ((sortD_mem E2 y).1 hy)
  have hBF : ∀ y ∈ sortD E2, FitD y := fun y hy => fit_r (hBr y hy)
  generalize sortD E2 = B at *
  obtain ⟨n, hnB⟩ : ∃ n, B.length = n := ⟨_, rfl⟩
  rw [hnB] at HY hB9
  obtain ⟨nv, hnv⟩ : ∃ nv, V2.length = nv := ⟨_, rfl⟩
  rw [hnv] at HB HA
  go_enter Try.func18, Try.ntmps18
  go_wp2_with (first
    | (go_at_call 24; (with_reducible refine HB.mono ?_); rintro e w2 ⟨a, c, rfl, hz2, hx2⟩; have HA2 := HA w2 a c (h.below hx2) (hz2.row encD_len) (fun k hk hO => by have := (hz2.lt' k hk).1; have := hlt k hO; omega))
    | (go_at_call 37; (with_reducible refine HA2.mono ?_); rintro e w3 ⟨rfl, r1, r2, V3, E3, hs3, hc3, hR3, hl3⟩; have hc03 := (Chg.below hx2).trans hc3; have ho3 := ho.keeps hc03.keeps hd; have HY3 := HY w3 ho3)
    | (go_at_call 25; (with_reducible refine HY3.mono ?_); rintro e w4 ⟨ab, cb, rfl, hz4, hx4⟩))
  have hs4 := hs3.below hx4
  have hlt3 := hs3.lt
  have hrow := fun v (hk : Keeps (Own p r1 r2) w4 v) => (hz4.row encD_len).keeps hk (fun k hk hO => by have := (hz4.lt' k hk).1; have := hlt3 k hO; omega)
  have hc04 := hc03.trans (Chg.below hx4)
  have hcm := hz4.2.2
  unfold maxLen at hcm
  clear HB HA HY HA2 HY3 ho3 hs3 hz2 hc3 hc03
  go_loopw [15] (fun i wr => ∃ (k : Nat) (n1 n2 : Option Nat) (V5 E5 : List DotN), k ≤ n ∧ i = .int .i64 (k : Int) ∧ SetVE wr p n1 n2 V5 E5 ∧ Chg (Own p r1 r2) (Own p n1 n2) w4 wr ∧ RepE V5 E5 (fun y => (S y ∨ hasV V2 y = true) ∨ y ∈ B.take k) ∧ E5.length ≤ E.length + k) (fun i _ => n - (intOf i).toNat)
  case atStart => exact ⟨0, r1, r2, V3, E3, Nat.zero_le _, rfl, hs4, Chg.refl _ _, hR3.congr (fun y => by simp), by omega⟩
  case round =>
    obtain ⟨k, n1, n2, V5, E5, hk, rfl, hs5, hc5, hR5, hl5⟩ := hrel
    by_cases hlt' : k < n
    · have hlt2 : (k : Int) < (n : Int) := by omega
      obtain ⟨y, g, off, hy, rfl, d0, d1, d2⟩ := dot_at (hrow wr hc5.keeps) k hlt'
      have hfy := hBF y (List.mem_of_getElem? hy)
      have hry := hBr y (List.mem_of_getElem? hy)
      have o1 := ObjAt.new wr #[.int .i64 y.dev, .int .i64 y.inc, .int .i64 y.seq] 26
      have b1 := below_alloc wr (.cells #[.int .i64 y.dev, .int .i64 y.inc, .int .i64 y.seq] 26)
      have u0 := o1.cell 0 rfl; have u1 := o1.cell 1 rfl; have u2 := o1.cell 2 rfl
      have HD := sAddI (hs5.below b1) hR5 y hfy (by omega)
      have hT := Lib.hid (take_snocI hy)
      clear hs5
      go_wp2_with (go_at_call 10; (with_reducible refine HD.mono ?_); rintro e w6 ⟨rfl, s1, s2, V6, E6, hs6, hc6, hR6, hl6⟩)
      go_roundw
      case rel =>
        refine ⟨k + 1, s1, s2, V6, E6, by omega, by go_num, hs6, (hc5.trans (Chg.below b1)).trans hc6, hR6.congr (fun x => ?_), by omega⟩
        rw [hT.out, List.mem_append, List.mem_singleton]
        exact ⟨fun c => c.elim (fun c => .inl (.inl c)) (fun c => c.elim (fun c => .inl (.inr c)) (fun c => .inr ⟨c, hry⟩)), fun c => c.elim (fun c => c.imp id .inl) (fun c => .inr (.inr c.1))⟩
      case measure => simp [intOf]; omega
    · obtain rfl : n = k := by omega
      have e0 : B.take n = B := List.take_of_length_le (by omega)
      rw [e0] at hR5
      go_wp2
      go_end0
      exact ⟨rfl, n1, n2, V5, E5, hs5, hc04.trans hc5, hR5.congr fun y => by rw [hBm], by omega⟩

/-- A nil set is joined with nothing. -/
theorem sJoinNil (w : World) (v2 : Value) : Calls Try.prog 18 #[.pointer none, v2] w fun e w' => e = .returned (.tuple #[]) ∧ Below w.heap.size w w' := by
  go_enter Try.func18, Try.ntmps18
  go_wp2
  (try simp only [Exit.inBlock, Exit.then])
  refine bodyPost_ret (results_none rfl _ _ _) rfl ?_
  exact ⟨rfl, Below.refl _ _⟩

/-- A dot is added to no nil set. -/
theorem sAddNil (w : World) (x : DotN) : Calls Try.prog 10 #[.pointer none, .agg #[.int .i64 x.dev, .int .i64 x.inc, .int .i64 x.seq]] w fun e w' => e = .returned (.bool false) ∧ Below w.heap.size w w' := by
  have hb := below_alloc w (.cells #[.int .i64 x.dev, .int .i64 x.inc, .int .i64 x.seq] 26)
  go_enter Try.func10, Try.ntmps10
  go_wp2
  go_ret
  exact ⟨rfl, hb⟩
end Go.Proofs.Ytlggjijgilcloaa

/- A set of dots: what it lacks of another one. -/
namespace Go.Proofs.Ytlggjijgilcloaa
open Go.RowKit
set_option linter.unusedVariables false

def lackV (V : List DotN) (b : DotN) : List DotN := if getV V b.dev b.inc + 1 ≤ b.seq then [⟨b.dev, b.inc, getV V b.dev b.inc + 1⟩] else []
def missVE (V E V2 E2 : List DotN) : List DotN := V2.flatMap (lackV V) ++ (sortD E2).filter fun x => !(hasD E x || hasV V x)
theorem lacks_snoc {V L : List DotN} {k : Nat} {y : DotN} (h : L[k]? = some y) : (L.take (k + 1)).flatMap (lackV V) = (L.take k).flatMap (lackV V) ++ lackV V y := by
  rw [take_snocI h, List.flatMap_append]
  simp
theorem lacks_len {V : List DotN} : ∀ L : List DotN, (L.flatMap (lackV V)).length ≤ L.length
  | [] => Nat.le_refl _
  | x :: t => by
    have := lacks_len (V := V) t
    have h2 : (lackV V x).length ≤ 1 := by unfold lackV; split <;> simp
    rw [List.flatMap_cons, List.length_append, List.length_cons]
    omega
theorem filter_snoc {p : DotN → Bool} {L : List DotN} {k : Nat} {y : DotN} (h : L[k]? = some y) : (L.take (k + 1)).filter p = (L.take k).filter p ++ if p y = true then [y] else [] := by
  rw [take_snocI h, List.filter_append]
  by_cases c : p y = true
  · rw [if_pos c, List.filter_cons_of_pos c]; rfl
  · rw [if_neg c, List.filter_cons_of_neg c]; rfl

set_option maxRecDepth 100000 in
set_option maxHeartbeats 4000000 in
/-- What a set lacks of another one. -/
theorem sMissingI {w : World} {v1 v2 : Value} {F1 F2 : Nat → Prop} {V E V2 E2 : List DotN} (h : ArgS w v1 F1 V E) (hk1 : OkE V E) (ho : ArgS w v2 F2 V2 E2) (hk2 : OkE V2 E2) (hn2 : E2.length ≤ 10000) :
    Calls Try.prog 16 #[v1, v2] w (GivesZ encD 3 26 (missVE V E V2 E2) (missVE V E V2 E2).length w) := by
  have HO := orNewC h
  have HB := fun ww (hA : ArgS ww v2 F2 V2 E2) => sBaseI hA
  have HY := fun ww (hA : ArgS ww v2 F2 V2 E2) => sBeyondI hA hk2.right hk2.nodup (by omega)
  have HN := fun ww p m1 m2 (hs : SetVE ww p m1 m2 V E) d i hd hi => nextC hs d i hd hi
  have HH := fun ww p m1 m2 (hs : SetVE ww p m1 m2 V E) x hx => sHasI hs.arg x hx
  obtain ⟨i0, hi, hz0, hz1, hz2⟩ := info_parts infoDot
  have hgr := fun d i => getV_range hk1.okV d i
  have hB9 : (sortD E2).length ≤ E2.length := sortD_len E2
  have hBF : ∀ y ∈ sortD E2, FitD y := fun y hy => fit_r (hk2.right y ((sortD_mem E2 y).1 hy))
  have hVF : ∀ y ∈ V2, FitD y := fun y hy => fit_r (hk2.okV.right y hy)
  have hmost := hk2.okV.most
  unfold missVE
  generalize sortD E2 = B at *
  obtain ⟨n, hnB⟩ : ∃ n, B.length = n := ⟨_, rfl⟩
  rw [hnB] at HY hB9
  obtain ⟨nv, hnv⟩ : ∃ nv, V2.length = nv := ⟨_, rfl⟩
  rw [hnv] at HB hmost
  clear h
  go_enter Try.func16, Try.ntmps16
  go_wp2_with (first
    | (go_at_call 33; (with_reducible refine HO.mono ?_); rintro e w2 ⟨p, m1, m2, rfl, hs2, hx2, _⟩; have HB2 := HB w2 (ho.below hx2))
    | (go_at_call 24; (with_reducible refine HB2.mono ?_); rintro e w3 ⟨ab, cb, rfl, hz3, hx3⟩))
  have hs3 := hs2.below hx3
  have hrow := fun v (hb : Below w3.heap.size w3 v) => (hz3.row encD_len).below hb
  have ho3 := (ho.below hx2).below hx3
  have hx03 := hx2.trans (hx3.mono hx2.size)
  have hcm := hz3.2.2
  have hcl := (hz3.row encD_len).cle
  unfold maxLen at hcm
  clear HO HB HB2 hs2 hz3 hx2 hx3 ho
  go_loopw [5, 16] (fun s i wr => ∃ (k m c2 : Nat) (q : Option Addr), k ≤ nv ∧ m ≤ k ∧ i = .int .i64 (k : Int) ∧ s = .slice q m c2 ∧ OwnZ encD 3 w3.heap.size 26 q m c2 ((V2.take k).flatMap (lackV V)) wr ∧ Below w3.heap.size w3 wr) (fun _ i _ => nv - (intOf i).toNat)
  case atStart => exact ⟨0, 0, 0, none, Nat.zero_le _, Nat.le_refl _, rfl, rfl, OwnZ.none _ _ _ _ _, Below.refl _ _⟩
  case round =>
    obtain ⟨k, m, c2, q, hk, hmk, rfl, rfl, hz, hb⟩ := hrel
    have hcm2 := hz.2.2
    unfold maxLen at hcm2
    by_cases hlt : k < nv
    · have hlt' : (k : Int) < (nv : Int) := by omega
      obtain ⟨y, g, off, hy, rfl, d0, d1, d2⟩ := dot_at (hrow wr hb) k hlt
      have hfy := hVF y (List.mem_of_getElem? hy)
      have o1 := ObjAt.new wr #[.int .i64 y.dev, .int .i64 y.inc, .int .i64 y.seq] 53
      have b1 := below_alloc wr (.cells #[.int .i64 y.dev, .int .i64 y.inc, .int .i64 y.seq] 53)
      have u0 := o1.cell 0 rfl; have u1 := o1.cell 1 rfl; have u2 := o1.cell 2 rfl
      have hb1 := hb.trans (b1.mono hb.size)
      have HN1 := HN _ p m1 m2 (hs3.below hb1) y.dev y.inc hfy.dev hfy.inc
      have hT : (V2.take (k + 1)).flatMap (lackV V) = (V2.take k).flatMap (lackV V) ++ (if getV V y.dev y.inc + 1 ≤ y.seq then [⟨y.dev, y.inc, getV V y.dev y.inc + 1⟩] else []) := lacks_snoc (V := V) hy
      have hgy := hgr y.dev y.inc
      have hfz : FitD ⟨y.dev, y.inc, getV V y.dev y.inc + 1⟩ := ⟨hfy.dev, hfy.inc, (show is64 (getV V y.dev y.inc + 1) by unfold is64; omega)⟩
      generalize getV V y.dev y.inc + 1 = G at *
      have hz1' := hz.below b1 (Nat.le_refl _)
      clear hgy hz HN HH HY hgr
      by_cases hle : G ≤ y.seq
      · rw [if_pos hle] at hT
        have hd9 : decide (G ≤ y.seq) = true := decide_eq_true hle
        have HT := Lib.hid hT
        clear hT
        go_wp2_with (first
          | (go_at_call 35; (with_reducible refine HN1.mono ?_); rintro e w5 ⟨rfl, hx5⟩; have o5 := o1.below hx5 o1.lt; have u0 := o5.cell 0 rfl; have u1 := o5.cell 1 rfl; have u2 := o5.cell 2 rfl; have od := ObjAt.new w5 #[.int .i64 y.dev, .int .i64 y.inc, .int .i64 G] 26; have bd := below_alloc w5 (.cells #[.int .i64 y.dev, .int .i64 y.inc, .int .i64 G] 26); obtain ⟨w6, hw6⟩ : ∃ w6, w5.alloc (.cells #[.int .i64 y.dev, .int .i64 y.inc, .int .i64 G] 26) = w6 := ⟨_, rfl⟩; rw [hw6] at od bd; have o6 := o5.below bd o5.lt; have q0 := o6.cell 0 rfl; have q1 := o6.cell 1 rfl; have q2 := o6.cell 2 rfl; have x0 := od.cell 0 rfl; have x1 := od.cell 1 rfl; have x2 := od.cell 2 rfl; have hz6 := (hz1'.below hx5 (Nat.le_refl _)).below bd (Nat.le_refl _); have hb6 := hb1.trans ((hx5.trans (bd.mono hx5.size)).mono hb1.size))
          | (at_builtin; refine wpList_append_row1 encD_len (by decide) encD_one rfl (.tmp 29) (.tmp 31) 22 rfl 26 i0 (.agg #[.int .i64 0, .int .i64 0, .int .i64 0]) 24 Try.underlying22 hi hz0 hz1 hz2 rfl hz6 rfl ⟨y.dev, y.inc, G⟩ rfl rfl (m + 1) rfl (by unfold maxLen; omega) (by omega) hb6.size ?_; intro q7 c7 w7 hz7 hx7 hg7 hn7))
        go_roundw
        case rel => exact ⟨k + 1, m + 1, c7, q7, by omega, by omega, by go_num, rfl, by rw [HT.out]; exact hz7, hb6.trans hx7⟩
        case measure => simp [intOf]; omega
      · rw [if_neg hle, List.append_nil] at hT
        have hd9 : decide (G ≤ y.seq) = false := decide_eq_false hle
        have HT := Lib.hid hT
        clear hT
        go_wp2_with (go_at_call 35; (with_reducible refine HN1.mono ?_); rintro e w5 ⟨rfl, hx5⟩; have o5 := o1.below hx5 o1.lt; have u0 := o5.cell 0 rfl; have u1 := o5.cell 1 rfl; have u2 := o5.cell 2 rfl; have od := ObjAt.new w5 #[.int .i64 y.dev, .int .i64 y.inc, .int .i64 G] 26; have bd := below_alloc w5 (.cells #[.int .i64 y.dev, .int .i64 y.inc, .int .i64 G] 26); obtain ⟨w6, hw6⟩ : ∃ w6, w5.alloc (.cells #[.int .i64 y.dev, .int .i64 y.inc, .int .i64 G] 26) = w6 := ⟨_, rfl⟩; rw [hw6] at od bd; have o6 := o5.below bd o5.lt; have q0 := o6.cell 0 rfl; have q1 := o6.cell 1 rfl; have q2 := o6.cell 2 rfl; have x0 := od.cell 0 rfl; have x1 := od.cell 1 rfl; have x2 := od.cell 2 rfl; have hz6 := (hz1'.below hx5 (Nat.le_refl _)).below bd (Nat.le_refl _); have hb6 := hb1.trans ((hx5.trans (bd.mono hx5.size)).mono hb1.size))
        go_roundw
        case rel => exact ⟨k + 1, m, c2, q, by omega, by omega, by go_num, rfl, by rw [HT.out]; exact hz6, hb6⟩
        case measure => simp [intOf]; omega
    · obtain rfl : nv = k := by omega
      obtain ⟨wo, hwo⟩ : ∃ wo, wo = wr := ⟨wr, rfl⟩
      subst hwo
      have e0 : V2.take nv = V2 := List.take_of_length_le (by omega)
      rw [e0] at hz
      clear e0 HN hrow hlt
      obtain ⟨A0, hA0⟩ : ∃ A0, V2.flatMap (lackV V) = A0 := ⟨_, rfl⟩
      rw [hA0] at hz
      have HA0 := Lib.hid hA0
      have HY3 := HY wo (ho3.below hb)
      clear hA0 HY
      go_wp2_with (go_at_call 25; (with_reducible refine HY3.mono ?_); rintro e w4 ⟨ae, ce, rfl, hz4, hx4⟩)
      have hr4 := hz4.row encD_len
      have hlt4 := hz4.lt'
      have hlq := hz.lt'
      have hzq := hz.below hx4 (Nat.le_refl _)
      have hof : Off q ae := fun k h1 h2 => by have := (hlq k h1).2; have := (hlt4 k h2).1; omega
      have hb4 := hb.trans (hx4.mono hb.size)
      have hcm4 := hr4.capm
      have hcl4 := hr4.cle
      unfold maxLen at hcm4
      have hae := fun k hk => (hlt4 k hk).2
      clear hz4 hlt4 hlq hz hb
      go_loopw [5, 37] (fun s i wr => ∃ (k m2' c3 : Nat) (q3 : Option Addr), k ≤ n ∧ m2' ≤ m + k ∧ i = .int .i64 (k : Int) ∧ s = .slice q3 m2' c3 ∧ OwnZ encD 3 w3.heap.size 26 q3 m2' c3 (A0 ++ (B.take k).filter fun x => !(hasD E x || hasV V x)) wr ∧ RowOf encD 3 wr ae n ce B ∧ Off q3 ae ∧ Below w3.heap.size w3 wr ∧ w4.heap.size ≤ wr.heap.size) (fun _ i _ => n - (intOf i).toNat)
      case atStart => exact ⟨0, m, c2, q, Nat.zero_le _, Nat.le_refl _, rfl, rfl, by simpa using hzq, hr4, hof, hb4, Nat.le_refl _⟩
      case round =>
        obtain ⟨k, m3, c3, q3, hk3, hm3, rfl, rfl, hz, hrw, hof3, hb, hsz⟩ := hrel
        clear hr4 hzq hof hb4 HY3
        have hcm5 := hz.2.2
        unfold maxLen at hcm5
        by_cases hlt : k < n
        · have hlt' : (k : Int) < (n : Int) := by omega
          have hrw0 := hrw
          obtain ⟨y, g, off, hy, rfl, d0, d1, d2⟩ := dot_at hrw k hlt
          have hfy := hBF y (List.mem_of_getElem? hy)
          have o1 := ObjAt.new wr #[.int .i64 y.dev, .int .i64 y.inc, .int .i64 y.seq] 26
          have b1 := below_alloc wr (.cells #[.int .i64 y.dev, .int .i64 y.inc, .int .i64 y.seq] 26)
          have u0 := o1.cell 0 rfl; have u1 := o1.cell 1 rfl; have u2 := o1.cell 2 rfl
          have hb1 := hb.trans (b1.mono hb.size)
          have HH1 := HH _ p m1 m2 (hs3.below hb1) y hfy
          have hT := filter_snoc (p := fun x => !(hasD E x || hasV V x)) hy
          have hz1' := hz.below b1 (Nat.le_refl _)
          clear HH hz
          cases hq : (hasD E y || hasV V y) with
          | true =>
            rw [hq] at HH1 hT
            rw [if_neg (by decide), List.append_nil] at hT
            have HT := Lib.hid hT
            clear hT hq
            go_wp2_with (go_at_call 12; (with_reducible refine HH1.mono ?_); rintro e w5 ⟨rfl, hx5⟩)
            have hb5 := hb1.trans (hx5.mono hb1.size)
            go_roundw
            case rel => exact ⟨k + 1, m3, c3, q3, by omega, by omega, by go_num, rfl, by rw [HT.out]; exact hz1'.below hx5 (Nat.le_refl _), (hrw0.below b1).below hx5, hof3, hb5, Nat.le_trans hsz (Nat.le_trans b1.size hx5.size)⟩
            case measure => simp [intOf]; omega
          | false =>
            rw [hq] at HH1 hT
            rw [if_pos (by decide)] at hT
            have HT := Lib.hid hT
            clear hT hq
            go_wp2_with (first
              | (go_at_call 12; (with_reducible refine HH1.mono ?_); rintro e w5 ⟨rfl, hx5⟩; have o5 := o1.below hx5 o1.lt; have u0 := o5.cell 0 rfl; have u1 := o5.cell 1 rfl; have u2 := o5.cell 2 rfl; have hz6 := hz1'.below hx5 (Nat.le_refl _); have hb6 := hb1.trans (hx5.mono hb1.size); have hr6 := (hrw0.below b1).below hx5; have hs6 := Nat.le_trans hsz (Nat.le_trans b1.size hx5.size))
              | (at_builtin; refine wpList_append_row1 encD_len (by decide) encD_one rfl (.tmp 45) (.tmp 47) 22 rfl 26 i0 (.agg #[.int .i64 0, .int .i64 0, .int .i64 0]) 24 Try.underlying22 hi hz0 hz1 hz2 rfl hz6 rfl y rfl rfl (m3 + 1) rfl (by unfold maxLen; omega) (by omega) hb6.size ?_; intro q7 c7 w7 hz7 hx7 hg7 hn7))
            have k7 := Keeps.ofGrown hx7 hg7
            go_roundw
            case rel => exact ⟨k + 1, m3 + 1, c7, q7, by omega, by omega, by go_num, rfl, by rw [HT.out, ← List.append_assoc]; exact hz7, hr6.keeps k7 (fun j h1 h2 => hof3 j h2 h1), hof3.moved hn7 (fun j hj => Nat.lt_of_lt_of_le (hae j hj) hs6), hb6.trans hx7, Nat.le_trans hs6 k7.size⟩
            case measure => simp [intOf]; omega
        · obtain rfl : n = k := by omega
          have e0 : B.take n = B := List.take_of_length_le (by omega)
          rw [e0] at hz
          have hl9 := hz.2.1
          go_wp2
          go_ret
          rw [HA0.out, hl9]
          exact ⟨q3, c3, rfl, hz.base hx03.size, hx03.trans (hb.mono hx03.size)⟩
end Go.Proofs.Ytlggjijgilcloaa

/- A set of dots, packed. -/
namespace Go.Proofs.Ytlggjijgilcloaa
open Go.RowKit
set_option linter.unusedVariables false

set_option maxRecDepth 100000 in
set_option maxHeartbeats 2000000 in
/-- How many dots there are, and each, packed. -/
theorem putAllC (base q : Nat) (a : Option Addr) (lw : List Int) (w : World) (hw : Wr 5 base q a lw w) (hlen : lw.length ≤ 2000000) (hbase : base ≤ w.heap.size) (al : Option Addr) (n c : Nat) (L : List DotN) (hL : RowOf encD 3 w al n c L) (hR : ∀ x ∈ L, rightD x = true) (hn : n ≤ 20000) (hoff : ∀ k, At al k → ¬ (k = q ∨ At a k)) :
    Calls Try.prog 39 #[.pointer (some ⟨q, 0, none⟩), .slice al n c] w fun e w' => e = .returned (.tuple #[]) ∧ ∃ a', Wr 5 base q a' (lw ++ (short n ++ L.flatMap bytesD)) w' ∧ Kept q a w w' ∧ Near a a' w := by
  have hrow := fun v (K : Kept q a w v) => hL.keeps (Keeps.ofKept K) hoff
  have hleq := hL.leq
  have hF : ∀ y ∈ L, FitD y := fun y hy => fit_r (hR y hy)
  have hcm := hL.capm
  have hcl := hL.cle
  unfold maxLen at hcm
  have t1 := short_ten n (by omega)
  have q1 : IntKind.u64.wrap (n : Int) = (n : Int) := by rw [IntKind.wrap_u64]; omega
  have HN := wNumC base q n a lw w hw (by omega) hbase (by omega)
  rw [← List.append_assoc]
  have hl1 : (lw ++ short n).length ≤ 2000010 := by rw [List.length_append]; omega
  generalize lw ++ short n = l1 at *
  clear hlen t1 hL
  go_enter Try.func39, Try.ntmps39
  go_wp2_with (go_at_call 53; (with_reducible refine HN.mono ?_); rintro e w2 ⟨rfl, a2, hw2, k2, n2⟩)
  go_loopw [13] (fun i wr => ∃ (k : Nat) (aw : Option Addr), k ≤ n ∧ i = .int .i64 (k : Int) ∧ Wr 5 base q aw (l1 ++ (L.take k).flatMap bytesD) wr ∧ Kept q a w wr ∧ Near a aw w) (fun i _ => n - (intOf i).toNat)
  case atStart => exact ⟨0, a2, Nat.zero_le _, rfl, by simpa using hw2, k2, n2⟩
  case round =>
    obtain ⟨k, aw, hk, rfl, hwr, K, N⟩ := hrel
    clear hw2 n2 k2 HN
    by_cases hlt : k < n
    · have hlt' : (k : Int) < (n : Int) := by omega
      obtain ⟨y, g, off, hy, rfl, d0, d1, d2⟩ := dot_at (hrow wr K) k hlt
      have hry := hR y (List.mem_of_getElem? hy)
      have hfy := hF y (List.mem_of_getElem? hy)
      have o1 := ObjAt.new wr #[.int .i64 y.dev, .int .i64 y.inc, .int .i64 y.seq] 26
      have b1 := below_alloc wr (.cells #[.int .i64 y.dev, .int .i64 y.inc, .int .i64 y.seq] 26)
      have hw1 := hwr.below b1
      have K1 := K.trans N (Kept.of b1)
      have hbs := Nat.le_trans hbase K1.size
      have hln : (l1 ++ (L.take k).flatMap bytesD).length ≤ 1000000000 := by
        have := packs_len (l := L.take k) (fun x hx => hR x (List.mem_of_mem_take hx))
        rw [List.length_append]
        rw [List.length_take] at this
        omega
      have HP := dotPutC0 base q aw (l1 ++ (L.take k).flatMap bytesD) y _ hw1 hln hbs hfy
      have ep : l1 ++ (L.take k).flatMap bytesD ++ putD y = l1 ++ (L.take (k + 1)).flatMap bytesD := by
        rw [packs_snoc hy, List.append_assoc]
        unfold putD
        rw [if_pos hry]
      rw [ep] at HP
      unfold PutGives at HP
      have u0 := o1.cell 0 rfl; have u1 := o1.cell 1 rfl; have u2 := o1.cell 2 rfl
      generalize hwx : wr.alloc (.cells #[.int .i64 y.dev, .int .i64 y.inc, .int .i64 y.seq] 26) = wx at *
      clear hln ep hry hfy
      go_wp2_with (go_at_call 54; (with_reducible refine HP.mono ?_); rintro e w3 ⟨rfl, a3, hw3, k3, n3⟩)
      go_roundw
      case rel => exact ⟨k + 1, a3, by omega, by go_num, hw3, K1.trans N k3, N.trans n3 K1.size⟩
      case measure => simp [intOf]; omega
    · obtain rfl : n = k := by omega
      have e0 : L.take n = L := List.take_of_length_le (by rw [hleq]; exact Nat.le_refl _)
      rw [e0] at hwr
      go_wp2
      go_end0
      exact ⟨rfl, aw, hwr, K, N⟩

set_option maxRecDepth 100000 in
set_option maxHeartbeats 4000000 in
/-- A set, packed; a nil one too. -/
theorem sPutI {w : World} {v : Value} {F : Nat → Prop} {V E : List DotN} (h : ArgS w v F V E) (hk : OkE V E) (base q : Nat) (a : Option Addr) (lw : List Int) (hw : Wr 5 base q a lw w) (hlen : lw.length ≤ 1000000) (hbase : base ≤ w.heap.size) (hF : ∀ k, F k → ¬ (k = q ∨ At a k)) (hn : E.length ≤ 10000) (hnV : V.length ≤ 10000) :
    Calls Try.prog 20 #[v, .pointer (some ⟨q, 0, none⟩)] w fun e w' => e = .returned (.tuple #[]) ∧ ∃ a', Wr 5 base q a' (lw ++ (packV V ++ (short (sortD E).length ++ (sortD E).flatMap bytesD))) w' ∧ Kept q a w w' ∧ Near a a' w := by
  have HB := sBaseI h
  have HY := fun ww (hA : ArgS ww v F V E) => sBeyondI hA hk.right hk.nodup hn
  obtain ⟨i0, hi, hz0, hz1, hz2⟩ := info_parts infoDot
  have hB9 : (sortD E).length ≤ E.length := sortD_len E
  have hBr : ∀ y ∈ sortD E, rightD y = true := fun y hy => hk.right y ((sortD_mem E y).1 hy)
  have hVr := hk.okV.right
  have hql := hw.lt.2
  have hal := hw.at'
  unfold packV
  generalize sortD E = B at *
  obtain ⟨n, hnB⟩ : ∃ n, B.length = n := ⟨_, rfl⟩
  rw [hnB] at HY hB9 ⊢
  obtain ⟨nv, hnv⟩ : ∃ nv, V.length = nv := ⟨_, rfl⟩
  rw [hnv] at HB hnV ⊢
  have hl2 : (lw ++ (short nv ++ V.flatMap bytesD)).length ≤ 2000000 := by
    have h1 := packs_len (l := V) hVr
    have h2 := short_ten nv (by omega)
    rw [List.length_append, List.length_append]
    omega
  have HP1 := fun ww hw al c hL hoff hb => putAllC base q a lw ww hw (by omega) hb al nv c V hL hVr (by omega) hoff
  have HP2 := fun ww a2 hw al c hL hoff hb => putAllC base q a2 (lw ++ (short nv ++ V.flatMap bytesD)) ww hw hl2 hb al n c B hL hBr (by omega) hoff
  rw [← List.append_assoc]
  generalize lw ++ (short nv ++ V.flatMap bytesD) = l2 at *
  have hVF : ∀ y ∈ V, FitD y := fun y hy => fit_r (hVr y hy)
  go_enter Try.func20, Try.ntmps20
  go_wp2_with (go_at_call 24; (with_reducible refine HB.mono ?_); rintro e w3 ⟨ab, cb, rfl, hz3, hx3⟩)
  have hrow := fun v (hb : Below w3.heap.size w3 v) => (hz3.row encD_len).below hb
  have hcm := hz3.2.2
  have hcl := (hz3.row encD_len).cle
  unfold maxLen at hcm
  clear HB hz3
  go_loopw [4, 10] (fun s i wr => ∃ (k c2 : Nat) (q2 : Option Addr), k ≤ nv ∧ i = .int .i64 (k : Int) ∧ s = .slice q2 k c2 ∧ OwnZ encD 3 w3.heap.size 26 q2 k c2 (V.take k) wr ∧ Below w3.heap.size w3 wr) (fun _ i _ => nv - (intOf i).toNat)
  case atStart => exact ⟨0, 0, none, Nat.zero_le _, rfl, rfl, OwnZ.none _ _ _ _ _, Below.refl _ _⟩
  case round =>
    obtain ⟨k, c2, q2, hkn, rfl, rfl, hz, hb⟩ := hrel
    have hcm2 := hz.2.2
    unfold maxLen at hcm2
    by_cases hlt : k < nv
    · have hlt' : (k : Int) < (nv : Int) := by omega
      obtain ⟨y, g, off, hy, rfl, d0, d1, d2⟩ := dot_at (hrow wr hb) k hlt
      have o1 := ObjAt.new wr #[.int .i64 y.dev, .int .i64 y.inc, .int .i64 y.seq] 53
      have b1 := below_alloc wr (.cells #[.int .i64 y.dev, .int .i64 y.inc, .int .i64 y.seq] 53)
      have hb1 := hb.trans (b1.mono hb.size)
      have hz1' := hz.below b1 (Nat.le_refl _)
      have HT := Lib.hid (take_snocI hy)
      generalize hwx : wr.alloc (.cells #[.int .i64 y.dev, .int .i64 y.inc, .int .i64 y.seq] 53) = wx at *
      have u0 := o1.cell 0 rfl; have u1 := o1.cell 1 rfl; have u2 := o1.cell 2 rfl
      clear hz hb HY HP1 HP2
      go_wp2_with (at_builtin; refine wpList_append_row1 encD_len (by decide) encD_one rfl (.tmp 14) (.tmp 16) 22 rfl 26 i0 (.agg #[.int .i64 0, .int .i64 0, .int .i64 0]) 24 Try.underlying22 hi hz0 hz1 hz2 rfl hz1' rfl y rfl rfl (k + 1) rfl (by unfold maxLen; omega) (by omega) hb1.size ?_; intro q7 c7 w7 hz7 hx7 hg7 hn7)
      go_roundw
      case rel => exact ⟨k + 1, c7, q7, by omega, by go_num, rfl, by rw [HT.out]; exact hz7, hb1.trans hx7⟩
      case measure => simp [intOf]; omega
    · obtain rfl : nv = k := by omega
      have e0 : V.take nv = V := List.take_of_length_le (by omega)
      rw [e0] at hz
      have hb0 := hx3.trans (hb.mono hx3.size)
      have hw9 := hw.below hb0
      have hlq := hz.lt'
      have h3 := hx3.size
      have HP3 := HP1 wr hw9 q2 c2 (hz.row encD_len) (fun k hk c => by
        have := (hlq k hk).1
        rcases c with c | c
        · omega
        · have := (hal k c).2.1
          omega) (Nat.le_trans hbase hb0.size)
      have hA0 := h.below hb0
      clear HP1 hrow
      go_wp2_with (first
        | (go_at_call 39; (with_reducible refine HP3.mono ?_); rintro e w5 ⟨rfl, a5, hw5, k5, n5⟩; have K5 := (Kept.of hb0 (p := q) (a := a)).trans (Near.refl _ _) k5; have N5 := n5.early hb0.size; have hA5 := hA0.keeps (Keeps.ofKept k5) hF; have HY5 := HY _ hA5; clear HP3)
        | (go_at_call 25; (with_reducible refine HY5.mono ?_); rintro e w6 ⟨ae, ce, rfl, hz6, hx6⟩; have HP6 := HP2 w6 a5 (hw5.below hx6) ae ce (hz6.row encD_len) (fun k hk c => by
            have := (hz6.lt' k hk).1
            rcases c with c | c
            · have := K5.size
              omega
            · have := (hw5.at' k c).2.1
              omega) (Nat.le_trans hbase (Nat.le_trans K5.size hx6.size)))
        | (go_at_call 39; (with_reducible refine HP6.mono ?_); rintro e w7 ⟨rfl, a7, hw7, k7, n7⟩))
      go_end0
      have K6 := K5.trans N5 (Kept.of hx6 (p := q) (a := a5))
      exact ⟨rfl, a7, hw7, K6.trans N5 k7, N5.trans n7 K6.size⟩
end Go.Proofs.Ytlggjijgilcloaa

/- The program's own contracts of layer 18: sets of dots behind pointers. -/
namespace Go.Proofs.Ytlggjijgilcloaa
open Go.RowKit
set_option linter.unusedVariables false

/-- What the program's set is in memory: a struct with the base's numbers and the map of its exceptions. -/
def SetIs (w : World) (p : Nat) (F : Nat → Prop) (l : List DotN) : Prop := ∃ m1 m2 V E, SetVE w p m1 m2 V E ∧ RepE V E (fun x => x ∈ l) ∧ ∀ b, Own p m1 m2 b → F b
/-- A set behind a pointer: its block, all blocks that are its own (F), and its dots. -/
structure SetAt (w : World) (p : Nat) (F : Nat → Prop) (l : List DotN) : Prop where
  own : F p
  lt : ∀ k, F k → k < w.heap.size
  ok : OkS l
  is : SetIs w p F l
theorem SetAt.keeps {G : Nat → Prop} {w w' : World} {p : Nat} {F : Nat → Prop} {l : List DotN} (h : SetAt w p F l) (hk : Keeps G w w') (hd : ∀ k, F k → ¬ G k) : SetAt w' p F l := by
  obtain ⟨h1, h2, h3, m1, m2, V, E, h4, h5, h6⟩ := h
  exact ⟨h1, fun k hF => Nat.lt_of_lt_of_le (h2 k hF) hk.size, h3, m1, m2, V, E, h4.keeps hk fun b hb => hd b (h6 b hb), h5, h6⟩

/-- A call that changes a set: it holds l then, and all else stays. -/
def Changed (p : Nat) (F : Nat → Prop) (l : List DotN) (v : Value) (w : World) (e : Ending) (w' : World) : Prop :=
  e = .returned v ∧ ∃ F', SetAt w' p F' l ∧ Keeps F w w' ∧ ∀ k, F' k → F k ∨ w.heap.size ≤ k
theorem SetAt.changed {w w' : World} {p : Nat} {m1 m2 n1 n2 : Option Nat} {F : Nat → Prop} {l l' V' E' : List DotN} {v : Value} {e : Ending} (h : SetAt w p F l) (he : e = .returned v) (hF : ∀ b, Own p m1 m2 b → F b) (hs : SetVE w' p n1 n2 V' E') (hc : Chg (Own p m1 m2) (Own p n1 n2) w w') (hr : RepE V' E' (fun x => x ∈ l')) (hl : OkS l') : Changed p F l' v w e w' :=
  ⟨he, fun b => F b ∨ Own p n1 n2 b, ⟨.inl h.own, fun k hk => hk.elim (fun c => Nat.lt_of_lt_of_le (h.lt k c) hc.keeps.size) (hs.lt k), hl, n1, n2, V', E', hs, hr, fun b hb => .inr hb⟩, hc.keeps.mono fun b _ hb => hF b hb, fun k hk => hk.elim .inl fun c => (hc.new k c).imp (hF k) id⟩
/-- A call that gives dots, or marks. -/
def GivesL (L : List DotN) (w : World) (e : Ending) (w' : World) : Prop :=
  ∃ a n c, e = .returned (.slice a n c) ∧ RowOf encD 3 w' a n c L ∧ Below w.heap.size w w'

theorem sNewC (w : World) : Calls Try.prog 8 #[] w fun e w' => ∃ p F, e = .returned (.pointer (some ⟨p, 0, none⟩)) ∧ SetAt w' p F [] ∧ (∀ k, F k → w.heap.size ≤ k) ∧ Below w.heap.size w w' :=
  (sNewI w).mono fun e w' ⟨p, h1, h2, h3, h4⟩ => ⟨p, Own p none none, h1, ⟨.inl rfl, h2.lt, nil_okS, none, none, [], [], h2, nil_rep, fun _ h => h⟩, fun k hk => (hk.elim (fun c => c ▸ h4) fun c => c.elim (fun c => by cases c) (fun c => by cases c)), h3⟩

theorem sAddC (p : Nat) (F : Nat → Prop) (l : List DotN) (x : DotN) (w : World) (h : SetAt w p F l) (hx : FitD x) (hn : l.length ≤ 5000) :
    Calls Try.prog 10 #[.pointer (some ⟨p, 0, none⟩), .agg #[.int .i64 x.dev, .int .i64 x.inc, .int .i64 x.seq]] w (Changed p F (addS l x) (.bool (decide (l.length < (addS l x).length))) w) := by
  have h0 := h
  obtain ⟨h1, h2, h3, m1, m2, V, E, h4, h5, h6⟩ := h
  have hlen := h5.len h3
  refine (sAddI h4 h5 x hx (by omega)).mono ?_
  rintro e w' ⟨he, n1, n2, V1, E1, hs, hc, hr, _⟩
  refine h0.changed (by rw [add_told h3, h5.has]; exact he) h6 hs hc (hr.congr fun y => add_mem x y) (add_ok h3 x)

theorem sHasC (p : Nat) (F : Nat → Prop) (l : List DotN) (x : DotN) (w : World) (h : SetAt w p F l) (hx : FitD x) (hn : l.length ≤ 5000) :
    Calls Try.prog 12 #[.pointer (some ⟨p, 0, none⟩), .agg #[.int .i64 x.dev, .int .i64 x.inc, .int .i64 x.seq]] w fun e w' => e = .returned (.bool (hasD l x)) ∧ Below w.heap.size w w' := by
  obtain ⟨h1, h2, h3, m1, m2, V, E, h4, h5, h6⟩ := h
  rw [h5.has]
  exact sHasI h4.arg x hx

theorem join_memS {l m V E : List DotN} (h : RepE V E (fun x => x ∈ m)) (y : DotN) : y ∈ joinS l m ↔ (y ∈ l ∨ hasV V y = true) ∨ y ∈ E := by
  unfold joinS
  rw [sortD_mem, List.mem_append, h.mem]
  unfold InVE
  exact or_assoc.symm

theorem sJoinC (p q : Nat) (F G : Nat → Prop) (l m : List DotN) (w : World) (h : SetAt w p F l) (h2 : SetAt w q G m) (hd : ∀ k, F k → ¬ G k) (hn : l.length + m.length ≤ 5000) :
    Calls Try.prog 18 #[.pointer (some ⟨p, 0, none⟩), .pointer (some ⟨q, 0, none⟩)] w (Changed p F (joinS l m) (.tuple #[]) w) := by
  have h0 := h
  obtain ⟨_, _, h3, m1, m2, V, E, h4, h5, h6⟩ := h
  obtain ⟨_, _, k3, o1, o2, V2, E2, k4, k5, k6⟩ := h2
  have hl1 := h5.len h3
  have hl2 := k5.len k3
  refine (sJoinI h4 h5 k4.arg k5.ok (fun b hb hO => hd b (h6 b hO) (k6 b hb)) (by omega)).mono ?_
  rintro e w' ⟨he, n1, n2, V1, E1, hs, hc, hr, _⟩
  exact h0.changed he h6 hs hc (hr.congr fun y => join_memS k5 y) (join_okS h3 k3)

theorem sBaseC (p : Nat) (F : Nat → Prop) (l : List DotN) (w : World) (h : SetAt w p F l) (hn : l.length ≤ 5000) :
    Calls Try.prog 24 #[.pointer (some ⟨p, 0, none⟩)] w (GivesL (baseS l) w) := by
  obtain ⟨h1, h2, h3, m1, m2, V, E, h4, h5, h6⟩ := h
  rw [← h5.base h3]
  exact (sBaseI h4.arg).mono fun e w' ⟨a, c, he, hz, hb⟩ => ⟨a, _, c, he, hz.row encD_len, hb⟩

theorem sBeyondC (p : Nat) (F : Nat → Prop) (l : List DotN) (w : World) (h : SetAt w p F l) (hn : l.length ≤ 5000) :
    Calls Try.prog 25 #[.pointer (some ⟨p, 0, none⟩)] w (GivesL (beyondS l) w) := by
  obtain ⟨h1, h2, h3, m1, m2, V, E, h4, h5, h6⟩ := h
  have hlen := h5.len h3
  rw [← h5.beyond h3 (R := E) fun _ => Iff.rfl]
  exact (sBeyondI h4.arg h5.ok.right h5.ok.nodup (by omega)).mono fun e w' ⟨a, c, he, hz, hb⟩ => ⟨a, _, c, he, hz.row encD_len, hb⟩

theorem lack_same {l V E : List DotN} (h : RepE V E (fun x => x ∈ l)) (hl : OkS l) : lackV V = lackS l := by
  funext b
  have e : getV V b.dev b.inc = upS l b.dev b.inc := by rw [h.base hl, base_get hl.right]
  unfold lackV lackS
  rw [e]
  by_cases c : (upS l b.dev b.inc : Int) < b.seq
  · rw [if_pos c, if_pos (by omega)]
  · rw [if_neg c, if_neg (by omega)]
theorem miss_same {l m V E V2 E2 : List DotN} (h : RepE V E (fun x => x ∈ l)) (hl : OkS l) (h2 : RepE V2 E2 (fun x => x ∈ m)) (hm : OkS m) : missVE V E V2 E2 = missingS l m := by
  unfold missVE missingS
  rw [lack_same h hl, h2.base hm, h2.beyond hm (R := E2) fun _ => Iff.rfl]
  congr 1
  apply List.filter_congr
  intro x _
  rw [h.has]

theorem sMissingC (p q : Nat) (F G : Nat → Prop) (l m : List DotN) (w : World) (h : SetAt w p F l) (h2 : SetAt w q G m) (hn : l.length + m.length ≤ 5000) :
    Calls Try.prog 16 #[.pointer (some ⟨p, 0, none⟩), .pointer (some ⟨q, 0, none⟩)] w (GivesL (missingS l m) w) := by
  obtain ⟨_, _, h3, m1, m2, V, E, h4, h5, h6⟩ := h
  obtain ⟨_, _, k3, o1, o2, V2, E2, k4, k5, k6⟩ := h2
  have hl2 := k5.len k3
  rw [← miss_same h5 h3 k5 k3]
  exact (sMissingI h4.arg h5.ok k4.arg k5.ok (by omega)).mono fun e w' ⟨a, c, he, hz, hb⟩ => ⟨a, _, c, he, hz.row encD_len, hb⟩

theorem base_few {l : List DotN} (hl : OkS l) : (baseS l).length ≤ l.length := by
  have ok := base_ok hl.right
  have h1 : ((baseS l).map fun m => (⟨m.dev, m.inc, 1⟩ : DotN)).Nodup := by
    unfold List.Nodup
    rw [List.pairwise_map]
    refine List.Pairwise.imp (fun {x y} h e => ?_) ok.ord
    have e1 := congrArg DotN.dev e
    have e2 := congrArg DotN.inc e
    simp only at e1 e2
    rw [aheadD_iff] at h
    omega
  have h2 : ∀ x ∈ (baseS l).map fun m => (⟨m.dev, m.inc, 1⟩ : DotN), x ∈ l := fun x hx => by
    obtain ⟨m, hm, rfl⟩ := List.mem_map.1 hx
    have h3 := getV_mem ok.ord hm
    rw [base_get hl.right] at h3
    have h4 := right_range (ok.right m hm)
    have h5 := up_has (l := l) (d := m.dev) (i := m.inc) (k := 0) (by omega)
    exact h5
  have h3 := (OkE.mk nil_ok h1 (fun x hx => hl.right x (h2 x hx))).len h2
  rw [List.length_map] at h3
  exact h3

theorem sPutC (base q p : Nat) (a : Option Addr) (lw : List Int) (F : Nat → Prop) (l : List DotN) (w : World) (hw : Wr 5 base q a lw w) (hlen : lw.length ≤ 1000000) (hbase : base ≤ w.heap.size) (h : SetAt w p F l) (hd : ∀ k, F k → k ≠ q ∧ ¬ At a k) (hn : l.length ≤ 4000) :
    Calls Try.prog 20 #[.pointer (some ⟨p, 0, none⟩), .pointer (some ⟨q, 0, none⟩)] w fun e w' => e = .returned (.tuple #[]) ∧ ∃ a', Wr 5 base q a' (lw ++ packS l) w' ∧ Kept q a w w' ∧ Near a a' w := by
  obtain ⟨h1, h2, h3, m1, m2, V, E, h4, h5, h6⟩ := h
  have hlen2 := h5.len h3
  have hb := base_few h3
  have hV := h5.base h3
  unfold packS
  rw [← hV, ← h5.beyond h3 (R := E) fun _ => Iff.rfl]
  exact sPutI h4.arg h5.ok base q a lw hw hlen hbase (fun k hk c => c.elim (hd k (h6 k hk)).1 (hd k (h6 k hk)).2) (by omega) (by rw [hV]; omega)
/-! A nil set. -/
theorem sNilAdd (w : World) (x : DotN) (hx : FitD x) :
    Calls Try.prog 10 #[.pointer none, .agg #[.int .i64 x.dev, .int .i64 x.inc, .int .i64 x.seq]] w fun e w' => e = .returned (.bool false) ∧ Below w.heap.size w w' := sAddNil w x

theorem sNilHas (w : World) (x : DotN) (hx : FitD x) :
    Calls Try.prog 12 #[.pointer none, .agg #[.int .i64 x.dev, .int .i64 x.inc, .int .i64 x.seq]] w fun e w' => e = .returned (.bool false) ∧ Below w.heap.size w w' := by
  have h := sHasI (nilSet w) x hx
  rw [← nil_rep.has x] at h
  exact h

theorem sNilJoin1 (w : World) (p : Nat) (F : Nat → Prop) (l : List DotN) (h : SetAt w p F l) (hn : l.length ≤ 5000) :
    Calls Try.prog 18 #[.pointer none, .pointer (some ⟨p, 0, none⟩)] w fun e w' => e = .returned (.tuple #[]) ∧ Below w.heap.size w w' := sJoinNil w _

theorem sNilJoin2 (w : World) (p : Nat) (F : Nat → Prop) (l : List DotN) (h : SetAt w p F l) (hn : l.length ≤ 5000) :
    Calls Try.prog 18 #[.pointer (some ⟨p, 0, none⟩), .pointer none] w (Changed p F l (.tuple #[]) w) := by
  have h0 := h
  obtain ⟨_, _, h3, m1, m2, V, E, h4, h5, h6⟩ := h
  have hl1 := h5.len h3
  refine (sJoinI h4 h5 (nilSet w) nil_rep.ok (fun b hb => hb.elim) (by rw [List.length_nil]; omega)).mono ?_
  rintro e w' ⟨he, n1, n2, V1, E1, hs, hc, hr, _⟩
  refine h0.changed he h6 hs hc (hr.congr fun y => ?_) h3
  have h7 := nil_rep.mem y
  unfold InVE at h7
  constructor
  · exact fun c => .inl (.inl c)
  · rintro ((c | c) | c)
    · exact c
    · cases h7.2 (.inl c)
    · cases c

theorem sNilBase (w : World) :
    Calls Try.prog 24 #[.pointer none] w fun e w' => (∃ a c, e = .returned (.slice a 0 c)) ∧ Below w.heap.size w w' :=
  (sBaseI (nilSet w)).mono fun e w' ⟨a, c, he, hz, hb⟩ => ⟨⟨a, c, he⟩, hb⟩

theorem sNilBeyond (w : World) :
    Calls Try.prog 25 #[.pointer none] w fun e w' => (∃ a c, e = .returned (.slice a 0 c)) ∧ Below w.heap.size w w' :=
  (sBeyondI (nilSet w) (fun _ h => by cases h) List.nodup_nil (by decide)).mono fun e w' ⟨a, c, he, hz, hb⟩ => ⟨⟨a, c, he⟩, hb⟩

theorem sNilMissing1 (w : World) (p : Nat) (F : Nat → Prop) (l : List DotN) (h : SetAt w p F l) (hn : l.length ≤ 5000) :
    Calls Try.prog 16 #[.pointer none, .pointer (some ⟨p, 0, none⟩)] w (GivesL (missingS [] l) w) := by
  obtain ⟨_, _, k3, o1, o2, V2, E2, k4, k5, k6⟩ := h
  have hl2 := k5.len k3
  rw [← miss_same nil_rep nil_okS k5 k3]
  exact (sMissingI (nilSet w) nil_rep.ok k4.arg k5.ok (by omega)).mono fun e w' ⟨a, c, he, hz, hb⟩ => ⟨a, _, c, he, hz.row encD_len, hb⟩

theorem sNilMissing2 (w : World) (p : Nat) (F : Nat → Prop) (l : List DotN) (h : SetAt w p F l) (hn : l.length ≤ 5000) :
    Calls Try.prog 16 #[.pointer (some ⟨p, 0, none⟩), .pointer none] w fun e w' => (∃ a c, e = .returned (.slice a 0 c)) ∧ Below w.heap.size w w' := by
  obtain ⟨_, _, h3, m1, m2, V, E, h4, h5, h6⟩ := h
  exact (sMissingI h4.arg h5.ok (nilSet w) nil_rep.ok (by decide)).mono fun e w' ⟨a, c, he, hz, hb⟩ => ⟨⟨a, c, he⟩, hb⟩

theorem sNilPut (base q : Nat) (a : Option Addr) (lw : List Int) (w : World) (hw : Wr 5 base q a lw w) (hlen : lw.length ≤ 1000000) (hbase : base ≤ w.heap.size) :
    Calls Try.prog 20 #[.pointer none, .pointer (some ⟨q, 0, none⟩)] w fun e w' => e = .returned (.tuple #[]) ∧ ∃ a', Wr 5 base q a' (lw ++ [0, 0]) w' ∧ Kept q a w w' ∧ Near a a' w := by
  have h := sPutI (nilSet w) nil_rep.ok base q a lw hw hlen hbase (fun _ h => h.elim) (by decide) (by decide)
  rw [show (packV [] ++ (short (sortD []).length ++ (sortD []).flatMap bytesD)) = [0, 0] from by kernel_rfl] at h
  exact h
end Go.Proofs.Ytlggjijgilcloaa

/- The example that each law of layer 18 asks for; the sets that they make, the program's and the document's side by side. -/
namespace Go.Proofs.Ytlggjijgilcloaa
open Go.RowKit
set_option linter.unusedVariables false

theorem seen_ex1 : addS [] ⟨0, 1, 2⟩ = [⟨0, 1, 2⟩] := by kernel_rfl
theorem seen_ex2 : addS [⟨0, 1, 2⟩] ⟨0, 1, 1⟩ = [⟨0, 1, 1⟩, ⟨0, 1, 2⟩] := by kernel_rfl
theorem seen_ex3 : baseS [⟨0, 1, 1⟩, ⟨0, 1, 2⟩] = [⟨0, 1, 2⟩] := by kernel_rfl
theorem seen_ex4 : beyondS [⟨0, 1, 1⟩, ⟨0, 1, 2⟩] = [] := by kernel_rfl

theorem SetAt.below {w w' : World} {p : Nat} {F : Nat → Prop} {l : List DotN} (h : SetAt w p F l) (hb : Below w.heap.size w w') : SetAt w' p F l :=
  h.keeps (Keeps.new (F := fun _ => False) hb) (fun _ _ h => h)

set_option maxRecDepth 100000 in
theorem awake18C (w : World) : Calls Try.prog 7 #[] w fun e w' => e = .returned (.bool true) ∧ Below w.heap.size w w' := by
  have f3 : FitD ⟨0, 1, 2⟩ := ⟨by unfold is64; decide, by unfold is64; decide, by unfold is64; decide⟩
  have f4 : FitD ⟨0, 1, 1⟩ := ⟨by unfold is64; decide, by unfold is64; decide, by unfold is64; decide⟩
  have HN := fun v => sNewC v
  have HR := fun p F v h => sAddC p F [] ⟨0, 1, 2⟩ v h f3 (by decide)
  have HT := fun p F v h => sAddC p F [⟨0, 1, 2⟩] ⟨0, 1, 1⟩ v h f4 (by decide)
  have HM := fun p F v h => sBaseC p F [⟨0, 1, 1⟩, ⟨0, 1, 2⟩] v h (by decide)
  have HS := fun p F v h => sBeyondC p F [⟨0, 1, 1⟩, ⟨0, 1, 2⟩] v h (by decide)
  simp only [seen_ex1] at HR
  simp only [seen_ex2] at HT
  simp only [seen_ex3] at HM
  simp only [seen_ex4] at HS
  rw [show decide (([] : List DotN).length < [(⟨0, 1, 2⟩ : DotN)].length) = true from rfl] at HR
  rw [show decide ([(⟨0, 1, 2⟩ : DotN)].length < [(⟨0, 1, 1⟩ : DotN), ⟨0, 1, 2⟩].length) = true from rfl] at HT
  unfold Changed at HR HT
  unfold GivesL at HM HS
  clear f3 f4
  go_enter Try.func7, Try.ntmps7
  go_wp2_with (first
    | (go_at_call 8; (with_reducible refine (HN _).mono ?_); rintro e w1 ⟨p, F, rfl, hv1, hF, hx1⟩; have oa := ObjAt.new w1 #[.int .i64 0, .int .i64 1] 24; have ba := below_alloc w1 (.cells #[.int .i64 0, .int .i64 1] 24); have hv2 := hv1.below ba; have u0 := oa.cell 0 rfl; have u1 := oa.cell 1 rfl; have hb2 := hx1.trans (ba.mono hx1.size))
    | (go_at_call 10; (with_reducible refine (HR _ _ _ hv2).mono ?_); rintro e w3 ⟨rfl, F3, hv3, hk3, hn3⟩; have oa3 := oa.keeps hk3 (fun h => absurd (hv1.lt _ h) (Nat.lt_irrefl _)); have hb3 := hb2.trans (hk3.below hb2.size (fun i _ h => hF i h)); have v0 := oa3.cell 0 rfl; have v1 := oa3.cell 1 rfl)
    | (go_at_call 10; (with_reducible refine (HT _ _ _ hv3).mono ?_); rintro e w4 ⟨rfl, F4, hv4, hk4, hn4⟩; have hb4 := hb3.trans (hk4.below hb3.size (fun i _ h => (hn3 i h).elim (hF i) (fun h => Nat.le_trans hb2.size h))))
    | (go_at_call 24; (with_reducible refine (HM _ _ _ hv4).mono ?_); rintro e w5 ⟨a5, n5, c5, rfl, hz5, hx5⟩; have hv5 := hv4.below hx5; have hb5 := hb4.trans (hx5.mono hb4.size); obtain rfl : 1 = n5 := hz5.leq; obtain ⟨x, g, off, hx, rfl, c0, c1, c2⟩ := dot_at hz5 0 (by decide); cases hx; simp only [Nat.zero_mul, Nat.add_zero] at c0 c1 c2)
    | (go_at_call 25; (with_reducible refine (HS _ _ _ hv5).mono ?_); rintro e w6 ⟨a6, n6, c6, rfl, hz6, hx6⟩; obtain rfl : 0 = n6 := hz6.leq; have hb6 := hb5.trans (hx6.mono hb5.size)))
  go_ret
  exact ⟨rfl, hb6⟩

/-- A set of the program's, and dots of the reference's, beside each other. -/
structure StQ (w : World) (p : Nat) (F : Nat → Prop) (a : Option Addr) (n c : Nat) (R R' : List DotN) (v : World) : Prop where
  set : SetAt v p F R
  row : RowOf encD 3 v a n c R'
  off : ∀ k, At a k → ¬ F k
  alt : ∀ k, At a k → k < v.heap.size
  new : ∀ k, F k → w.heap.size ≤ k
  anew : ∀ k, At a k → w.heap.size ≤ k
  hb : Below w.heap.size w v
theorem StQ.below {w v v' : World} {p : Nat} {F : Nat → Prop} {a : Option Addr} {n c : Nat} {R R' : List DotN} (h : StQ w p F a n c R R' v) (hx : Below v.heap.size v v') : StQ w p F a n c R R' v' :=
  ⟨h.set.below hx, h.row.below hx, h.off, fun k hk => Nat.lt_of_lt_of_le (h.alt k hk) hx.size, h.new, h.anew, h.hb.trans (hx.mono h.hb.size)⟩
theorem StQ.rows {w v v' : World} {p : Nat} {F : Nat → Prop} {a b : Option Addr} {n c n' c' : Nat} {R R' S : List DotN} (h : StQ w p F a n c R R' v) (hr : RowOf encD 3 v' b n' c' S) (hat : ∀ k, At b k → At a k ∨ (v.heap.size ≤ k ∧ k < v'.heap.size)) (hx : Below v.heap.size v v') : StQ w p F b n' c' R S v' :=
  ⟨h.set.below hx, hr, fun k hk hF => (hat k hk).elim (fun h1 => h.off k h1 hF) (fun h1 => by have := h.set.lt k hF; omega), fun k hk => (hat k hk).elim (fun h1 => Nat.lt_of_lt_of_le (h.alt k h1) hx.size) (fun h1 => h1.2), h.new, fun k hk => (hat k hk).elim (h.anew k) (fun h1 => Nat.le_trans h.hb.size h1.1), h.hb.trans (hx.mono h.hb.size)⟩
theorem StQ.sets {w v v' : World} {p : Nat} {F F' : Nat → Prop} {a : Option Addr} {n c : Nat} {R R' S : List DotN} (h : StQ w p F a n c R R' v) (hv : SetAt v' p F' S) (hk : Keeps F v v') (hn : ∀ k, F' k → F k ∨ v.heap.size ≤ k) : StQ w p F' a n c S R' v' :=
  ⟨hv, h.row.keeps hk h.off, fun k h1 h2 => (hn k h2).elim (h.off k h1) (fun h3 => by have := h.alt k h1; omega), fun k h1 => Nat.lt_of_lt_of_le (h.alt k h1) hk.size, fun k h1 => (hn k h1).elim (h.new k) (fun h2 => Nat.le_trans h.hb.size h2), h.anew, h.hb.trans (hk.below h.hb.size fun i _ h1 => h.new i h1)⟩

theorem sameMX (a b : Option Addr) (n m c1 c2 : Nat) (L : List DotN) (w : World) (hL : RowOf encD 3 w a n c1 L) (hM : RowOf encD 3 w b m c2 L) :
    Calls Try.prog 30 #[.slice a n c1, .slice b m c2] w fun e w' => e = .returned (.bool true) ∧ Below w.heap.size w w' :=
  (refSameMC a b n m c1 c2 L L w hL hM).mono fun e w' h => ⟨by rw [h.1, sameDs_iff.2 rfl], by obtain ⟨k, rfl⟩ := h.2; exact drawn_below (Below.refl _ _) k⟩
theorem sameDX (a b : Option Addr) (n m c1 c2 : Nat) (L : List DotN) (w : World) (hL : RowOf encD 3 w a n c1 L) (hM : RowOf encD 3 w b m c2 L) :
    Calls Try.prog 15 #[.slice a n c1, .slice b m c2] w fun e w' => e = .returned (.bool true) ∧ Below w.heap.size w w' :=
  (refSameDC a b n m c1 c2 L L w hL hM).mono fun e w' h => ⟨by rw [h.1, sameDs_iff.2 rfl], by obtain ⟨k, rfl⟩ := h.2; exact drawn_below (Below.refl _ _) k⟩

set_option maxRecDepth 100000 in
/-- A set has just those dots. -/
theorem isC (p : Nat) (F : Nat → Prop) (a : Option Addr) (n c : Nat) (l : List DotN) (w : World) (h : SetAt w p F l) (hL : RowOf encD 3 w a n c l) (h9 : n ≤ 4000) :
    Calls Try.prog 11 #[.pointer (some ⟨p, 0, none⟩), .slice a n c] w fun e w' => e = .returned (.bool true) ∧ Below w.heap.size w w' := by
  have hn := hL.leq
  have HB := fun v h => sBaseC p F l v h (by omega)
  have HY := fun v h => sBeyondC p F l v h (by omega)
  have HC := fun v h => refBaseC a n c l v h (by omega)
  have HZ := fun v h => refBeyondC a n c l v h (by omega)
  unfold GivesL at HB HY
  unfold GivesR at HC HZ
  generalize baseS l = B at *
  generalize beyondS l = X at *
  clear hn
  go_enter Try.func11, Try.ntmps11
  go_wp2_with (first
    | (go_at_call 24; (with_reducible refine (HB _ h).mono ?_); rintro e w1 ⟨a1, n1, c1, rfl, hr1, hx⟩; have h := h.below hx; have hL := hL.below hx; have hb := hx; clear hx)
    | (go_at_call 31; (with_reducible refine (HC _ hL).mono ?_); rintro e w2 ⟨a2, n2, c2, rfl, hr2, -, hx⟩; have h := h.below hx; have hL := hL.below hx; have hr1 := hr1.below hx; have hb := hb.trans (hx.mono hb.size); clear hx)
    | (go_at_call 30; (with_reducible refine (sameMX _ _ _ _ _ _ _ _ hr1 hr2).mono ?_); rintro e w3 ⟨rfl, hx⟩; have h := h.below hx; have hL := hL.below hx; have hb := hb.trans (hx.mono hb.size); clear hx)
    | (go_at_call 25; (with_reducible refine (HY _ h).mono ?_); rintro e w4 ⟨a4, n4, c4, rfl, hr4, hx⟩; have hL := hL.below hx; have hb := hb.trans (hx.mono hb.size); clear hx)
    | (go_at_call 32; (with_reducible refine (HZ _ hL).mono ?_); rintro e w5 ⟨a5, n5, c5, rfl, hr5, -, hx⟩; have hr4 := hr4.below hx; have hb := hb.trans (hx.mono hb.size); clear hx)
    | (go_at_call 15; (with_reducible refine (sameDX _ _ _ _ _ _ _ _ hr4 hr5).mono ?_); rintro e w6 ⟨rfl, hx⟩; have hb := hb.trans (hx.mono hb.size); clear hx))
  go_ret
  exact ⟨rfl, hb⟩

def GivesSet (L : List DotN) (w : World) (e : Ending) (w' : World) : Prop :=
  ∃ p F a n c, e = .returned (.tuple #[.pointer (some ⟨p, 0, none⟩), .slice a n c]) ∧ StQ w p F a n c (addsS (L.take 60)) (addsS (L.take 60)) w' ∧ n ≤ 60

set_option maxHeartbeats 2000000 in
set_option maxRecDepth 100000 in
theorem madeSC (a : Option Addr) (n c : Nat) (L : List DotN) (w : World) (hL : RowOf encD 3 w a n c L) (hF : ∀ x ∈ L, FitD x) :
    Calls Try.prog 14 #[.slice a n c] w (GivesSet L w) := by
  have hcm := hL.capm
  have hcl := hL.cle
  have hleq := hL.leq
  unfold maxLen at hcm
  have HL := Lib.hid hL
  have Hn := Lib.hid hleq
  have HN := fun v => sNewC v
  unfold GivesSet
  clear hL hleq
  go_enter Try.func14, Try.ntmps14
  go_wp2_with (go_at_call 8; (with_reducible refine (HN _).mono ?_); rintro e w1 ⟨p, F, rfl, hv1, hF1, hx1⟩; have hz1 := OwnZ.lit encD 3 26 w1; have b1 := below_alloc w1 (.cells #[] 26); have hs1 : w1.heap.size < (w1.alloc (.cells #[] 26)).heap.size := (by simp); have hS1 : StQ w p F (some ⟨w1.heap.size, 0, none⟩) 0 0 [] [] (w1.alloc (.cells #[] 26)) := ⟨hv1.below b1, hz1.row encD_len, fun k h1 h2 => by have e : w1.heap.size = k := at_some.1 h1; have := hv1.lt k h2; omega, fun k h1 => by have e : w1.heap.size = k := at_some.1 h1; omega, hF1, fun k h1 => by have e : w1.heap.size = k := at_some.1 h1; have := hx1.size; omega, hx1.trans (b1.mono hx1.size)⟩)
  clear hv1 hF1 hx1 hz1 b1 hs1
  go_loopw [5, 6] (fun l i wr => ∃ (k n' c' : Nat) (a' : Option Addr) (R : List DotN) (F : Nat → Prop), k ≤ n ∧ k ≤ 60 ∧ n' ≤ k ∧ i = .int .i64 (k : Int) ∧ l = .slice a' n' c' ∧ Hid (addsS (L.take k) = R) ∧ StQ w p F a' n' c' R R wr) (fun _ i _ => n - (intOf i).toNat)
  case atStart => exact ⟨0, 0, 0, _, [], F, Nat.zero_le _, by omega, Nat.le_refl _, rfl, rfl, rfl, hS1⟩
  case round =>
    clear hS1 HN
    obtain ⟨k, n', c', a', R, F, hk, hk6, hn', rfl, rfl, hs, hS⟩ := hrel
    by_cases hlt : k < n
    · have hlt' : (k : Int) < (n : Int) := by omega
      by_cases h60 : k < 60
      · have h60' : (k : Int) < 60 := by omega
        obtain ⟨y, g, off, hy, rfl, d0, d1, d2⟩ := dot_at (HL.out.below hS.hb) k hlt
        have hfy : FitD y := hF y (List.mem_of_getElem? hy)
        have hd := adds_snoc hy
        rw [hs.out] at hd
        have hS0 : ∀ w', Below w.heap.size w w' → w'.cell? ⟨g, off + k * 3, none⟩ = some (.int .i64 y.dev) ∧ w'.cell? ⟨g, off + k * 3 + 1, none⟩ = some (.int .i64 y.inc) ∧ w'.cell? ⟨g, off + k * 3 + 2, none⟩ = some (.int .i64 y.seq) := fun w' h => by
          obtain ⟨y', g', off', e1, e2, e3⟩ := dot_at (HL.out.below h) k hlt
          rw [hy] at e1
          cases e1
          cases e2
          exact e3
        have hRl := hS.row.leq
        have HR := fun v h => sAddC p F R y v h hfy (by omega)
        have HG := fun v h => refAddSC a' n' c' R y v h (by omega)
        unfold Changed at HR
        unfold GivesV1 at HG
        generalize addS R y = R2 at *
        generalize decide (R.length < R2.length) = t at *
        have HD := Lib.hid hd
        clear hd hy hs hfy hRl
        go_wp2_with (first
          | (go_at_call 10; (with_reducible refine (HR _ hS.set).mono ?_); rintro e w3 ⟨rfl, F3, hv3, hk3, hn3⟩; have hS3 := hS.sets hv3 hk3 hn3; obtain ⟨d0, d1, d2⟩ := hS0 _ hS3.hb)
          | (go_at_call 9; (with_reducible refine (HG _ hS3.row).mono ?_); rintro e w4 ⟨a4, n4, c4, rfl, hr4, hn4, hat4, hx4⟩; have hS4 := hS3.rows hr4 hat4 hx4))
        go_roundw
        case rel => exact ⟨k + 1, n4, c4, a4, R2, F3, by omega, by omega, by omega, by go_num, rfl, HD, hS4⟩
        case measure => simp [intOf]; omega
      · obtain rfl : k = 60 := by omega
        go_wp2
        go_ret2
        exact ⟨p, F, a', n', c', rfl, by rw [hs.out]; exact hS, hn'⟩
    · obtain rfl : k = n := by omega
      have E : Hid (addsS (L.take 60) = R) := by
        unfold Hid
        rw [List.take_of_length_le (by rw [Hn.out]; exact hk6), ← hs.out, List.take_of_length_le (by rw [Hn.out]; exact Nat.le_refl _)]
      clear hs
      go_wp2
      go_ret2
      exact ⟨p, F, a', n', c', rfl, by rw [E.out]; exact hS, by omega⟩
end Go.Proofs.Ytlggjijgilcloaa

/- Layer 18's laws, walked: dots added. -/
namespace Go.Proofs.Ytlggjijgilcloaa
open Go.RowKit
set_option linter.unusedVariables false

set_option maxHeartbeats 4000000 in
set_option maxRecDepth 100000 in
theorem seenAdds_walk (a : Option Addr) (n c : Nat) (L : List DotN) (x : DotN) (w : World) (hL : RowOf encD 3 w a n c L) (hF : ∀ x ∈ L, FitD x) (hx : FitD x) :
    Calls Try.prog 3 #[.slice a n c, .agg #[.int .i64 x.dev, .int .i64 x.inc, .int .i64 x.seq]] w fun e w' => e = .returned (.bool true) ∧ Below w.heap.size w w' := by
  have hcm := hL.capm
  have hcl := hL.cle
  have hleq := hL.leq
  unfold maxLen at hcm
  have o1 := ObjAt.new w #[.int .i64 x.dev, .int .i64 x.inc, .int .i64 x.seq] 26
  have b1 := below_alloc w (.cells #[.int .i64 x.dev, .int .i64 x.inc, .int .i64 x.seq] 26)
  have HL := Lib.hid (hL.below b1)
  have Hn := Lib.hid hleq
  have lo := o1.lt
  generalize hw1 : w.alloc (.cells #[.int .i64 x.dev, .int .i64 x.inc, .int .i64 x.seq] 26) = w1 at *
  clear hL hleq
  by_cases h60 : 60 < n
  · have h60' : (60 : Int) < (n : Int) := by omega
    go_enter Try.func3, Try.ntmps3
    go_wp2_with (go_at_call 7; (with_reducible refine (awake18C _).mono ?_); rintro e w9 ⟨rfl, hx9⟩)
    go_ret
    exact ⟨rfl, b1.trans (hx9.mono b1.size)⟩
  have h60' : ¬ (60 : Int) < (n : Int) := by omega
  have HN := fun v => sNewC v
  go_enter Try.func3, Try.ntmps3
  go_wp2_with (go_at_call 8; (with_reducible refine (HN _).mono ?_); rintro e w2 ⟨p, F, rfl, hv1, hF1, hx1⟩; have hz1 := OwnZ.lit encD 3 26 w2; have b2 := below_alloc w2 (.cells #[] 26); have hs1 : w2.heap.size < (w2.alloc (.cells #[] 26)).heap.size := (by simp); have hS1 : StQ w1 p F (some ⟨w2.heap.size, 0, none⟩) 0 0 [] [] (w2.alloc (.cells #[] 26)) := ⟨hv1.below b2, hz1.row encD_len, fun k h1 h2 => by have e : w2.heap.size = k := at_some.1 h1; have := hv1.lt k h2; omega, fun k h1 => by have e : w2.heap.size = k := at_some.1 h1; omega, hF1, fun k h1 => by have e : w2.heap.size = k := at_some.1 h1; have := hx1.size; omega, hx1.trans (b2.mono hx1.size)⟩)
  clear hv1 hF1 hx1 hz1 b2 hs1
  go_loopw [6, 7] (fun l i wr => ∃ (k n' c' : Nat) (a' : Option Addr) (R : List DotN) (F : Nat → Prop), k ≤ n ∧ n' ≤ k ∧ i = .int .i64 (k : Int) ∧ l = .slice a' n' c' ∧ Hid (addsS (L.take k) = R) ∧ StQ w1 p F a' n' c' R R wr) (fun _ i _ => n - (intOf i).toNat)
  case atStart => exact ⟨0, 0, 0, _, [], F, Nat.zero_le _, Nat.le_refl _, rfl, rfl, rfl, hS1⟩
  case round =>
    clear hS1 HN
    obtain ⟨k, n', c', a', R, F, hk, hn', rfl, rfl, hs, hS⟩ := hrel
    by_cases hlt : k < n
    · have hlt' : (k : Int) < (n : Int) := by omega
      obtain ⟨y, g, off, hy, rfl, d0, d1, d2⟩ := dot_at (HL.out.below hS.hb) k hlt
      have hfy : FitD y := hF y (List.mem_of_getElem? hy)
      have hd := adds_snoc hy
      rw [hs.out] at hd
      have hS0 : ∀ w', Below w1.heap.size w1 w' → w'.cell? ⟨g, off + k * 3, none⟩ = some (.int .i64 y.dev) ∧ w'.cell? ⟨g, off + k * 3 + 1, none⟩ = some (.int .i64 y.inc) ∧ w'.cell? ⟨g, off + k * 3 + 2, none⟩ = some (.int .i64 y.seq) := fun w' h => by
        obtain ⟨y', g', off', e1, e2, e3⟩ := dot_at (HL.out.below h) k hlt
        rw [hy] at e1
        cases e1
        cases e2
        exact e3
      have hRl := hS.row.leq
      have HR := fun v h => sAddC p F R y v h hfy (by omega)
      have HG := fun v h => refAddSC a' n' c' R y v h (by omega)
      have HI := fun F a n c v h h1 h9 => isC p F a n c (addS R y) v h h1 h9
      unfold Changed at HR
      unfold GivesV1 at HG
      rw [hRl] at HR
      obtain ⟨N2, hN2⟩ : ∃ N, (addS R y).length = N := ⟨_, rfl⟩
      rw [hN2] at HR
      have HN2 := Lib.hid hN2
      generalize addS R y = R2 at *
      have HD := Lib.hid hd
      clear hd hy hs hfy hRl hN2
      obtain ⟨t, ht, q1, q2⟩ : ∃ t : Bool, decide (n' < N2) = t ∧ decide ((n' : Int) < (N2 : Int)) = t ∧ (t = true ↔ (n' : Int) < (N2 : Int)) := by
        by_cases q : n' < N2
        · exact ⟨true, decide_eq_true q, decide_eq_true (by omega), by simp; omega⟩
        · exact ⟨false, decide_eq_false q, decide_eq_false (by omega), by simp; omega⟩
      rw [ht] at HR
      clear ht
      cases t
      all_goals
        first
          | (have q3 : (n' : Int) < (N2 : Int) := q2.1 rfl)
          | (have q3 : ¬ (n' : Int) < (N2 : Int) := fun h => by cases q2.2 h)
        clear q2 q1
        go_wp2_with (first
          | (go_at_call 9; (with_reducible refine (HG _ hS.row).mono ?_); rintro e w4 ⟨a4, n4, c4, rfl, hr4, hn4, hat4, hx4⟩; have hS4 := hS.rows hr4 hat4 hx4; obtain ⟨d0, d1, d2⟩ := hS0 _ hS4.hb; obtain rfl : N2 = n4 := HN2.out.symm.trans hr4.leq)
          | (go_at_call 10; (with_reducible refine (HR _ hS4.set).mono ?_); rintro e w5 ⟨rfl, F5, hv5, hk5, hn5⟩; have hS5 := hS4.sets hv5 hk5 hn5)
          | (go_at_call 11; (with_reducible refine (HI _ _ _ _ _ hS5.set hS5.row (by omega)).mono ?_); rintro e w6 ⟨rfl, hx6⟩; have hS6 := hS5.below hx6))
        go_roundw
        case rel => exact ⟨k + 1, N2, c4, a4, R2, F5, by omega, by omega, by go_num, rfl, HD, hS6⟩
        case measure => simp [intOf]; omega
    · obtain rfl : k = n := by omega
      have hRl := hS.row.leq
      have hSd := hS.below ((Below.refl wr.heap.size wr).drew)
      have HH := fun v h => sHasC p F R x v h hx (by omega)
      have HK := fun v h => refHasDC a' n' c' R x v h
      have hC0 : ∀ w', Below w1.heap.size w1 w' → w'.cell? ⟨w.heap.size, 0, none⟩ = some (.int .i64 x.dev) ∧ w'.cell? ⟨w.heap.size, 1, none⟩ = some (.int .i64 x.inc) ∧ w'.cell? ⟨w.heap.size, 2, none⟩ = some (.int .i64 x.seq) := fun w' h => by
        have o2 := o1.below h lo
        exact ⟨o2.cell 0 rfl, o2.cell 1 rfl, o2.cell 2 rfl⟩
      have hBW := hSd.hb
      generalize hasD R x = t at *
      clear hs hRl
      have g1 : (t == t) = true := by simp
      go_wp2_with fail
      go_region_held3 (fun w' => w'.cell? ⟨w.heap.size, 0, none⟩ = some (.int .i64 x.dev) ∧ w'.cell? ⟨w.heap.size, 1, none⟩ = some (.int .i64 x.inc) ∧ w'.cell? ⟨w.heap.size, 2, none⟩ = some (.int .i64 x.seq))
        (first | exact hC0 _ hBW)
        (first
          | (go_at_call 12; (with_reducible refine (HH _ hSd.set).mono ?_); rintro e w3 ⟨rfl, hx3⟩; have hSd := hSd.below hx3; have hBW := hSd.hb)
          | (go_at_call 13; (with_reducible refine (HK _ hSd.row).mono ?_); rintro e w3 ⟨rfl, hx3⟩; have hSd := hSd.below hx3; have hBW := hSd.hb)
          | (go_at_call 7; (with_reducible refine (awake18C _).mono ?_); rintro e w3 ⟨rfl, hx3⟩; have hSd := hSd.below hx3; have hBW := hSd.hb))
      all_goals (
        go_wp2
        go_ret
        exact ⟨rfl, b1.trans (hBW.mono b1.size)⟩)
end Go.Proofs.Ytlggjijgilcloaa

/- Layer 18's laws, walked: sets joined, what one has not. -/
namespace Go.Proofs.Ytlggjijgilcloaa
open Go.RowKit
set_option linter.unusedVariables false

/-- Two sets, and two rows of dots. -/
structure StK (w : World) (p1 p2 : Nat) (F1 F2 : Nat → Prop) (a1 : Option Addr) (n1 c1 : Nat) (a2 : Option Addr) (n2 c2 : Nat) (S R1 R2 : List DotN) (v : World) : Prop where
  s : SetAt v p1 F1 S
  t : SetAt v p2 F2 R2
  r1 : RowOf encD 3 v a1 n1 c1 R1
  r2 : RowOf encD 3 v a2 n2 c2 R2
  o12 : ∀ k, F2 k → ¬ F1 k
  oa1 : ∀ k, At a1 k → ¬ F1 k
  oa2 : ∀ k, At a2 k → ¬ F1 k
  new : ∀ k, F1 k → w.heap.size ≤ k
  hb : Below w.heap.size w v
theorem StK.below {w v v' : World} {p1 p2 : Nat} {F1 F2 : Nat → Prop} {a1 : Option Addr} {n1 c1 : Nat} {a2 : Option Addr} {n2 c2 : Nat} {S R1 R2 : List DotN} (h : StK w p1 p2 F1 F2 a1 n1 c1 a2 n2 c2 S R1 R2 v) (hx : Below v.heap.size v v') : StK w p1 p2 F1 F2 a1 n1 c1 a2 n2 c2 S R1 R2 v' :=
  ⟨h.s.below hx, h.t.below hx, h.r1.below hx, h.r2.below hx, h.o12, h.oa1, h.oa2, h.new, h.hb.trans (hx.mono h.hb.size)⟩
theorem StK.of {w v v' : World} {p1 p2 : Nat} {F1 F2 : Nat → Prop} {a1 : Option Addr} {n1 c1 : Nat} {a2 : Option Addr} {n2 c2 : Nat} {R1 R2 : List DotN} (h1 : StQ w p1 F1 a1 n1 c1 R1 R1 v) (h2 : StQ v p2 F2 a2 n2 c2 R2 R2 v') : StK w p1 p2 F1 F2 a1 n1 c1 a2 n2 c2 R1 R1 R2 v' :=
  ⟨h1.set.below h2.hb, h2.set, h1.row.below h2.hb, h2.row, fun k c d => by have := h2.new k c; have := h1.set.lt k d; omega, h1.off, fun k c d => by have := h2.anew k c; have := h1.set.lt k d; omega, h1.new, h1.hb.trans (h2.hb.mono h1.hb.size)⟩
/-- A call that gives nothing that is to be kept apart. -/
structure StK2 (w : World) (p1 p2 : Nat) (F1 F2 : Nat → Prop) (a1 : Option Addr) (n1 c1 : Nat) (a2 : Option Addr) (n2 c2 : Nat) (S R1 R2 : List DotN) (v : World) : Prop where
  s : SetAt v p1 F1 S
  t : SetAt v p2 F2 R2
  r1 : RowOf encD 3 v a1 n1 c1 R1
  r2 : RowOf encD 3 v a2 n2 c2 R2
  hb : Below w.heap.size w v
theorem StK2.below {w v v' : World} {p1 p2 : Nat} {F1 F2 : Nat → Prop} {a1 : Option Addr} {n1 c1 : Nat} {a2 : Option Addr} {n2 c2 : Nat} {S R1 R2 : List DotN} (h : StK2 w p1 p2 F1 F2 a1 n1 c1 a2 n2 c2 S R1 R2 v) (hx : Below v.heap.size v v') : StK2 w p1 p2 F1 F2 a1 n1 c1 a2 n2 c2 S R1 R2 v' :=
  ⟨h.s.below hx, h.t.below hx, h.r1.below hx, h.r2.below hx, h.hb.trans (hx.mono h.hb.size)⟩
theorem StK.changed {w v v' : World} {p1 p2 : Nat} {F1 F2 F3 : Nat → Prop} {a1 : Option Addr} {n1 c1 : Nat} {a2 : Option Addr} {n2 c2 : Nat} {S R1 R2 S2 : List DotN} (h : StK w p1 p2 F1 F2 a1 n1 c1 a2 n2 c2 S R1 R2 v) (hs : SetAt v' p1 F3 S2) (hk : Keeps F1 v v') : StK2 w p1 p2 F3 F2 a1 n1 c1 a2 n2 c2 S2 R1 R2 v' :=
  ⟨hs, h.t.keeps hk h.o12, h.r1.keeps hk h.oa1, h.r2.keeps hk h.oa2, h.hb.trans (hk.below h.hb.size fun i _ d => h.new i d)⟩

set_option maxHeartbeats 8000000 in
set_option maxRecDepth 100000 in
theorem seenJoins_walk (a1 : Option Addr) (n1 c1 : Nat) (L1 : List DotN) (a2 : Option Addr) (n2 c2 : Nat) (L2 : List DotN) (w : World) (hL1 : RowOf encD 3 w a1 n1 c1 L1) (hF1 : ∀ x ∈ L1, FitD x) (hL2 : RowOf encD 3 w a2 n2 c2 L2) (hF2 : ∀ x ∈ L2, FitD x) :
    Calls Try.prog 4 #[.slice a1 n1 c1, .slice a2 n2 c2] w fun e w' => e = .returned (.bool true) ∧ Below w.heap.size w w' := by
  have HM1 := fun v h => madeSC a1 n1 c1 L1 v h hF1
  have HM2 := fun v h => madeSC a2 n2 c2 L2 v h hF2
  have o1 := adds_ok (L1.take 60)
  have o2 := adds_ok (L2.take 60)
  unfold GivesSet at HM1 HM2
  generalize addsS (L1.take 60) = R1 at *
  generalize addsS (L2.take 60) = R2 at *
  have hnone : missingS (joinS R1 R2) R2 = [] := missing_none o2.right fun x hx => by unfold joinS; rw [sortD_mem]; exact List.mem_append_right _ hx
  have hjl := join_lenS R1 R2
  have HMi := fun p q F G l m v h h2 hn => sMissingC p q F G l m v h h2 hn
  have HRm := fun a b n m c1 c2 v h h2 h9 h8 => refMissingC a b n m c1 c2 R1 R2 v h h2 h9 h8
  have HJ := fun p q F G v h h2 hd hn => sJoinC p q F G R1 R2 v h h2 hd hn
  have HSo := fun b m C v h => refSortDC b m C (R1 ++ R2) v h
  have HI := fun p F a n c l v h h1 h9 => isC p F a n c l v h h1 h9
  unfold GivesL at HMi
  unfold GivesR at HRm
  unfold Changed at HJ
  unfold GivesZ at HSo
  rw [show sortD (R1 ++ R2) = joinS R1 R2 from rfl] at HSo
  have HMj := fun p q F G v h h2 hn => HMi p q F G (joinS R1 R2) R2 v h h2 hn
  have HMk := fun p q F G v h h2 hn => HMi p q F G R1 R2 v h h2 hn
  rw [hnone] at HMj
  generalize missingS R1 R2 = MS at *
  generalize joinS R1 R2 = J at *
  obtain ⟨NJ, hNJ⟩ : ∃ N, J.length = N := ⟨_, rfl⟩
  rw [hNJ] at HSo hjl
  have HNJ := Lib.hid hNJ
  obtain ⟨i0, hi, hz0, hz1, hz2⟩ := info_parts infoDot
  clear HMi hnone hNJ
  go_enter Try.func4, Try.ntmps4
  go_wp2_with (first
    | (go_at_call 14; (with_reducible refine (HM1 _ hL1).mono ?_); rintro e w1 ⟨p1, F1, b1, m1, k1, rfl, hS1, hm1⟩; have hl1 := hS1.row.leq; have hL2' := hL2.below hS1.hb)
    | (go_at_call 14; (with_reducible refine (HM2 _ hL2').mono ?_); rintro e w2 ⟨p2, F2, b2, m2, k2, rfl, hS2, hm2⟩; have hl2 := hS2.row.leq; have hS := StK.of hS1 hS2; clear hS1 hS2 hL2')
    | (go_at_call 16; (with_reducible refine (HMk _ _ _ _ _ hS.s hS.t (by omega)).mono ?_); rintro e w3 ⟨a3, n3, c3, rfl, hr3, hx⟩; have hS := hS.below hx; clear hx HMk)
    | (go_at_call 17; (with_reducible refine (HRm _ _ _ _ _ _ _ hS.r1 hS.r2 (by omega) (by omega)).mono ?_); rintro e w4 ⟨a4, n4, c4, rfl, hr4, -, hx⟩; have hS := hS.below hx; have hr3 := hr3.below hx; clear hx)
    | (go_at_call 15; (with_reducible refine (sameDX _ _ _ _ _ _ _ _ hr3 hr4).mono ?_); rintro e w5 ⟨rfl, hx⟩; have hS := hS.below hx; clear hx hr3 hr4)
    | (go_at_call 18; (with_reducible refine (HJ _ _ _ _ _ hS.s hS.t (fun k c d => absurd c (hS.o12 k d)) (by omega)).mono ?_); rintro e w6 ⟨rfl, F6, hs6, hk6, -⟩; have hS6 := hS.changed hs6 hk6; have hO0 := OwnZ.lit encD 3 26 w6; have hb0 := below_alloc w6 (.cells #[] 26); have hS6b := hS6.below hb0; have hw6 : w6.heap.size ≤ (w6.alloc (.cells #[] 26)).heap.size := hb0.size; clear hS hk6 hs6)
    | (at_builtin; refine wpList_append_rows encD_len (by decide) encD_one rfl (.tmp 31) (.tmp 32) 22 rfl 26 i0 (.agg #[.int .i64 0, .int .i64 0, .int .i64 0]) 24 Try.underlying22 hi hz0 hz1 hz2 rfl hO0 rfl hS6b.r1 rfl m1 (by omega) (by unfold maxLen; omega) (by omega) hw6 ?_; intro a7 q7 w7 hO7 hb7 hg7 ha7; have hx7 := hb0.trans hb7; have hS7 := hS6.below hx7)
    | (at_builtin; refine wpList_append_rows encD_len (by decide) encD_one rfl (.tmp 33) (.tmp 34) 22 rfl 26 i0 (.agg #[.int .i64 0, .int .i64 0, .int .i64 0]) 24 Try.underlying22 hi hz0 hz1 hz2 rfl hO7 rfl hS7.r2 rfl (m1 + m2) rfl (by unfold maxLen; omega) (by omega) hx7.size ?_; intro a8 q8 w8 hO8 hb8 hg8 ha8; have hS8 := hS6.below (hx7.trans hb8))
    | (go_at_call 19; (with_reducible refine (HSo _ _ _ _ (hO8.row encD_len) (by omega)).mono ?_); rintro e w9 ⟨a9, c9, rfl, hz9, hx⟩; have hS9 := hS8.below hx; have hr9 := hz9.row encD_len; clear hx)
    | (go_at_call 11; (with_reducible refine (HI _ _ _ _ _ _ _ hS9.s hr9 (by omega)).mono ?_); rintro e w10 ⟨rfl, hx⟩; have hSa := hS9.below hx; clear hx)
    | (go_at_call 11; (with_reducible refine (HI _ _ _ _ _ _ _ hSa.t hSa.r2 (by omega)).mono ?_); rintro e w11 ⟨rfl, hx⟩; have hSb := hSa.below hx; clear hx)
    | (go_at_call 16; (with_reducible refine (HMj _ _ _ _ _ hSb.s hSb.t (by have := HNJ.out; omega)).mono ?_); rintro e w12 ⟨a12, n12, c12, rfl, hr12, hx⟩; obtain rfl : 0 = n12 := hr12.leq; have hSc := hSb.below hx; clear hx hr12)
    | (go_at_call 7; (with_reducible refine (awake18C _).mono ?_); rintro e w13 ⟨rfl, hx⟩; have hb13 := hSc.hb.trans (hx.mono hSc.hb.size)))
  go_ret
  exact ⟨rfl, hb13⟩
end Go.Proofs.Ytlggjijgilcloaa

/- Layer 18's laws, walked: in whatever order dots come. -/
namespace Go.Proofs.Ytlggjijgilcloaa
open Go.RowKit
set_option linter.unusedVariables false

def rotG {α : Type} (L : List α) (N : Nat) : List α := L.drop N ++ L.take N
theorem rotG_len {α : Type} (L : List α) (N : Nat) (h : N ≤ L.length) : (rotG L N).length = L.length := by unfold rotG; rw [List.length_append, List.length_drop, List.length_take]; omega
theorem rotG_at {α : Type} (L : List α) (N i : Nat) (h : N < L.length) (hi : i < L.length) : (rotG L N)[i]? = L[(i + N) % L.length]? := by
  unfold rotG
  by_cases c : i < L.length - N
  · rw [List.getElem?_append_left (by rw [List.length_drop]; exact c), List.getElem?_drop, Nat.mod_eq_of_lt (by omega), Nat.add_comm]
  · rw [List.getElem?_append_right (by rw [List.length_drop]; omega), List.length_drop, List.getElem?_take, if_pos (by omega)]
    congr 1
    rw [Nat.mod_eq_sub_mod (by omega), Nat.mod_eq_of_lt (by omega)]
    omega
theorem rotG_mem {α : Type} (L : List α) (N : Nat) (x : α) : x ∈ (rotG L N).reverse ↔ x ∈ L := by
  unfold rotG
  rw [List.mem_reverse, List.mem_append]
  constructor
  · rintro (h | h)
    · exact List.mem_of_mem_drop h
    · exact List.mem_of_mem_take h
  · intro h
    rw [← List.take_append_drop N L] at h
    exact (List.mem_append.1 h).symm

/-- A set, a row of dots, two writers with the same bytes. -/
structure StT (w : World) (p : Nat) (F : Nat → Prop) (a : Option Addr) (n c : Nat) (R : List DotN) (b3 b4 : Nat) (a3 a4 : Option Addr) (B : List Int) (v : World) : Prop where
  t : SetAt v p F R
  r : RowOf encD 3 v a n c R
  w3 : Wr 5 b3 b3 a3 B v
  w4 : Wr 5 b4 b4 a4 B v
  hb : Below w.heap.size w v
theorem StT.below {w v v' : World} {p : Nat} {F : Nat → Prop} {a : Option Addr} {n c : Nat} {R : List DotN} {b3 b4 : Nat} {a3 a4 : Option Addr} {B : List Int} (h : StT w p F a n c R b3 b4 a3 a4 B v) (hx : Below v.heap.size v v') : StT w p F a n c R b3 b4 a3 a4 B v' :=
  ⟨h.t.below hx, h.r.below hx, h.w3.below hx, h.w4.below hx, h.hb.trans (hx.mono h.hb.size)⟩

theorem packS_len {l : List DotN} (h : ∀ x ∈ l, rightD x = true) (hn : l.length ≤ 4000) : (packS l).length ≤ 10 + 30 * l.length + (10 + 30 * l.length) := by
  have h1 := packs_len (base_ok h).right
  have h2 := packs_len (beyond_right h)
  have h3 := base_len l
  have h4 := beyond_len l
  have h5 := short_ten (baseS l).length (by omega)
  have h6 := short_ten (beyondS l).length (by omega)
  unfold packS packV
  rw [List.length_append, List.length_append, List.length_append]
  omega

set_option maxHeartbeats 8000000 in
set_option maxRecDepth 100000 in
theorem seenTurned_walk (a : Option Addr) (n c : Nat) (L : List DotN) (t : Int) (w : World) (hL : RowOf encD 3 w a n c L) (hF : ∀ x ∈ L, FitD x) (ht : (Lit.int .u8 t).wf = true) :
    Calls Try.prog 5 #[.slice a n c, .int .u8 t] w fun e w' => e = .returned (.bool true) ∧ Below w.heap.size w w' := by
  have hnc := hL.cle
  have hcm := hL.capm
  unfold maxLen at hcm
  rcases Nat.eq_zero_or_pos n with g3 | g3
  · subst g3
    clear hL
    go_enter Try.func5, Try.ntmps5
    go_wp2_with (go_at_call 7; (with_reducible refine (awake18C _).mono ?_); rintro e w2 ⟨rfl, hx⟩)
    go_ret
    exact ⟨rfl, hx⟩
  have g3' : ((n : Int) == 0) = false := by rw [beq_eq_false_iff_ne]; omega
  by_cases h60 : 60 < n
  · have h60' : (60 : Int) < (n : Int) := by omega
    clear hL
    go_enter Try.func5, Try.ntmps5
    go_wp2_with (go_at_call 7; (with_reducible refine (awake18C _).mono ?_); rintro e w2 ⟨rfl, hx⟩)
    go_ret
    exact ⟨rfl, hx⟩
  have h60' : ¬ (60 : Int) < (n : Int) := by omega
  have HLr := Lib.hid hL
  have Hn : Hid (L.length = n) := hL.leq
  obtain ⟨M, rfl, hM⟩ : ∃ M : Nat, t = (M : Int) ∧ M ≤ 255 := by
    have h1 := wfU8 ht
    exact ⟨t.toNat, by omega, by omega⟩
  obtain ⟨N, hN⟩ : ∃ N, M % n = N := ⟨_, rfl⟩
  have hNk : N < n := by rw [← hN]; exact Nat.mod_lt _ g3
  have hN1 : (M : Int).tmod (n : Int) = (N : Int) := by rw [← hN]; exact (Int.ofNat_tmod M n).symm
  have hN2 : (M : Int) % (n : Int) = (N : Int) := by rw [← hN]; rfl
  have hk0 : ¬ (n : Int) = 0 := by omega
  have hrl := rotG_len L N (by rw [Hn.out]; omega)
  rw [Hn.out] at hrl
  obtain ⟨i0, hi, hz0, hz1, hz2⟩ := info_parts infoDot
  have hO0 := OwnZ.lit encD 3 26 w
  have hB0 := below_alloc w (.cells #[] 26)
  have hs0 : ((rotG L N).drop n).reverse = [] := by rw [List.drop_of_length_le (by omega)]; rfl
  rw [← hs0] at hO0
  have HFL := Lib.hid hF
  clear hL hs0 hF hN
  go_enter Try.func5, Try.ntmps5
  go_wp2
  go_loopw [6, 7] (fun m i wr => ∃ (r l : Nat) (b : Option Addr) (C : Nat), r ≤ n ∧ l + r = n ∧ m = .slice b l C ∧ i = .int .i64 ((r : Int) - 1) ∧ OwnZ encD 3 w.heap.size 26 b l C ((rotG L N).drop r).reverse wr ∧ Below w.heap.size w wr) (fun _ i _ => (intOf i + 1).toNat)
  case atStart => exact ⟨n, 0, _, _, Nat.le_refl _, by omega, rfl, by first | rfl | go_num, hO0, hB0⟩
  case round =>
    clear hO0 hB0
    obtain ⟨r, l, b, C, hr, hlr, rfl, rfl, hO, hB⟩ := hrel
    rcases Nat.eq_zero_or_pos r with hr0 | hr0
    · subst hr0
      have hlk : l = n := by omega
      subst hlk
      have e0 : ((0 : Nat) : Int) - 1 = -1 := by decide
      have hMw := hO.row encD_len
      rw [List.drop_zero] at hMw
      have hmem := rotG_mem L N
      have hl2 : (rotG L N).reverse.length = l := by rw [List.length_reverse]; exact hrl
      have HM1 := fun v h => madeSC a l c L v h HFL.out
      have HM2 := fun v h => madeSC b l C (rotG L N).reverse v h (fun x hx => HFL.out x ((hmem x).1 hx))
      have heq : addsS ((rotG L N).reverse.take 60) = addsS (L.take 60) := by
        rw [List.take_of_length_le (by omega), List.take_of_length_le (by rw [Hn.out]; omega)]
        exact adds_turned hmem
      unfold GivesSet at HM1 HM2
      rw [heq] at HM2
      have hok := adds_ok (L.take 60)
      have hRl : (addsS (L.take 60)).length ≤ 60 := by
        have := adds_len (L.take 60)
        rw [List.length_take] at this
        omega
      generalize addsS (L.take 60) = R at *
      generalize (rotG L N).reverse = M2 at *
      have HP := fun base q p a lw F v hw hlen hbase h hd => sPutC base q p a lw F R v hw hlen hbase h hd (by omega)
      have HI := fun p F a n c v h h1 h9 => isC p F a n c R v h h1 h9
      have hpl := packS_len hok.right (by omega)
      have HRP := fun a n c v h (h9 : n ≤ 4000) => refSPutC a n c R v h hok.right h9
      generalize packS R = B at *
      obtain ⟨NB, hNB⟩ : ∃ N, B.length = N := ⟨_, rfl⟩
      rw [hNB] at HRP hpl
      have HBY := fun base p a v hw => wBytesC base p a B NB v hw hNB (by omega)
      have HSAME := fun a b c d v ha hb => sameO B NB hNB a b c d v ha hb (by unfold maxLen; omega)
      unfold GivesOwned at HBY HRP
      have HNB := Lib.hid hNB
      have HB := Lib.hid hB
      clear hO heq hmem hl2 hrl hNB hB
      go_wp2_with (first
        | (go_at_call 14; (with_reducible refine (HM1 _ (HLr.out.below HB.out)).mono ?_); rintro e w1 ⟨p1, F1, b1, m1, k1, rfl, hS1, hm1⟩; have hMw := hMw.below hS1.hb; clear HM1)
        | (go_at_call 14; (with_reducible refine (HM2 _ hMw).mono ?_); rintro e w2 ⟨p2, F2, b2, m2, k2, rfl, hS2, hm2⟩; have s2 := hS1.set.below hS2.hb; have r2 := hS1.row.below hS2.hb; have hb2 := HB.out.trans ((hS1.hb.trans (hS2.hb.mono hS1.hb.size)).mono HB.out.size); have hW3 := wr_new w2 5 44; have x3 := below_alloc w2 (.cells #[.slice none 0 0] 44); have hW4 := wr_new (w2.alloc (.cells #[.slice none 0 0] 44)) 5 44; have x4 := below_alloc (w2.alloc (.cells #[.slice none 0 0] 44)) (.cells #[.slice none 0 0] 44); have s4 := (s2.below x3).below x4; have t4 := (hS2.set.below x3).below x4; have r4 := (r2.below x3).below x4; have hW3 := hW3.below x4; have hb4 := hb2.trans ((x3.trans (x4.mono x3.size)).mono hb2.size); rw [World.size_alloc] at hW4; have z4 : ((w2.alloc (.cells #[.slice none 0 0] 44)).alloc (.cells #[.slice none 0 0] 44)).heap.size = w2.heap.size + 2 := (by simp); have q1 : ∀ k, F1 k → k < w2.heap.size := s2.lt; have q2 : ∀ k, F2 k → k < w2.heap.size := hS2.set.lt; have q3 : ∀ k, At b1 k → k < w2.heap.size := fun k h => Nat.lt_of_lt_of_le (hS1.alt k h) hS2.hb.size; have q4 := hb2.size; generalize hv4 : (w2.alloc (.cells #[.slice none 0 0] 44)).alloc (.cells #[.slice none 0 0] 44) = v4 at *; clear hS1 hS2 s2 r2 hMw HM2 x3 x4)
        | (go_at_call 20; (with_reducible refine (HP w2.heap.size _ _ _ _ _ _ hW3 (by simp) (by omega) s4 (fun k h => ⟨by have := q1 k h; omega, at_none _⟩)).mono ?_); rintro e w5 ⟨rfl, a3, hW3, k3, n3⟩; have K3 := Keeps.ofKept k3; have t5 := t4.keeps K3 (fun k h1 h2 => h2.elim (fun e => by have := q2 k h1; omega) (at_none _)); have r5 := r4.keeps K3 (fun k h1 h2 => h2.elim (fun e => by have := q3 k h1; omega) (at_none _)); have hW4 := hW4.kept k3 (by omega) (Apart.none _) (fun x h => by cases h); have hb5 := hb4.trans (K3.below (B := w.heap.size) hb4.size (fun i _ h => h.elim (fun e => by omega) (fun h => absurd h (at_none _)))); rw [List.nil_append] at hW3; clear t4 r4 s4)
        | (go_at_call 20; (with_reducible refine (HP (w2.heap.size + 1) _ _ _ _ _ _ hW4 (by simp) (by have := K3.size; omega) t5 (fun k h => ⟨by have := q2 k h; omega, at_none _⟩)).mono ?_); rintro e w6 ⟨rfl, a4, hW4, k4, n4⟩; have K4 := Keeps.ofKept k4; have t6 := t5.keeps K4 (fun k h1 h2 => h2.elim (fun e => by have := q2 k h1; omega) (at_none _)); have r6 := r5.keeps K4 (fun k h1 h2 => h2.elim (fun e => by have := q3 k h1; omega) (at_none _)); have hW3 := hW3.kept k4 (by omega) (Apart.none _) (fun x h => ⟨n3 _ (by omega) (Apart.none _) x h, Apart.none _⟩); have hb6 := hb5.trans (K4.below (B := w.heap.size) hb5.size (fun i _ h => h.elim (fun e => by omega) (fun h => absurd h (at_none _)))); rw [List.nil_append] at hW4; have hS : StT w p2 F2 b1 m1 k1 R w2.heap.size (w2.heap.size + 1) a3 a4 B w6 := ⟨t6, r6, hW3, hW4, hb6⟩; clear t5 r5 hb4 hb5 K3 k3 n3 K4 k4 n4 HP)
        | (go_at_call 11; (with_reducible refine (HI _ _ _ _ _ _ hS.t hS.r (by omega)).mono ?_); rintro e w7 ⟨rfl, hx⟩; have hS := hS.below hx; clear hx HI)
        | (go_at_call 22; (with_reducible refine (HBY _ _ _ _ hS.w3).mono ?_); rintro e w8 ⟨a8, c8, rfl, ho8, hx⟩; have hS := hS.below hx; have hr8 := ho8.reads; clear hx ho8)
        | (go_at_call 22; (with_reducible refine (HBY _ _ _ _ hS.w4).mono ?_); rintro e w9 ⟨a9, c9, rfl, ho9, hx⟩; have hS := hS.below hx; have hr8 := hr8.below' hx; have hr9 := ho9.reads; clear hx ho9)
        | (go_at_call 21; (with_reducible refine (HSAME _ _ _ _ _ hr8 hr9).mono ?_); rintro e w10 ⟨rfl, q10, rfl⟩; have hS := hS.below (drawn_below (Below.refl _ _) q10); clear hr8 hr9)
        | (go_at_call 23; (with_reducible refine (HRP _ _ _ _ hS.r (by omega)).mono ?_); rintro e w11 ⟨a11, c11, rfl, ho11, hx⟩; have hS := hS.below hx; have hr8 := hr8.below' hx; have hr9 := ho11.reads; clear hx ho11)
        | (go_at_call 7; (with_reducible refine (awake18C _).mono ?_); rintro e w12 ⟨rfl, hx⟩; have hb12 := hS.hb.trans (hx.mono hS.hb.size)))
      go_ret
      exact ⟨rfl, hb12⟩
    · obtain ⟨s, rfl⟩ : ∃ s, r = s + 1 := ⟨r - 1, by omega⟩
      obtain ⟨R1, hR1⟩ : ∃ R1, s + 1 = R1 := ⟨_, rfl⟩
      have e1 : (R1 : Int) - 1 = (s : Int) := by omega
      obtain ⟨Z, hZ⟩ : ∃ Z, (s + N) % n = Z := ⟨_, rfl⟩
      have hZk : Z < n := by rw [← hZ]; exact Nat.mod_lt _ g3
      obtain ⟨SN, hSN⟩ : ∃ SN, s + N = SN := ⟨_, rfl⟩
      have e2 : (s : Int) + (N : Int) = (SN : Int) := by omega
      rw [hSN] at hZ
      have e3 : (SN : Int).tmod (n : Int) = (Z : Int) := by rw [← hZ]; exact (Int.ofNat_tmod SN n).symm
      have e4 : (SN : Int) % (n : Int) = (Z : Int) := by rw [← hZ]; rfl
      have e5 : (0 : Int) ≤ (s : Int) := by omega
      have e6 : (Z : Int) < (n : Int) := by omega
      have hbs := hB.size
      obtain ⟨x, g1, o1, hx, rfl, c0, c1, c2⟩ := dot_at (HLr.out.below hB) Z hZk
      have hxr : (rotG L N)[s]? = some x := by rw [rotG_at L N s (by rw [Hn.out]; exact hNk) (by rw [Hn.out]; omega), Hn.out, hSN, hZ]; exact hx
      have hst : Hid (((rotG L N).drop s).reverse = ((rotG L N).drop R1).reverse ++ [x]) := by
        unfold Hid
        obtain ⟨h1, h2⟩ := List.getElem?_eq_some_iff.1 hxr
        rw [List.drop_eq_getElem_cons h1, h2, List.reverse_cons, hR1]
      rw [hR1] at hO hlr hr ⊢
      clear hx hxr hZ hSN
      go_wp2_with (at_builtin; refine wpList_append_row1 encD_len (by decide) encD_one rfl (.tmp 36) (.tmp 46) 22 rfl 26 i0 (.agg #[.int .i64 0, .int .i64 0, .int .i64 0]) 24 Try.underlying22 hi hz0 hz1 hz2 rfl hO rfl x rfl rfl (l + 1) rfl (by unfold maxLen; omega) (by omega) hbs ?_; intro a7 q7 w7 hO7 hb7 hg7 ha7)
      go_roundw
      case rel => exact ⟨s, l + 1, a7, q7, by omega, by omega, rfl, by first | rfl | go_num, by rw [hst.out]; exact hO7, hB.trans hb7⟩
      case measure => simp [intOf]; omega
end Go.Proofs.Ytlggjijgilcloaa

/- Layer 18's laws, walked: a nil set. -/
namespace Go.Proofs.Ytlggjijgilcloaa
open Go.RowKit
set_option linter.unusedVariables false

/-- A set, a row of dots, a writer, a box. -/
structure StN (w : World) (p : Nat) (F : Nat → Prop) (a : Option Addr) (n c : Nat) (R : List DotN) (b : Nat) (q : Option Addr) (B : List Int) (x : DotN) (k : Nat) (v : World) : Prop where
  t : SetAt v p F R
  r : RowOf encD 3 v a n c R
  w3 : Wr 5 b b q B v
  o : ObjAt v k [.int .i64 x.dev, .int .i64 x.inc, .int .i64 x.seq]
  hb : Below w.heap.size w v
theorem StN.below {w v v' : World} {p : Nat} {F : Nat → Prop} {a : Option Addr} {n c : Nat} {R : List DotN} {b : Nat} {q : Option Addr} {B : List Int} {x : DotN} {k : Nat} (h : StN w p F a n c R b q B x k v) (hx : Below v.heap.size v v') : StN w p F a n c R b q B x k v' :=
  ⟨h.t.below hx, h.r.below hx, h.w3.below hx, h.o.below hx h.o.lt, h.hb.trans (hx.mono h.hb.size)⟩

set_option maxHeartbeats 8000000 in
set_option maxRecDepth 100000 in
theorem seenNils_walk (a : Option Addr) (n c : Nat) (L : List DotN) (x : DotN) (w : World) (hL : RowOf encD 3 w a n c L) (hF : ∀ x ∈ L, FitD x) (hx : FitD x) :
    Calls Try.prog 6 #[.slice a n c, .agg #[.int .i64 x.dev, .int .i64 x.inc, .int .i64 x.seq]] w fun e w' => e = .returned (.bool true) ∧ Below w.heap.size w w' := by
  have o1 := ObjAt.new w #[.int .i64 x.dev, .int .i64 x.inc, .int .i64 x.seq] 26
  have b1 := below_alloc w (.cells #[.int .i64 x.dev, .int .i64 x.inc, .int .i64 x.seq] 26)
  have hL1 := hL.below b1
  have lo := o1.lt
  generalize hw1 : w.alloc (.cells #[.int .i64 x.dev, .int .i64 x.inc, .int .i64 x.seq] 26) = w1 at *
  have HM1 := fun v h => madeSC a n c L v h hF
  have hRl : (addsS (L.take 60)).length ≤ 60 := by
    have := adds_len (L.take 60)
    rw [List.length_take] at this
    omega
  unfold GivesSet at HM1
  generalize addsS (L.take 60) = R at *
  have HJ1 := fun p F v h => sNilJoin1 v p F R h (by omega)
  have HJ2 := fun p F v h => sNilJoin2 v p F R h (by omega)
  unfold Changed at HJ2
  have HP := fun base q a lw v hw hlen hbase => sNilPut base q a lw v hw hlen hbase
  have HA := fun v => sNilAdd v x hx
  have HH := fun v => sNilHas v x hx
  have HB := fun v => sNilBase v
  have HY := fun v => sNilBeyond v
  have HM2 := fun p F v h => sNilMissing1 v p F R h (by omega)
  have HM3 := fun p F v h => sNilMissing2 v p F R h (by omega)
  have HRm := fun b m c2 v h (h9 : m ≤ 90000) => refMissingC none b 0 m 0 c2 [] R v ((OwnZ.none encD 3 0 26 v).row encD_len) h (by omega) h9
  have HI := fun p F a n c v h h1 h9 => isC p F a n c R v h h1 h9
  have HBY := fun base p a v hw => wBytesC base p a [0, 0] 2 v hw rfl (by decide)
  have HSAME := fun a b c d v ha hb => sameO [0, 0] 2 rfl a b c d v ha hb (by unfold maxLen; omega)
  unfold GivesL at HM2
  unfold GivesR at HRm
  unfold GivesOwned at HBY
  generalize missingS [] R = MS at *
  clear hL
  go_enter Try.func6, Try.ntmps6
  go_wp2_with (first
    | (go_at_call 14; (with_reducible refine (HM1 _ hL1).mono ?_); rintro e w2 ⟨p2, F2, b2, m2, k2, rfl, hS2, hm2⟩; have t2 := hS2.set; have r2 := hS2.row; have q3 := hS2.alt; have q7 := hS2.off; have q8 := hS2.new; have o2 := o1.below hS2.hb lo; have hb2 := b1.trans (hS2.hb.mono b1.size); clear hS2 HM1)
    | (go_at_call 18; (with_reducible refine (HJ1 _ _ _ t2).mono ?_); rintro e w3 ⟨rfl, hx3⟩; have t3 := t2.below hx3; have r3 := r2.below hx3; have o3 := o2.below hx3 o2.lt; have hb3 := hb2.trans (hx3.mono hb2.size); have z3 := hx3.size; clear hx3 HJ1 t2 r2 o2)
    | (go_at_call 18; (with_reducible refine (HJ2 _ _ _ t3).mono ?_); rintro e w4 ⟨rfl, F4, t4, hx4, n4⟩; have r4 := r3.keeps hx4 q7; have o4 := o3.keeps hx4 (fun h => by have := q8 _ h; have := b1.size; omega); have hb4 := hb3.trans (hx4.below hb3.size (fun k _ h => Nat.le_trans b1.size (q8 k h))); have z4 := hx4.size; clear hx4 n4 HJ2 t3 r3 o3; have q2 : ∀ k, F4 k → k < w4.heap.size := t4.lt; have q4 := o4.lt; have hW := wr_new w4 5 44; have x5 := below_alloc w4 (.cells #[.slice none 0 0] 44); have t5 := t4.below x5; have r5 := r4.below x5; have o5 := o4.below x5 o4.lt; have hb5 := hb4.trans (x5.mono hb4.size); have z5 := x5.size; have z6 := hb4.size; generalize hv5 : w4.alloc (.cells #[.slice none 0 0] 44) = v5 at *; clear t4 r4 o4 x5)
    | (go_at_call 20; (with_reducible refine (HP _ _ _ _ _ hW (by simp) z5).mono ?_); rintro e w6 ⟨rfl, a6, hW6, k6, n6⟩; have K6 := Keeps.ofKept k6; rw [List.nil_append] at hW6; have hS : StN w p2 F4 b2 m2 k2 R w4.heap.size a6 [0, 0] x w.heap.size w6 := ⟨t5.keeps K6 (fun k h1 h2 => h2.elim (fun e => by have := q2 k h1; omega) (at_none _)), r5.keeps K6 (fun k h1 h2 => h2.elim (fun e => by have := q3 k h1; omega) (at_none _)), hW6, o5.keeps K6 (fun h2 => h2.elim (fun e => by omega) (at_none _)), hb5.trans (K6.below (B := w.heap.size) hb5.size (fun i _ h => h.elim (fun e => by omega) (fun h => absurd h (at_none _))))⟩; have d0 := hS.o.cell 0 rfl; have d1 := hS.o.cell 1 rfl; have d2 := hS.o.cell 2 rfl; clear t5 r5 o5 hW hW6 K6 k6 n6 HP)
    | (go_at_call 10; (with_reducible refine (HA _).mono ?_); rintro e w7 ⟨rfl, hx⟩; have hS := hS.below hx; have d0 := hS.o.cell 0 rfl; have d1 := hS.o.cell 1 rfl; have d2 := hS.o.cell 2 rfl; clear hx HA)
    | (go_at_call 12; (with_reducible refine (HH _).mono ?_); rintro e w8 ⟨rfl, hx⟩; have hS := hS.below hx; clear hx HH)
    | (go_at_call 24; (with_reducible refine (HB _).mono ?_); rintro e w9 ⟨⟨a9, c9, rfl⟩, hx⟩; have hS := hS.below hx; clear hx HB)
    | (go_at_call 25; (with_reducible refine (HY _).mono ?_); rintro e w10 ⟨⟨a10, c10, rfl⟩, hx⟩; have hS := hS.below hx; clear hx HY)
    | (go_at_call 16; (with_reducible refine (HM2 _ _ _ hS.t).mono ?_); rintro e w11 ⟨a11, n11, c11, rfl, hr11, hx⟩; have hS := hS.below hx; clear hx HM2)
    | (go_at_call 17; (with_reducible refine (HRm _ _ _ _ hS.r (by omega)).mono ?_); rintro e w12 ⟨a12, n12, c12, rfl, hr12, -, hx⟩; have hS := hS.below hx; have hr11 := hr11.below hx; clear hx HRm)
    | (go_at_call 15; (with_reducible refine (sameDX _ _ _ _ _ _ _ _ hr11 hr12).mono ?_); rintro e w13 ⟨rfl, hx⟩; have hS := hS.below hx; clear hx hr11 hr12)
    | (go_at_call 16; (with_reducible refine (HM3 _ _ _ hS.t).mono ?_); rintro e w14 ⟨⟨a14, c14, rfl⟩, hx⟩; have hS := hS.below hx; clear hx HM3)
    | (go_at_call 22; (with_reducible refine (HBY _ _ _ _ hS.w3).mono ?_); rintro e w15 ⟨a15, c15, rfl, ho15, hx⟩; have hS := hS.below hx; have y15 := below_alloc w15 (.cells #[.int .u8 0, .int .u8 0] 5); have hr15 := ho15.reads.below' y15; have hr16 := reads_new w15 [.int .u8 0, .int .u8 0] 5; have hS := hS.below y15; clear hx ho15 y15)
    | (go_at_call 21; (with_reducible refine (HSAME _ _ _ _ _ hr15 hr16).mono ?_); rintro e w17 ⟨rfl, q17, rfl⟩; have hS := hS.below (drawn_below (Below.refl _ _) q17); clear hr15 hr16)
    | (go_at_call 11; (with_reducible refine (HI _ _ _ _ _ _ hS.t hS.r (by omega)).mono ?_); rintro e w18 ⟨rfl, hx⟩; have hS := hS.below hx; clear hx HI)
    | (go_at_call 7; (with_reducible refine (awake18C _).mono ?_); rintro e w19 ⟨rfl, hx⟩; have hb19 := hS.hb.trans (hx.mono hS.hb.size)))
  go_ret
  exact ⟨rfl, hb19⟩
end Go.Proofs.Ytlggjijgilcloaa
