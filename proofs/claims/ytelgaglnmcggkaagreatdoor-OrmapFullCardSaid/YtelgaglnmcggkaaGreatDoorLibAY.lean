/- Contracts and plain words that the laws' proofs stand on, put together. -/
import Derived.Test.YtelgaglnmcggkaaGreatDoorLibAV
import Derived.Test.YtelgaglnmcggkaaGreatDoorOrRef14
import Derived.Test.YtelgaglnmcggkaaGreatDoorLibAA
import Derived.Test.YtelgaglnmcggkaaGreatDoorLibAJ
import Derived.Test.YtelgaglnmcggkaaGreatDoorLibAR
import Derived.Maps.Views
import Derived.Test.YtelgaglnmcggkaaGreatDoorVecTake
import Derived.Test.YtelgaglnmcggkaaGreatDoorLibAS
import Derived.Test.YtelgaglnmcggkaaGreatDoorLibAX
import Derived.Test.YtelgaglnmcggkaaGreatDoorEvRight
import Derived.Test.YtelgaglnmcggkaaGreatDoorLibAU
import Derived.Sort.MapsRangeIn
import Derived.Test.YtelgaglnmcggkaaGreatDoorDotRef2
/- What a map of any steps tells of itself is loaded as it is; what is applied twice. Plain, over what the reference loads. -/
namespace Go.Proofs.YtelgaglnmcggkaaGreatDoor
open Go.RowKit
set_option linter.unusedVariables false
set_option linter.unusedSimpArgs false

/-- A map as steps make it. -/
structure OkMs (m : MapN) : Prop where
  ok : OkMp m
  right : ∀ e ∈ m.kept, rightE e = true
  dead : SortedD m.dead
  rdead : ∀ d ∈ m.dead, rightD d = true
theorem okMs_none : OkMs MapN.none := ⟨okMp_none, fun e h => (by cases h), List.Pairwise.nil, fun d h => (by cases h)⟩
theorem right_overE {e : EventN} (h : rightE e = true) : ∀ x ∈ e.over, rightD x = true := by
  unfold rightE at h
  simp only [Bool.and_eq_true] at h
  intro x hx
  obtain ⟨i, hi, rfl⟩ := List.mem_iff_getElem.1 hx
  have := List.all_eq_true.1 h.2.1 i (List.mem_range.2 hi)
  unfold okO at this
  simp only [Bool.and_eq_true] at this
  have h1 := this.1
  rwa [List.getD_eq_getElem?_getD, List.getElem?_eq_getElem hi, Option.getD_some] at h1
theorem apply_oks {m : MapN} (e : EventN) (h : OkMs m) (hn : m.kept.length < 2048) : OkMs (applyM m e).1 := by
  rw [apply_is e hn]
  split
  · rename_i ht
    refine ⟨put_ok h.ok ht, fun y hy => ?_, sortD_sorted _, fun d hd => ?_⟩
    · rcases (insE_mem _ _ _).1 hy with rfl | hy
      · exact ht.1
      · exact h.right y hy
    · rcases List.mem_append.1 ((sortD_mem _ _).1 hd) with hd | hd
      · exact h.rdead d hd
      · exact right_overE ht.1 d hd
  · exact h
theorem forget_oks {m : MapN} (d : DotN) (h : OkMs m) : OkMs (forgetM m d).1 ∧ (forgetM m d).1.kept.length ≤ m.kept.length := by
  unfold forgetM
  split
  · exact ⟨h, Nat.le_refl _⟩
  · split
    · exact ⟨h, Nat.le_refl _⟩
    · have hs := List.eraseIdx_sublist m.kept (findE m.kept d)
      exact ⟨⟨⟨h.ok.ctx, List.Pairwise.sublist hs h.ok.kept, fun e he => h.ok.dots e (hs.subset he)⟩, fun e he => h.right e (hs.subset he), h.dead, h.rdead⟩, hs.length_le⟩
theorem bare_right {e : EventN} (h : rightE e = true) (hk : e.kind = 1) : rightE { e with over := [] } = true := by
  unfold rightE headE kindE at h ⊢
  rw [if_pos hk] at h
  rw [if_pos (show ({ e with over := [] } : EventN).kind = 1 from hk)]
  simp only [Bool.and_eq_true, decide_eq_true_eq] at h ⊢
  exact ⟨⟨h.1.1, h.1.2.1, h.1.2.2.1, Nat.zero_le _⟩, rfl, h.2.2⟩
theorem pairwise_set {α : Type} {R : α → α → Prop} : ∀ {l : List α} {i : Nat} {x y : α}, l.Pairwise R → l[i]? = some x → (∀ z, R z x → R z y) → (∀ z, R x z → R y z) → (l.set i y).Pairwise R
  | [], i, x, y, _, h, _, _ => by cases h
  | a :: t, 0, x, y, h, hi, _, h2 => by
    cases hi
    obtain ⟨h3, h4⟩ := List.pairwise_cons.1 h
    exact List.pairwise_cons.2 ⟨fun z hz => h2 z (h3 z hz), h4⟩
  | a :: t, i + 1, x, y, h, hi, h1, h2 => by
    obtain ⟨h3, h4⟩ := List.pairwise_cons.1 h
    rw [List.getElem?_cons_succ] at hi
    rw [List.set_cons_succ]
    refine List.pairwise_cons.2 ⟨fun z hz => ?_, pairwise_set h4 hi h1 h2⟩
    rcases List.mem_or_eq_of_mem_set hz with hz | rfl
    · exact h3 z hz
    · exact h1 a (h3 x (List.mem_of_getElem? hi))
theorem bare_oks {m : MapN} (d : DotN) (h : OkMs m) : OkMs (bareM m d).1 ∧ (bareM m d).1.kept.length ≤ m.kept.length := by
  unfold bareM
  split
  · exact ⟨h, Nat.le_refl _⟩
  · rename_i e he
    have hm := List.mem_of_getElem? he
    split
    · rename_i hk
      refine ⟨⟨⟨h.ok.ctx, pairwise_set h.ok.kept he (fun z hz => hz) (fun z hz => hz), fun y hy => ?_⟩, fun y hy => ?_, h.dead, h.rdead⟩, Nat.le_of_eq (List.length_set ..)⟩
      · rcases List.mem_or_eq_of_mem_set hy with hy | rfl
        · exact h.ok.dots y hy
        · exact h.ok.dots e hm
      · rcases List.mem_or_eq_of_mem_set hy with hy | rfl
        · exact h.right y hy
        · exact bare_right (h.right e hm) hk.1
    · exact ⟨h, Nat.le_refl _⟩
theorem clear_oks {m : MapN} (d : DotN) (h : OkMs m) : OkMs (clearM m d).1 ∧ (clearM m d).1.kept.length ≤ m.kept.length := by
  unfold clearM
  split
  · exact ⟨⟨⟨h.ok.ctx, h.ok.kept, h.ok.dots⟩, h.right, List.Pairwise.filter _ h.dead, fun x hx => h.rdead x (List.mem_filter.1 hx).1⟩, Nat.le_refl _⟩
  · exact ⟨h, Nat.le_refl _⟩

theorem keptF_zero (c : List DotN) : ∀ (L : List EventN) (pr : Option DotN), SortedE L → (∀ e ∈ L, rightE e = true ∧ hasV c e.dot = true) → (∀ z, pr = some z → ∀ e ∈ L, lessD z e.dot = true) → keptF c pr L = 0
  | [], _, _, _, _ => rfl
  | e :: t, pr, hs, hr, hp => by
    obtain ⟨h1, h2⟩ := List.pairwise_cons.1 hs
    have he := hr e (List.mem_cons_self ..)
    unfold keptF
    rw [if_neg (by rw [he.1]; exact Bool.noConfusion), if_neg (fun c => ?_), if_neg (by rw [he.2]; exact Bool.noConfusion)]
    · exact keptF_zero _ t _ h2 (fun y hy => hr y (List.mem_cons_of_mem _ hy)) fun z hz y hy => by cases hz; exact h1 y hy
    · cases pr with
      | none => cases c
      | some z =>
        rw [Option.map_some, hp z rfl e (List.mem_cons_self ..)] at c
        cases c
theorem deadF_zero : ∀ (L : List DotN) (pr : Option DotN), SortedD L → (∀ d ∈ L, rightD d = true) → (∀ z, pr = some z → ∀ d ∈ L, lessD z d = true) → deadF pr L = 0
  | [], _, _, _, _ => rfl
  | d :: t, pr, hs, hr, hp => by
    obtain ⟨h1, h2⟩ := List.pairwise_cons.1 hs
    unfold deadF
    rw [if_neg (by rw [hr d (List.mem_cons_self ..)]; exact Bool.noConfusion), if_neg (fun c => ?_)]
    · exact deadF_zero t _ h2 (fun y hy => hr y (List.mem_cons_of_mem _ hy)) fun z hz y hy => by cases hz; exact h1 y hy
    · cases pr with
      | none => cases c
      | some z =>
        rw [Option.map_some, hp z rfl d (List.mem_cons_self ..)] at c
        cases c
theorem chkF_zero : ∀ (L : List DotN) (pr : Option DotN), OrdV L → (∀ d ∈ L, rightD d = true) → (∀ z, pr = some z → ∀ d ∈ L, aheadD z d = true) → chkF pr L = 0
  | [], _, _, _, _ => rfl
  | d :: t, pr, hs, hr, hp => by
    obtain ⟨h1, h2⟩ := List.pairwise_cons.1 hs
    unfold chkF
    rw [if_neg (by rw [hr d (List.mem_cons_self ..)]; exact Bool.noConfusion), if_neg (fun c => ?_)]
    · exact chkF_zero t _ h2 (fun y hy => hr y (List.mem_cons_of_mem _ hy)) fun z hz y hy => by cases hz; exact h1 y hy
    · cases pr with
      | none => cases c
      | some z =>
        rw [Option.map_some, hp z rfl d (List.mem_cons_self ..)] at c
        cases c
/-- A map of steps is loaded. -/
theorem load_zero {m : MapN} (h : OkMs m) (h1 : m.ctx.length ≤ 4096) (h2 : m.kept.length ≤ 2048) (h3 : m.dead.length ≤ 65536) : loadM m = 0 := by
  unfold loadM
  have e1 : checkV m.ctx = 0 := by
    unfold checkV
    rw [if_neg (by omega)]
    exact chkF_zero _ _ h.ok.ctx.ord h.ok.ctx.right fun z hz => by cases hz
  have e2 : keptF m.ctx none m.kept = 0 := keptF_zero _ _ _ h.ok.kept (fun e he => ⟨h.right e he, by
    unfold hasV
    rw [right_dotE (h.right e he), Bool.true_and, decide_eq_true_iff]
    exact h.ok.dots e he⟩) fun z hz => by cases hz
  rw [e1, if_neg (fun c => c rfl), if_neg (by omega), e2, if_neg (fun c => c rfl)]
  exact deadF_zero _ _ h.dead h.rdead fun z hz => by cases hz

end Go.Proofs.YtelgaglnmcggkaaGreatDoor

/- The alive Puts of each key, and what each change of a map does to them. Plain. No program in it. -/
namespace Go.Proofs.YtelgaglnmcggkaaGreatDoor
open Go.RowKit
set_option linter.unusedVariables false
set_option linter.unusedSimpArgs false

/-- A cookie's key. -/
abbrev KeyT := List UInt8 × List UInt8 × List UInt8
def kOf (x : ItemL) : KeyT := (x.name, x.dom, x.path)
theorem sameKey_iff {a b : ItemL} : sameKey a b = true ↔ kOf a = kOf b := by
  unfold sameKey kOf
  simp only [Bool.and_eq_true, beq_iff_eq, Prod.mk.injEq]
/-- Is a kept event an alive Put? -/
def aliveB (D : List DotN) (e : EventN) : Bool := e.kind == 1 && !hasD D e.dot
theorem alive_is (m : MapN) : aliveM m = m.kept.filter (aliveB m.dead) := rfl
/-- The dots of a key's alive Puts. -/
def dotsK (K : List EventN) (D : List DotN) (k : KeyT) : List DotN := (K.filter fun e => aliveB D e && decide (kOf e.item = k)).map (·.dot)
theorem keyM_is (m : MapN) (x : ItemL) : (keyM m x).map (·.dot) = dotsK m.kept m.dead (kOf x) := by
  unfold keyM dotsK
  rw [alive_is, List.filter_filter]
  congr 1
  refine List.filter_congr fun e _ => ?_
  rw [Bool.and_comm]
  congr 1
  rw [Bool.eq_iff_iff, decide_eq_true_eq]
  exact sameKey_iff
theorem mem_dotsK {K : List EventN} {D : List DotN} {k : KeyT} {d : DotN} : d ∈ dotsK K D k ↔ ∃ e ∈ K, e.dot = d ∧ aliveB D e = true ∧ kOf e.item = k := by
  unfold dotsK
  rw [List.mem_map]
  constructor
  · rintro ⟨e, he, rfl⟩
    obtain ⟨h1, h2⟩ := List.mem_filter.1 he
    rw [Bool.and_eq_true, decide_eq_true_eq] at h2
    exact ⟨e, h1, rfl, h2.1, h2.2⟩
  · rintro ⟨e, h1, rfl, h2, h3⟩
    exact ⟨e, List.mem_filter.2 ⟨h1, by rw [h2, decide_eq_true h3]; rfl⟩, rfl⟩
theorem sortedE_dots {K : List EventN} (h : SortedE K) : SortedD (K.map (·.dot)) := List.pairwise_map.2 h
theorem dotsK_sorted {K : List EventN} (h : SortedE K) (D : List DotN) (k : KeyT) : SortedD (dotsK K D k) :=
  List.pairwise_map.2 (List.Pairwise.sublist List.filter_sublist h)
theorem sortedD_nodup {l : List DotN} (h : SortedD l) : l.Nodup := List.Pairwise.imp (fun {x y} hxy e => by subst e; rw [lessD_irrefl] at hxy; cases hxy) h
theorem dotsK_nodup {K : List EventN} (h : SortedE K) (D : List DotN) (k : KeyT) : (dotsK K D k).Nodup := sortedD_nodup (dotsK_sorted h D k)
theorem one_dot {K : List EventN} (h : SortedE K) {e f : EventN} (he : e ∈ K) (hf : f ∈ K) (hd : e.dot = f.dot) : e = f := by
  have hn := sortedD_nodup (sortedE_dots h)
  obtain ⟨i, hi, rfl⟩ := List.mem_iff_getElem.1 he
  obtain ⟨j, hj, rfl⟩ := List.mem_iff_getElem.1 hf
  have e1 : (K.map (·.dot))[i]'(by simpa using hi) = (K.map (·.dot))[j]'(by simpa using hj) := by simpa using hd
  have := (List.getElem_inj hn).1 e1
  subst this
  rfl
theorem dotsK_few (K : List EventN) (D : List DotN) (k : KeyT) : (dotsK K D k).length ≤ K.length := by
  unfold dotsK
  rw [List.length_map]
  exact List.length_filter_le _ _

theorem insE_perm (K : List EventN) (e : EventN) : (insE K e).Perm (e :: K) := by
  unfold insE
  refine List.perm_middle.trans ?_
  rw [List.take_append_drop]
/-- An event more. -/
theorem dotsK_put (K : List EventN) (D : List DotN) (e : EventN) (k : KeyT) : (dotsK (insE K e) D k).Perm (if aliveB D e = true ∧ kOf e.item = k then e.dot :: dotsK K D k else dotsK K D k) := by
  unfold dotsK
  have h := ((insE_perm K e).filter fun e => aliveB D e && decide (kOf e.item = k)).map (·.dot)
  rw [List.filter_cons] at h
  by_cases c : aliveB D e = true ∧ kOf e.item = k
  · rw [if_pos c]
    rw [if_pos (by rw [c.1, decide_eq_true c.2]; rfl), List.map_cons] at h
    exact h
  · rw [if_neg c]
    rw [if_neg (by rw [Bool.and_eq_true, decide_eq_true_eq]; exact c)] at h
    exact h
/-- A dot that is dead now. -/
theorem dotsK_kill (K : List EventN) {D D' : List DotN} {d : DotN} (hD : ∀ y, hasD D' y = (hasD D y || sameD y d)) (k : KeyT) : dotsK K D' k = (dotsK K D k).filter fun y => !sameD y d := by
  unfold dotsK
  induction K with
  | nil => rfl
  | cons e t ih =>
    rw [List.filter_cons, List.filter_cons]
    have h1 : aliveB D' e = (aliveB D e && !sameD e.dot d) := by
      unfold aliveB
      rw [hD]
      cases e.kind == 1 <;> cases hasD D e.dot <;> cases sameD e.dot d <;> rfl
    rw [h1]
    cases h2 : aliveB D e with
    | false => simpa using ih
    | true =>
      cases h3 : decide (kOf e.item = k) with
      | false => simpa using ih
      | true =>
        cases h4 : sameD e.dot d with
        | true =>
          simp only [Bool.not_true, Bool.and_false, Bool.false_and, Bool.false_eq_true, if_false, Bool.and_self, if_true, List.map_cons, List.filter_cons, h4]
          exact ih
        | false =>
          simp only [Bool.not_false, Bool.and_self, if_true, List.map_cons, List.filter_cons, h4]
          rw [ih]
/-- Where no event of the dot is alive, nothing changes. -/
theorem dotsK_out {K : List EventN} {D : List DotN} {d : DotN} {k : KeyT} (h : d ∉ dotsK K D k) : (dotsK K D k).filter (fun y => !sameD y d) = dotsK K D k :=
  List.filter_eq_self.2 fun y hy => by
    rw [Bool.not_eq_true', Bool.eq_false_iff]
    intro c
    exact h (sameD_iff.1 c ▸ hy)
theorem filter_erase {α : Type} {p : α → Bool} : ∀ {l : List α} {i : Nat} {x : α}, l[i]? = some x → p x = false → (l.eraseIdx i).filter p = l.filter p
  | [], i, x, h, _ => by cases h
  | a :: t, 0, x, h, hp => by
    cases h
    rw [List.eraseIdx_zero, List.tail_cons, List.filter_cons, if_neg (by rw [hp]; decide)]
  | a :: t, i + 1, x, h, hp => by
    rw [List.getElem?_cons_succ] at h
    rw [List.eraseIdx_cons_succ, List.filter_cons, List.filter_cons, filter_erase h hp]
theorem dotsK_forget {K : List EventN} {D : List DotN} {i : Nat} {e : EventN} (h : K[i]? = some e) (ha : aliveB D e = false) (k : KeyT) : dotsK (K.eraseIdx i) D k = dotsK K D k := by
  unfold dotsK
  rw [filter_erase h (by rw [ha]; rfl)]
theorem map_set {α β : Type} {f : α → β} {p : α → Bool} : ∀ {l : List α} {i : Nat} {x y : α}, l[i]? = some x → p y = p x → f y = f x → ((l.set i y).filter p).map f = (l.filter p).map f
  | [], i, x, y, h, _, _ => by cases h
  | a :: t, 0, x, y, h, hp, hf => by
    cases h
    rw [List.set_cons_zero, List.filter_cons, List.filter_cons, hp]
    split
    · rw [List.map_cons, List.map_cons, hf]
    · rfl
  | a :: t, i + 1, x, y, h, hp, hf => by
    rw [List.getElem?_cons_succ] at h
    rw [List.set_cons_succ, List.filter_cons, List.filter_cons]
    have ih := map_set (f := f) (p := p) (l := t) h hp hf
    split
    · rw [List.map_cons, List.map_cons, ih]
    · exact ih
theorem dotsK_bare {K : List EventN} {D : List DotN} {i : Nat} {e : EventN} (h : K[i]? = some e) (k : KeyT) : dotsK (K.set i { e with over := [] }) D k = dotsK K D k :=
  map_set h rfl rfl
theorem out_hasD (E : List DotN) (x y : DotN) : hasD (E.filter fun z => !sameD z x) y = (hasD E y && !sameD y x) := by
  rw [Bool.eq_iff_iff, hasD_iff, List.mem_filter, Bool.and_eq_true, hasD_iff]
theorem dotsK_clear {K : List EventN} {D : List DotN} {d : DotN} (h : ∀ e ∈ K, e.dot ≠ d) (k : KeyT) : dotsK K (D.filter fun y => !sameD y d) k = dotsK K D k := by
  unfold dotsK
  congr 1
  refine List.filter_congr fun e he => ?_
  have h1 : hasD (D.filter fun y => !sameD y d) e.dot = hasD D e.dot := by
    rw [out_hasD, Bool.eq_false_iff.2 fun c => h e he (sameD_iff.1 c)]
    cases hasD D e.dot <;> rfl
  unfold aliveB
  rw [h1]

/-- What a set of dots holds. -/
structure SetD (D : DataW Unit) (E : List DotN) : Prop where
  size : Go.Maps.size D = E.length
  has : ∀ x, FitD x → Go.Maps.has D (keyD x) = hasD E x
theorem SetD.empty : SetD (.map []) [] := ⟨rfl, fun _ _ => rfl⟩
theorem hasD_same {E E' : List DotN} (h : ∀ x, x ∈ E ↔ x ∈ E') (x : DotN) : hasD E x = hasD E' x := by
  rw [Bool.eq_iff_iff, hasD_iff, hasD_iff]
  exact h x
theorem SetD.perm {D : DataW Unit} {E E' : List DotN} (h : SetD D E) (hp : E.Perm E') : SetD D E' :=
  ⟨h.size.trans hp.length_eq, fun x hx => (h.has x hx).trans (hasD_same (fun y => hp.mem_iff) x)⟩
theorem SetD.put {D : DataW Unit} {E : List DotN} (h : SetD D E) (hT : Go.Maps.Tidy D) {x : DotN} (hx : FitD x) (hn : x ∉ E) : SetD (D.put (keyD x) (.agg [])) (x :: E) := by
  refine ⟨?_, fun y hy => ?_⟩
  · rw [Go.Maps.size_put hT, h.has x hx, hasD_no.2 hn, if_neg (by decide), h.size, List.length_cons]
  · by_cases e : y = x
    · subst e
      rw [Go.Maps.has_put_same hT.isMap (keyedDot.key (key_dot hy)), hasD_iff.2 List.mem_cons_self]
    · rw [Go.Maps.has_put_other (fun c => e (keyD_inj hy hx c)), h.has y hy, Bool.eq_iff_iff, hasD_iff, hasD_iff, List.mem_cons]
      exact ⟨.inr, fun c => c.resolve_left e⟩
theorem SetD.again {D : DataW Unit} {E : List DotN} (h : SetD D E) (hT : Go.Maps.Tidy D) {x : DotN} (hx : FitD x) (hm : x ∈ E) : SetD (D.put (keyD x) (.agg [])) E := by
  refine ⟨?_, fun y hy => ?_⟩
  · rw [Go.Maps.size_put hT, h.has x hx, hasD_iff.2 hm, if_pos rfl, h.size]
  · by_cases e : y = x
    · subst e
      rw [Go.Maps.has_put_same hT.isMap (keyedDot.key (key_dot hy)), hasD_iff.2 hm]
    · rw [Go.Maps.has_put_other (fun c => e (keyD_inj hy hx c)), h.has y hy]
theorem SetD.del {D : DataW Unit} {E : List DotN} (h : SetD D E) (hT : Go.Maps.Tidy D) (hE : E.Nodup) {x : DotN} (hx : FitD x) : SetD (D.del (keyD x)) (E.filter fun z => !sameD z x) := by
  refine ⟨?_, fun y hy => ?_⟩
  · have h1 := Go.Maps.size_del (k := keyD x) hT
    rw [h.has x hx, h.size] at h1
    by_cases hm : x ∈ E
    · have h2 := filter_out hE hm
      rw [hasD_iff.2 hm, if_pos rfl] at h1
      omega
    · rw [hasD_no.2 hm, if_neg (by decide)] at h1
      rw [List.filter_eq_self.2 fun y hy => by
        rw [Bool.not_eq_true', Bool.eq_false_iff]
        intro c
        exact hm (sameD_iff.1 c ▸ hy)]
      omega
  · rw [out_hasD, ← h.has y hy]
    by_cases e : y = x
    · subst e
      rw [Go.Maps.has_del_same, sameD_iff.2 rfl, Bool.not_true, Bool.and_false]
    · rw [Go.Maps.has_del_other (fun c => e (keyD_inj hy hx c)), Bool.eq_false_iff.2 fun c => e (sameD_iff.1 c), Bool.not_false, Bool.and_true]

/-- The kept event of a dot. -/
def lookR (rs : List EvR) (d : DotN) : Option EvR := rs.find? fun r => sameD r.e.dot d
theorem lookR_some {rs : List EvR} {d : DotN} {r : EvR} (h : lookR rs d = some r) : r ∈ rs ∧ r.e.dot = d :=
  ⟨List.mem_of_find?_eq_some h, sameD_iff.1 (List.find?_some (p := fun q : EvR => sameD q.e.dot d) h)⟩
theorem lookR_none {rs : List EvR} {d : DotN} (h : lookR rs d = none) : ∀ r ∈ rs, r.e.dot ≠ d := fun r hr c => by
  have := List.find?_eq_none.1 h r hr
  exact this (sameD_iff.2 c)
theorem lookR_mem {rs : List EvR} (hs : SortedE (rs.map (·.e))) {r : EvR} (hr : r ∈ rs) : lookR rs r.e.dot = some r := by
  cases h : lookR rs r.e.dot with
  | none => exact absurd rfl (lookR_none h r hr)
  | some q =>
    obtain ⟨h1, h2⟩ := lookR_some h
    have hn := sortedD_nodup (sortedE_dots hs)
    rw [List.map_map] at hn
    obtain ⟨i, hi, rfl⟩ := List.mem_iff_getElem.1 h1
    obtain ⟨j, hj, rfl⟩ := List.mem_iff_getElem.1 hr
    have e1 : (rs.map ((fun x : EventN => x.dot) ∘ fun x : EvR => x.e))[i]'(by simpa using hi) = (rs.map ((fun x : EventN => x.dot) ∘ fun x : EvR => x.e))[j]'(by simpa using hj) := by simpa using h2
    have := (List.getElem_inj hn).1 e1
    subst this
    rfl
/-- Two rows of kept events that hold the same: one look-up. -/
theorem lookR_same {rs qs : List EvR} (hs : SortedE (qs.map (·.e))) (h : ∀ r, r ∈ rs ↔ r ∈ qs) (d : DotN) : lookR rs d = lookR qs d := by
  cases h1 : lookR rs d with
  | none =>
    cases h2 : lookR qs d with
    | none => rfl
    | some q => exact absurd (lookR_some h2).2 (lookR_none h1 q ((h q).2 (lookR_some h2).1))
  | some r =>
    obtain ⟨e1, rfl⟩ := lookR_some h1
    exact (lookR_mem hs ((h r).1 e1)).symm
theorem find_look {rs : List EvR} (hs : SortedE (rs.map (·.e))) (d : DotN) : (rs.map (·.e))[findE (rs.map (·.e)) d]? = (lookR rs d).map (·.e) := by
  cases h : lookR rs d with
  | none =>
    rw [List.getElem?_eq_none]
    · rfl
    · unfold findE
      rw [List.findIdx_eq_length.2 fun e he => ?_]
      · exact Nat.le_refl _
      · obtain ⟨r, hr, rfl⟩ := List.mem_map.1 he
        exact Bool.eq_false_iff.2 fun c => lookR_none h r hr (sameD_iff.1 c)
  | some r =>
    obtain ⟨hr, rfl⟩ := lookR_some h
    have hm : r.e ∈ rs.map (·.e) := List.mem_map.2 ⟨r, hr, rfl⟩
    have hlt : findE (rs.map (·.e)) r.e.dot < (rs.map (·.e)).length := List.findIdx_lt_length_of_exists ⟨r.e, hm, sameD_iff.2 rfl⟩
    rw [List.getElem?_eq_getElem hlt]
    have h1 : sameD ((rs.map (fun x : EvR => x.e))[findE (rs.map (fun x : EvR => x.e)) r.e.dot]'hlt).dot r.e.dot = true := List.findIdx_getElem (w := hlt)
    exact congrArg Option.some (one_dot hs (List.getElem_mem hlt) hm (sameD_iff.1 h1))

/-- What a map of events holds. -/
structure KeptD (D : DataW Value) (rs : List EvR) : Prop where
  size : Go.Maps.size D = rs.length
  at_ : ∀ d, FitD d → HeldAt D (keyD d) ((lookR rs d).map fun r => .agg (encE r).toArray)
theorem KeptD.empty : KeptD (.map []) [] := ⟨rfl, fun _ _ => HeldAt.empty _⟩
theorem KeptD.put {D : DataW Value} {rs : List EvR} (h : KeptD D rs) (hT : Go.Maps.Tidy D) {r : EvR} (hx : FitD r.e.dot) (hn : ∀ q ∈ rs, q.e.dot ≠ r.e.dot) (hs : SortedE ((insR rs r).map (·.e))) : KeptD (D.put (keyD r.e.dot) (.held (.agg (encE r).toArray))) (insR rs r) := by
  have h0 := h.at_ _ hx
  have hno : lookR rs r.e.dot = none := by
    cases e : lookR rs r.e.dot with
    | none => rfl
    | some q => exact absurd (lookR_some e).2 (hn q (lookR_some e).1)
  rw [hno] at h0
  have hmem : ∀ q, q ∈ insR rs r ↔ q = r ∨ q ∈ rs := fun q => by
    unfold insR
    rw [List.mem_append, List.mem_cons]
    constructor
    · rintro (c | c | c)
      · exact .inr (List.mem_of_mem_take c)
      · exact .inl c
      · exact .inr (List.mem_of_mem_drop c)
    · rintro (c | c)
      · exact .inr (.inl c)
      · rw [← List.take_append_drop (frontR rs r.e.dot) rs, List.mem_append] at c
        exact c.imp id .inr
  refine ⟨?_, fun d hd => ?_⟩
  · have h1 := h0.has
    rw [Go.Maps.size_put hT, h1, if_neg (by simp), h.size, insR_len]
  · by_cases e : d = r.e.dot
    · subst e
      rw [lookR_mem hs ((hmem r).2 (.inl rfl))]
      exact HeldAt.put hT.isMap (keyedDot.key (key_dot hd)) _
    · have e1 : lookR (insR rs r) d = lookR rs d := by
        cases h1 : lookR (insR rs r) d with
        | none =>
          cases h2 : lookR rs d with
          | none => rfl
          | some q => exact absurd (lookR_some h2).2 (lookR_none h1 q ((hmem q).2 (.inr (lookR_some h2).1)))
        | some q =>
          obtain ⟨h3, h4⟩ := lookR_some h1
          rcases (hmem q).1 h3 with rfl | h5
          · exact absurd h4.symm e
          · cases h2 : lookR rs d with
            | none => exact absurd h4 (lookR_none h2 q h5)
            | some p =>
              obtain ⟨h6, h7⟩ := lookR_some h2
              have h8 := lookR_mem hs h3
              have h9 := lookR_mem hs ((hmem p).2 (.inr h6))
              rw [h4] at h8
              rw [h7] at h9
              rw [h8] at h9
              cases h9
              rfl
      rw [e1]
      exact (h.at_ d hd).other (fun c => e (keyD_inj hd hx c)) _
theorem KeptD.forget {D : DataW Value} {rs : List EvR} (h : KeptD D rs) (hT : Go.Maps.Tidy D) (hs : SortedE (rs.map (·.e))) {i : Nat} {r : EvR} (hi : rs[i]? = some r) (hx : FitD r.e.dot) : KeptD (D.del (keyD r.e.dot)) (rs.eraseIdx i) := by
  have hr : r ∈ rs := List.mem_of_getElem? hi
  have h0 := h.at_ _ hx
  rw [lookR_mem hs hr] at h0
  have hd0 := sortedD_nodup (sortedE_dots hs)
  rw [List.map_map] at hd0
  have hlt := (List.getElem?_eq_some_iff.1 hi).1
  refine ⟨?_, fun d hd => ?_⟩
  · have h1 := Go.Maps.size_del (k := keyD r.e.dot) hT
    have h2 := h0.has
    rw [h2, h.size] at h1
    rw [List.length_eraseIdx, if_pos hlt]
    simp at h1
    omega
  · by_cases e : d = r.e.dot
    · subst e
      have e1 : lookR (rs.eraseIdx i) r.e.dot = none := by
        cases h1 : lookR (rs.eraseIdx i) r.e.dot with
        | none => rfl
        | some q =>
          obtain ⟨h3, h4⟩ := lookR_some h1
          obtain ⟨j, hj1, hj2, rfl⟩ := List.mem_eraseIdx_iff_getElem.1 h3
          exfalso
          have e2 : (rs.map ((fun x : EventN => x.dot) ∘ fun x : EvR => x.e))[j]'(by simpa using hj1) = (rs.map ((fun x : EventN => x.dot) ∘ fun x : EvR => x.e))[i]'(by simpa using hlt) := by
            have e3 := (List.getElem?_eq_some_iff.1 hi).2
            simp only [List.getElem_map, Function.comp_apply, e3]
            exact h4
          exact hj2 ((List.getElem_inj hd0).1 e2)
      rw [e1]
      exact HeldAt.gone
    · have e1 : lookR (rs.eraseIdx i) d = lookR rs d := by
        unfold lookR
        have h3 : ∀ (l : List EvR) (i : Nat), l[i]? = some r → (l.eraseIdx i).find? (fun r => sameD r.e.dot d) = l.find? fun r => sameD r.e.dot d := by
          intro l
          induction l with
          | nil => intro i h; cases h
          | cons a t ih =>
            intro i h
            cases i with
            | zero =>
              cases h
              rw [List.eraseIdx_zero, List.tail_cons, List.find?_cons, Bool.eq_false_iff.2 fun c => e (sameD_iff.1 c).symm]
            | succ i =>
              rw [List.getElem?_cons_succ] at h
              rw [List.eraseIdx_cons_succ, List.find?_cons, List.find?_cons, ih i h]
        exact h3 rs i hi
      rw [e1]
      exact (h.at_ d hd).but (fun c => e (keyD_inj hd hx c))
theorem KeptD.bare {D : DataW Value} {rs : List EvR} (h : KeptD D rs) (hT : Go.Maps.Tidy D) (hs : SortedE (rs.map (·.e))) {i : Nat} {r q : EvR} (hi : rs[i]? = some r) (hx : FitD r.e.dot) (hq : q.e.dot = r.e.dot) : KeptD (D.put (keyD r.e.dot) (.held (.agg (encE q).toArray))) (rs.set i q) := by
  have hr : r ∈ rs := List.mem_of_getElem? hi
  have h0 := h.at_ _ hx
  rw [lookR_mem hs hr] at h0
  have hlk : ∀ d, lookR (rs.set i q) d = if sameD d r.e.dot = true then some q else lookR rs d := by
    intro d
    have hd0 := sortedD_nodup (sortedE_dots hs)
    rw [List.map_map] at hd0
    unfold lookR
    clear hs h h0 hr
    induction rs generalizing i with
    | nil => cases hi
    | cons a t ih =>
      rw [List.map_cons, List.nodup_cons] at hd0
      cases i with
      | zero =>
        cases hi
        rw [List.set_cons_zero, List.find?_cons, List.find?_cons, hq]
        by_cases e : d = r.e.dot
        · rw [if_pos (sameD_iff.2 e), sameD_iff.2 e.symm]
        · rw [if_neg (fun c => e (sameD_iff.1 c)), Bool.eq_false_iff.2 fun c => e (sameD_iff.1 c).symm]
      | succ i =>
        rw [List.getElem?_cons_succ] at hi
        rw [List.set_cons_succ, List.find?_cons, List.find?_cons, ih hi hd0.2]
        cases hc : sameD a.e.dot d with
        | false => rfl
        | true =>
          have hne : ¬ sameD d r.e.dot = true := fun c => hd0.1 (List.mem_map.2 ⟨r, List.mem_of_getElem? hi, ((sameD_iff.1 hc).trans (sameD_iff.1 c)).symm⟩)
          exact (if_neg hne).symm
  refine ⟨?_, fun d hd => ?_⟩
  · have h2 := h0.has
    rw [Go.Maps.size_put hT, h2, if_pos (by simp), h.size, List.length_set]
  · rw [hlk]
    by_cases e : d = r.e.dot
    · subst e
      rw [if_pos (sameD_iff.2 rfl)]
      exact HeldAt.put hT.isMap (keyedDot.key (key_dot hd)) _
    · rw [if_neg (fun c => e (sameD_iff.1 c))]
      exact (h.at_ d hd).other (fun c => e (keyD_inj hd hx c)) _
end Go.Proofs.YtelgaglnmcggkaaGreatDoor

/- Maps of any steps, in plain words. No program in it. -/
namespace Go.Proofs.YtelgaglnmcggkaaGreatDoor
set_option linter.unusedVariables false
set_option linter.unusedSimpArgs false

def stepM (m : MapN) (s : StepR) : MapN :=
  if s.kind = 1 then (applyM m s.r.e).1 else if s.kind = 2 then (forgetM m s.r.e.dot).1 else if s.kind = 3 then (bareM m s.r.e.dot).1 else if s.kind = 4 then (clearM m s.r.e.dot).1 else m
def stepsM (m : MapN) (l : List StepR) : MapN := l.foldl stepM m
theorem steps_snoc {P : List StepR} {k : Nat} {s : StepR} (m : MapN) (h : P[k]? = some s) : stepsM m (P.take (k + 1)) = stepM (stepsM m (P.take k)) s := by
  have hk := (List.getElem?_eq_some_iff.1 h).1
  have e := (List.getElem?_eq_some_iff.1 h).2
  rw [List.take_succ_eq_append_getElem hk, e]
  unfold stepsM
  rw [List.foldl_append]
  rfl

/-- A map of few light events. -/
structure GoodM (m : MapN) (k : Nat) : Prop where
  oks : OkMs m
  ctx : m.ctx.length ≤ k
  kept : m.kept.length ≤ k
  dead : m.dead.length ≤ 100 * k
  light : ∀ e ∈ m.kept, lightE e = true
theorem GoodM.none : GoodM MapN.none 0 := ⟨okMs_none, Nat.le_refl _, Nat.le_refl _, Nat.le_refl _, fun e h => absurd h List.not_mem_nil⟩
theorem GoodM.more {m : MapN} {k j : Nat} (h : GoodM m k) (hj : k ≤ j) : GoodM m j := ⟨h.oks, Nat.le_trans h.ctx hj, Nat.le_trans h.kept hj, Nat.le_trans h.dead (Nat.mul_le_mul_left _ hj), h.light⟩
theorem GoodM.apply {m : MapN} {k : Nat} (h : GoodM m k) (e : EventN) (hk : k < 2048) (hl : lightE e = true) : GoodM (applyM m e).1 (k + 1) := by
  have hkl := h.kept
  have h1 := apply_oks e h.oks (by omega)
  have h2 := apply_is (m := m) e (by omega)
  rw [h2] at h1 ⊢
  split
  · rename_i ht
    rw [if_pos ht] at h1
    have h3 := h.ctx; have h5 := h.dead
    have h6 := sortD_len (m.dead ++ e.over)
    rw [List.length_append] at h6
    have ho : e.over.length ≤ 100 := by
      unfold lightE at hl
      simp only [Bool.and_eq_true, decide_eq_true_eq] at hl
      exact hl.1
    refine ⟨h1, ?_, ?_, ?_, ?_⟩
    · have := set_few h.oks.ok.ctx e.dot
      show (setV m.ctx e.dot).length ≤ k + 1
      omega
    · show (insE m.kept e).length ≤ k + 1
      rw [insE_length]
      omega
    · show (sortD (m.dead ++ e.over)).length ≤ 100 * (k + 1)
      omega
    · intro x hx
      rcases (insE_mem _ _ _).1 hx with rfl | hx
      · exact hl
      · exact h.light x hx
  · exact h.more (Nat.le_succ _)
theorem forget_in {m : MapN} (d : DotN) : (∀ e ∈ (forgetM m d).1.kept, e ∈ m.kept) ∧ (forgetM m d).1.ctx = m.ctx ∧ (forgetM m d).1.dead = m.dead := by
  unfold forgetM
  split
  · exact ⟨fun _ h => h, rfl, rfl⟩
  · split
    · exact ⟨fun _ h => h, rfl, rfl⟩
    · exact ⟨fun e he => (List.eraseIdx_sublist m.kept (findE m.kept d)).subset he, rfl, rfl⟩
theorem bare_in {m : MapN} (d : DotN) : (∀ e ∈ (bareM m d).1.kept, e ∈ m.kept ∨ ∃ x ∈ m.kept, e = { x with over := [] }) ∧ (bareM m d).1.ctx = m.ctx ∧ (bareM m d).1.dead = m.dead := by
  unfold bareM
  split
  · exact ⟨fun _ h => .inl h, rfl, rfl⟩
  · rename_i x hx
    split
    · refine ⟨fun e he => ?_, rfl, rfl⟩
      rcases List.mem_or_eq_of_mem_set he with he | rfl
      · exact .inl he
      · exact .inr ⟨x, List.mem_of_getElem? hx, rfl⟩
    · exact ⟨fun _ h => .inl h, rfl, rfl⟩
theorem clear_in {m : MapN} (d : DotN) : (clearM m d).1.kept = m.kept ∧ (clearM m d).1.ctx = m.ctx ∧ (clearM m d).1.dead.length ≤ m.dead.length := by
  unfold clearM
  split
  · exact ⟨rfl, rfl, List.length_filter_le _ _⟩
  · exact ⟨rfl, rfl, Nat.le_refl _⟩
theorem light_bare {e : EventN} (h : lightE e = true) : lightE { e with over := [] } = true := by
  unfold lightE at *
  simp only [Bool.and_eq_true, decide_eq_true_eq] at *
  exact ⟨Nat.zero_le _, h.2⟩
theorem GoodM.step {m : MapN} {k : Nat} (h : GoodM m k) (s : StepR) (hk : k < 2048) (hl : lightE s.r.e = true) : GoodM (stepM m s) (k + 1) := by
  unfold stepM
  split
  · exact h.apply _ hk hl
  split
  · obtain ⟨h1, h2, h3⟩ := forget_in (m := m) s.r.e.dot
    obtain ⟨h4, h5⟩ := forget_oks s.r.e.dot h.oks
    exact (show GoodM _ k from ⟨h4, by rw [h2]; exact h.ctx, Nat.le_trans h5 h.kept, by rw [h3]; exact h.dead, fun e he => h.light e (h1 e he)⟩).more (Nat.le_succ _)
  split
  · obtain ⟨h1, h2, h3⟩ := bare_in (m := m) s.r.e.dot
    obtain ⟨h4, h5⟩ := bare_oks s.r.e.dot h.oks
    exact (show GoodM _ k from ⟨h4, by rw [h2]; exact h.ctx, Nat.le_trans h5 h.kept, by rw [h3]; exact h.dead, fun e he => (h1 e he).elim (h.light e) (fun ⟨x, hx, hex⟩ => by rw [hex]; exact light_bare (h.light x hx))⟩).more (Nat.le_succ _)
  split
  · obtain ⟨h1, h2, h3⟩ := clear_in (m := m) s.r.e.dot
    obtain ⟨h4, h5⟩ := clear_oks s.r.e.dot h.oks
    exact (show GoodM _ k from ⟨h4, by rw [h2]; exact h.ctx, Nat.le_trans h5 h.kept, Nat.le_trans h3 h.dead, fun e he => h.light e (by rw [h1] at he; exact he)⟩).more (Nat.le_succ _)
  · exact h.more (Nat.le_succ _)
theorem GoodM.steps (l : List StepR) : ∀ (m : MapN) (k : Nat), GoodM m k → k + l.length ≤ 2048 → (∀ s ∈ l, lightE s.r.e = true) → GoodM (stepsM m l) (k + l.length) := by
  induction l with
  | nil => exact fun m k h _ _ => h
  | cons s t ih =>
    intro m k h hk hl
    rw [List.length_cons] at hk ⊢
    have h1 := ih (stepM m s) (k + 1) (h.step s (by omega) (hl s (List.mem_cons_self ..))) (by omega) (fun x hx => hl x (List.mem_cons_of_mem _ hx))
    rw [show k + (t.length + 1) = k + 1 + t.length by omega]
    exact h1
theorem GoodM.runs (l : List EventN) : ∀ (m : MapN) (k : Nat), GoodM m k → k + l.length ≤ 2048 → (∀ e ∈ l, lightE e = true) → GoodM (runM m l) (k + l.length) := by
  induction l with
  | nil => exact fun m k h _ _ => h
  | cons e t ih =>
    intro m k h hk hl
    rw [List.length_cons] at hk ⊢
    have h1 := ih (applyM m e).1 (k + 1) (h.apply e (by omega) (hl e (List.mem_cons_self ..))) (by omega) (fun x hx => hl x (List.mem_cons_of_mem _ hx))
    rw [show k + (t.length + 1) = k + 1 + t.length by omega]
    exact h1
theorem GoodM.load {m : MapN} {k : Nat} (h : GoodM m k) (hk : k ≤ 600) : loadM m = 0 := by
  have h1 := h.ctx; have h2 := h.kept; have h3 := h.dead
  exact load_zero h.oks (by omega) (by omega) (by omega)
end Go.Proofs.YtelgaglnmcggkaaGreatDoor

/- A map of events behind a pointer: what lies where; what stays when something else is changed. -/
namespace Go.Proofs.YtelgaglnmcggkaaGreatDoor
open Go.RowKit
set_option linter.unusedVariables false
set_option linter.unusedSimpArgs false

/-- The maps that a map of events has: its actors' numbers, its events, its dead dots, its keys, the alive dots of each key. -/
inductive Slot where
  | ctx
  | kept
  | dead
  | keys
  | of (k : KeyT)
abbrev Slots := Slot → Option Nat
theorem slots_put (B : Slots) (i : Slot) (b : Option Nat) : ∃ B' : Slots, B' i = b ∧ ∀ j, j ≠ i → B' j = B j := by
  classical
  exact ⟨fun j => if j = i then b else B j, by simp, fun j h => by simp [h]⟩

/-- A map of dots, nil or not. -/
def SetIs (w : World) (o : Option Nat) (E : List DotN) : Prop :=
  (o = none ∧ E = []) ∨ ∃ b n D, o = some b ∧ w.ownsMap Tryz.prog 35 unitElem b n D ∧ SetD D E
/-- A map of events. -/
def KeptIs (w : World) (o : Option Nat) (rs : List EvR) : Prop :=
  (o = none ∧ rs = []) ∨ ∃ b n D, o = some b ∧ w.ownsMap Tryz.prog 35 heldElem b n D ∧ KeptD D rs
def fitK (k : KeyT) : Prop := k.1.length ≤ maxLen ∧ k.2.1.length ≤ maxLen ∧ k.2.2.length ≤ maxLen
def keyT (k : KeyT) : Lit := keyK k.1 k.2.1 k.2.2
theorem keyT_inj {a b : KeyT} (ha : fitK a) (hb : fitK b) (h : keyT a = keyT b) : a = b := by
  obtain ⟨h1, h2, h3⟩ := keyK_inj ha.1 ha.2.1 ha.2.2 hb.1 hb.2.1 hb.2.2 h
  exact Prod.ext h1 (Prod.ext h2 h3)
/-- The map of keys. -/
structure KeysD (D : DataW Value) (B : Slots) : Prop where
  at_ : ∀ k, fitK k → HeldAt D (keyT k) ((B (.of k)).map fun q => .map (some q))
  all : ∃ Ks : List KeyT, Ks.Nodup ∧ (∀ k, k ∈ Ks ↔ fitK k ∧ B (.of k) ≠ none) ∧ Go.Maps.size D = Ks.length
theorem KeysD.congr {D : DataW Value} {B B' : Slots} (h : KeysD D B) (hB : ∀ k, B' (.of k) = B (.of k)) : KeysD D B' := by
  refine ⟨fun k hk => by rw [hB]; exact h.at_ k hk, ?_⟩
  obtain ⟨Ks, h1, h2, h3⟩ := h.all
  exact ⟨Ks, h1, fun k => by rw [hB]; exact h2 k, h3⟩
theorem KeysD.empty {B : Slots} (h0 : ∀ k, B (.of k) = none) : KeysD (.map []) B :=
  ⟨fun k _ => by rw [h0]; exact HeldAt.empty _, [], List.nodup_nil, fun k => by rw [h0]; simp, rfl⟩
theorem key_lit {k : KeyT} (hk : fitK k) : WideAt.IsKeyLit (keyT k) := keyedKey.key (key_key hk.1 hk.2.1 hk.2.2)
theorem KeysD.put {D : DataW Value} {B B' : Slots} (h : KeysD D B) (hT : Go.Maps.Tidy D) {k : KeyT} (hk : fitK k) (b : Nat) (hb : B' (.of k) = some b) (ho : ∀ k', k' ≠ k → B' (.of k') = B (.of k')) : KeysD (D.put (keyT k) (.held (.map (some b)))) B' := by
  obtain ⟨Ks, h1, h2, h3⟩ := h.all
  refine ⟨fun k' hk' => ?_, ?_⟩
  · by_cases e : k' = k
    · subst e
      rw [hb]
      exact HeldAt.put hT.isMap (key_lit hk) _
    · rw [ho k' e]
      exact (h.at_ k' hk').other (fun c => e (keyT_inj hk' hk c)) _
  · have hh := (h.at_ k hk).has
    by_cases c : B (.of k) = none
    · refine ⟨k :: Ks, List.nodup_cons.2 ⟨fun m => ((h2 k).1 m).2 c, h1⟩, fun k' => ?_, ?_⟩
      · rw [List.mem_cons, h2]
        by_cases e : k' = k
        · subst e
          rw [hb]
          simp [hk]
        · rw [ho k' e]
          simp [e]
      · rw [c] at hh
        rw [Go.Maps.size_put hT, hh, if_neg (by simp), h3, List.length_cons]
    · refine ⟨Ks, h1, fun k' => ?_, ?_⟩
      · rw [h2]
        by_cases e : k' = k
        · subst e
          rw [hb]
          simp [hk, c]
        · rw [ho k' e]
      · have hs : ((B (.of k)).map fun q => Value.map (some q)).isSome = true := by
          cases q : B (.of k) with
          | none => exact absurd q c
          | some _ => rfl
        rw [hs] at hh
        rw [Go.Maps.size_put hT, hh, if_pos rfl, h3]
theorem KeysD.del {D : DataW Value} {B B' : Slots} (h : KeysD D B) (hT : Go.Maps.Tidy D) {k : KeyT} (hk : fitK k) (hb : B' (.of k) = none) (ho : ∀ k', k' ≠ k → B' (.of k') = B (.of k')) : KeysD (D.del (keyT k)) B' := by
  obtain ⟨Ks, h1, h2, h3⟩ := h.all
  refine ⟨fun k' hk' => ?_, ?_⟩
  · by_cases e : k' = k
    · subst e
      rw [hb]
      exact HeldAt.gone
    · rw [ho k' e]
      exact (h.at_ k' hk').but fun c => e (keyT_inj hk' hk c)
  · have hh := (h.at_ k hk).has
    have hsz := Go.Maps.size_del (k := keyT k) hT
    rw [hh, h3] at hsz
    refine ⟨Ks.erase k, h1.erase k, fun k' => ?_, ?_⟩
    · rw [h1.mem_erase_iff, h2]
      by_cases e : k' = k
      · subst e
        rw [hb]
        simp
      · rw [ho k' e]
        simp [e]
    · by_cases c : B (.of k) = none
      · rw [List.erase_of_not_mem (fun m => ((h2 k).1 m).2 c)]
        rw [c] at hsz
        simpa using hsz
      · have hm : k ∈ Ks := (h2 k).2 ⟨hk, c⟩
        have hs : ((B (.of k)).map fun q => Value.map (some q)).isSome = true := by
          cases q : B (.of k) with
          | none => exact absurd q c
          | some _ => rfl
        rw [hs, if_pos rfl] at hsz
        have := List.length_erase_of_mem hm
        omega
theorem nodup_most {α : Type} [BEq α] [LawfulBEq α] : ∀ {l m : List α}, l.Nodup → (∀ x ∈ l, x ∈ m) → l.length ≤ m.length
  | [], m, _, _ => Nat.zero_le _
  | a :: t, m, h, hs => by
    obtain ⟨h1, h2⟩ := List.nodup_cons.1 h
    have hm := hs a List.mem_cons_self
    have := nodup_most (m := m.erase a) h2 fun x hx => (List.mem_erase_of_ne (by rintro rfl; exact h1 hx)).2 (hs x (List.mem_cons_of_mem _ hx))
    have h3 := List.length_erase_of_mem hm
    have h4 := List.length_pos_of_mem hm
    rw [List.length_cons]
    omega
theorem KeysD.few {D : DataW Value} {B : Slots} {K : List EventN} {E : List DotN} (h : KeysD D B) (hn : ∀ k, dotsK K E k = [] → B (.of k) = none) : Go.Maps.size D ≤ K.length := by
  obtain ⟨Ks, h1, h2, h3⟩ := h.all
  have h5 : Ks.length ≤ (K.map fun e : EventN => kOf e.item).length := nodup_most h1 fun k hk => ?_
  · rw [List.length_map] at h5
    omega
  have h4 := ((h2 k).1 hk).2
  cases hd : dotsK K E k with
  | nil => exact absurd (hn k hd) h4
  | cons d t =>
    obtain ⟨e, he, -, -, hke⟩ := mem_dotsK.1 (hd ▸ List.mem_cons_self : d ∈ dotsK K E k)
    exact List.mem_map.2 ⟨e, he, hke⟩
def KeysIs (w : World) (o : Option Nat) (B : Slots) : Prop :=
  (o = none ∧ ∀ k, B (.of k) = none) ∨ ∃ b n D, o = some b ∧ w.ownsMap Tryz.prog 39 heldElem b n D ∧ KeysD D B

/-- A map lies there. -/
def MapBlk (w : World) (b : Nat) : Prop := ∃ es cl, w.heap[b]? = some (.map es cl)
theorem MapBlk.lt {w : World} {b : Nat} (h : MapBlk w b) : b < w.heap.size := by
  obtain ⟨es, cl, h⟩ := h
  exact (Array.getElem?_eq_some_iff.1 h).1
theorem MapBlk.user {w : World} {b : Nat} (h : MapBlk w b) : ∀ u, w.heap[b]? = some u → sysObj u = false := by
  obtain ⟨es, cl, h⟩ := h
  intro u hu
  rw [h] at hu
  cases hu
  rfl
theorem MapBlk.not_cell {w : World} {b : Nat} (h : MapBlk w b) (i : Nat) (v : Value) : w.cell? ⟨b, i, none⟩ ≠ some v := by
  obtain ⟨es, cl, h⟩ := h
  intro c
  simp [World.cell?, h] at c
theorem MapBlk.not_obj {w : World} {b p : Nat} {vs : List Value} (h : MapBlk w b) (ho : ObjAt w p vs) : b ≠ p := by
  rintro rfl
  obtain ⟨es, cl, h⟩ := h
  obtain ⟨e, h1⟩ := ho.heap
  rw [h] at h1
  cases h1
theorem ownsMap_blk {H : Type} {P : Program} {k : TypeId} {R : Value → Option (DataW H × List MemPlace)} {w : World} {b n : Nat} {D : DataW H} (h : w.ownsMap P k R b n D) : MapBlk w b := by
  obtain ⟨es, clock, hb, _, _, _⟩ := h
  exact ⟨es, clock, hb⟩
theorem ObjAt.user {w : World} {p : Nat} {vs : List Value} (h : ObjAt w p vs) : ∀ o, w.heap[p]? = some o → sysObj o = false := by
  obtain ⟨e, h1⟩ := h.heap
  intro o ho
  rw [h1] at ho
  cases ho
  rfl
theorem NumsIs.blk {F : Nat → Prop} {w : World} {mv : Option Nat} {l : List DotN} (h : NumsIs w mv F l) : ∀ b, mv = some b → MapBlk w b := by
  intro b e
  rcases h with ⟨c, _⟩ | ⟨B, n, D, c, hB, hm, hD⟩
  · rw [c] at e
    cases e
  · rw [c] at e
    cases e
    exact ownsMap_blk hm
theorem SetIs.blk {w : World} {o : Option Nat} {E : List DotN} (h : SetIs w o E) : ∀ b, o = some b → MapBlk w b := by
  intro b e
  rcases h with ⟨c, _⟩ | ⟨B, n, D, c, hm, hD⟩
  · rw [c] at e
    cases e
  · rw [c] at e
    cases e
    exact ownsMap_blk hm
theorem KeptIs.blk {w : World} {o : Option Nat} {rs : List EvR} (h : KeptIs w o rs) : ∀ b, o = some b → MapBlk w b := by
  intro b e
  rcases h with ⟨c, _⟩ | ⟨B, n, D, c, hm, hD⟩
  · rw [c] at e
    cases e
  · rw [c] at e
    cases e
    exact ownsMap_blk hm
theorem KeysIs.blk {w : World} {o : Option Nat} {B : Slots} (h : KeysIs w o B) : ∀ b, o = some b → MapBlk w b := by
  intro b e
  rcases h with ⟨c, _⟩ | ⟨q, n, D, c, hm, hD⟩
  · rw [c] at e
    cases e
  · rw [c] at e
    cases e
    exact ownsMap_blk hm
theorem SetIs.keeps {G : Nat → Prop} {w w' : World} {o : Option Nat} {E : List DotN} (h : SetIs w o E) (hk : Keeps G w w') (hd : ∀ b, o = some b → ¬ G b) : SetIs w' o E := by
  rcases h with h | ⟨b, n, D, rfl, hm, hD⟩
  · exact .inl h
  · exact .inr ⟨b, n, D, rfl, hk.grownBy (hd b rfl) hm, hD⟩
theorem KeptIs.keeps {G : Nat → Prop} {w w' : World} {o : Option Nat} {rs : List EvR} (h : KeptIs w o rs) (hk : Keeps G w w') (hd : ∀ b, o = some b → ¬ G b) : KeptIs w' o rs := by
  rcases h with h | ⟨b, n, D, rfl, hm, hD⟩
  · exact .inl h
  · exact .inr ⟨b, n, D, rfl, hk.grownBy (hd b rfl) hm, hD⟩
theorem KeysIs.keeps {G : Nat → Prop} {w w' : World} {o : Option Nat} {B : Slots} (h : KeysIs w o B) (hk : Keeps G w w') (hd : ∀ b, o = some b → ¬ G b) : KeysIs w' o B := by
  rcases h with h | ⟨b, n, D, rfl, hm, hD⟩
  · exact .inl h
  · exact .inr ⟨b, n, D, rfl, hk.grownBy (hd b rfl) hm, hD⟩

/-- Where an event's dots lie, if it has any. -/
def overA (r : EvR) : Option Addr := match r.e.over with | [] => none | _ :: _ => r.a
theorem overA_lt {w : World} {r : EvR} (h : RowOf encD 3 w r.a r.e.over.length r.c r.e.over) : ∀ k, At (overA r) k → k < w.heap.size := by
  intro k hk
  unfold overA at hk
  split at hk
  · obtain ⟨x, hx, -⟩ := hk; cases hx
  · rename_i d t he
    obtain ⟨g, off, e, hc⟩ := h.at_ 0 d (by rw [he]; rfl)
    rw [e] at hk
    have h9 : g < w.heap.size := cell_lt (hc 0 _ rfl)
    have e2 : g = k := at_some.1 hk
    omega

/-- A row of dots of an event stays, where its block does. -/
theorem over_keeps {G : Nat → Prop} {w w' : World} {r : EvR} (h : RowOf encD 3 w r.a r.e.over.length r.c r.e.over) (hk : Keeps G w w') (hd : ∀ k, At (overA r) k → ¬ G k) : RowOf encD 3 w' r.a r.e.over.length r.c r.e.over := by
  unfold overA at hd
  cases e : r.e.over with
  | nil =>
    rw [e] at h
    exact ⟨h.leq, h.cle, h.capm, h.nil0, fun i x hx => by cases hx⟩
  | cons x t =>
    rw [e] at h hd
    exact h.keeps hk hd

/-- A map of events: its struct at p, its maps at B, its events as they lie, what it holds. -/
structure Real (w : World) (p : Nat) (B : Slots) (rs : List EvR) (m : MapN) : Prop where
  obj : ObjAt w p [.map (B .ctx), .map (B .kept), .map (B .dead), .map (B .keys)]
  nums : NumsIs w (B .ctx) (fun b => B .ctx = some b) m.ctx
  kept : KeptIs w (B .kept) rs
  dead : SetIs w (B .dead) m.dead
  keys : KeysIs w (B .keys) B
  of : ∀ k, SetIs w (B (.of k)) (dotsK m.kept m.dead k)
  nothing : ∀ k, dotsK m.kept m.dead k = [] → B (.of k) = none
  inj : ∀ i j b, B i = some b → B j = some b → i = j
  over : OversAt w rs
  rs : rs.map (·.e) = m.kept
  ok : OkMs m
  few : m.kept.length ≤ 2048
  light : ∀ e ∈ m.kept, lightE e = true
theorem Real.blk {w : World} {p : Nat} {B : Slots} {rs : List EvR} {m : MapN} (h : Real w p B rs m) (i : Slot) (b : Nat) (e : B i = some b) : MapBlk w b := by
  cases i with
  | ctx => exact h.nums.blk b e
  | kept => exact h.kept.blk b e
  | dead => exact h.dead.blk b e
  | keys => exact h.keys.blk b e
  | of k => exact (h.of k).blk b e
theorem Real.not_obj {w : World} {p : Nat} {B : Slots} {rs : List EvR} {m : MapN} (h : Real w p B rs m) (i : Slot) : B i ≠ some p := fun e => (h.blk i p e).not_obj h.obj rfl
theorem Real.keeps {G : Nat → Prop} {w w' : World} {p : Nat} {B : Slots} {rs : List EvR} {m : MapN} (h : Real w p B rs m) (hk : Keeps G w w') (hp : ¬ G p) (hB : ∀ i b, B i = some b → ¬ G b) (hR : ∀ r ∈ rs, ∀ k, At (overA r) k → ¬ G k) : Real w' p B rs m :=
  ⟨h.obj.keeps hk hp, h.nums.keeps hk fun b e => hB _ b e, h.kept.keeps hk (hB _), h.dead.keeps hk (hB _), h.keys.keeps hk (hB _), fun k => (h.of k).keeps hk (hB _), h.nothing, h.inj, fun r hr => over_keeps (h.over r hr) hk (hR r hr), h.rs, h.ok, h.few, h.light⟩
theorem Real.below {w w' : World} {p : Nat} {B : Slots} {rs : List EvR} {m : MapN} (h : Real w p B rs m) (hb : Below w.heap.size w w') : Real w' p B rs m :=
  h.keeps (Keeps.new (F := fun _ => False) hb) (fun c => c) (fun _ _ _ c => c) (fun _ _ _ _ c => c)
theorem Real.vec {w : World} {p : Nat} {B : Slots} {rs : List EvR} {m : MapN} (h : Real w p B rs m) : VecIn w p 0 [.map (B .ctx), .map (B .kept), .map (B .dead), .map (B .keys)] (B .ctx) m.ctx := ⟨h.obj, rfl, h.nums, h.ok.ok.ctx⟩
theorem Real.fit {w : World} {p : Nat} {B : Slots} {rs : List EvR} {m : MapN} (h : Real w p B rs m) {e : EventN} (he : e ∈ m.kept) : FitD e.dot := by
  have h1 := right_range (right_dotE (h.ok.right e he))
  refine ⟨?_, ?_, ?_⟩ <;> (unfold is64; omega)
theorem right_fitD {x : DotN} (hx : rightD x = true) : FitD x := by
  have h1 := right_range hx
  refine ⟨?_, ?_, ?_⟩ <;> (unfold is64; omega)
theorem light_fitK {e : EventN} (h : lightE e = true) : fitK (kOf e.item) := by
  unfold lightE at h
  simp only [Bool.and_eq_true, decide_eq_true_eq] at h
  unfold fitK kOf maxLen
  dsimp only
  omega
theorem Real.sorted {w : World} {p : Nat} {B : Slots} {rs : List EvR} {m : MapN} (h : Real w p B rs m) : SortedE (rs.map (·.e)) := h.rs ▸ h.ok.ok.kept

/-- A map behind a pointer: its own blocks F, the blocks R that it reads only, what it holds. -/
structure MapAt (w : World) (p : Nat) (F R : Nat → Prop) (m : MapN) : Prop where
  own : F p
  lt : ∀ k, F k ∨ R k → k < w.heap.size
  apart : ∀ k, F k → ¬ R k
  real : ∃ B rs, Real w p B rs m ∧ (∀ i b, B i = some b → F b) ∧ ∀ r ∈ rs, ∀ k, At (overA r) k → R k
theorem MapAt.keeps {G : Nat → Prop} {w w' : World} {p : Nat} {F R : Nat → Prop} {m : MapN} (h : MapAt w p F R m) (hk : Keeps G w w') (hd : ∀ k, F k ∨ R k → ¬ G k) : MapAt w' p F R m := by
  obtain ⟨B, rs, h1, h2, h3⟩ := h.real
  exact ⟨h.own, fun k hF => Nat.lt_of_lt_of_le (h.lt k hF) hk.size, h.apart, B, rs, h1.keeps hk (hd p (.inl h.own)) (fun i b e => hd b (.inl (h2 i b e))) (fun r hr k hk => hd k (.inr (h3 r hr k hk))), h2, h3⟩
theorem MapAt.below {w w' : World} {p : Nat} {F R : Nat → Prop} {m : MapN} (h : MapAt w p F R m) (hb : Below w.heap.size w w') : MapAt w' p F R m :=
  h.keeps (Keeps.new (F := fun _ => False) hb) (fun _ _ h => h)

/-- The blocks of a map of events' own; those of its events' dots. -/
def OwnB (p : Nat) (B : Slots) : Nat → Prop := fun k => k = p ∨ ∃ i, B i = some k
def OverB (rs : List EvR) : Nat → Prop := fun k => ∃ r ∈ rs, At (overA r) k
theorem Real.own_lt {w : World} {p : Nat} {B : Slots} {rs : List EvR} {m : MapN} (h : Real w p B rs m) : ∀ k, OwnB p B k → k < w.heap.size := by
  rintro k (rfl | ⟨i, e⟩)
  · exact h.obj.lt
  · exact (h.blk i k e).lt
theorem Real.over_lt {w : World} {p : Nat} {B : Slots} {rs : List EvR} {m : MapN} (h : Real w p B rs m) : ∀ k, OverB rs k → k < w.heap.size := by
  rintro k ⟨r, hr, hk⟩
  exact overA_lt (h.over r hr) k hk
theorem Real.own_user {w : World} {p : Nat} {B : Slots} {rs : List EvR} {m : MapN} (h : Real w p B rs m) : ∀ k, OwnB p B k → ∀ u, w.heap[k]? = some u → sysObj u = false := by
  rintro k (rfl | ⟨i, e⟩)
  · exact h.obj.user
  · exact (h.blk i k e).user
/-- Where an event's dots lie, there lie numbers. -/
theorem over_cell {w : World} {r : EvR} (h : RowOf encD 3 w r.a r.e.over.length r.c r.e.over) : ∀ k, At (overA r) k → ∃ i n, w.cell? ⟨k, i, none⟩ = some (.int .i64 n) := by
  intro k hk
  unfold overA at hk
  split at hk
  · exact absurd hk (at_none k)
  · rename_i d t he
    obtain ⟨g, off, e, hc⟩ := h.at_ 0 d (by rw [he]; rfl)
    rw [e] at hk
    have e2 : g = k := at_some.1 hk
    subst e2
    exact ⟨_, _, hc 0 _ rfl⟩
theorem Real.over_apart {w : World} {p : Nat} {B : Slots} {rs : List EvR} {m : MapN} (h : Real w p B rs m) : ∀ k, OverB rs k → ¬ OwnB p B k := by
  rintro k ⟨r, hr, hk⟩ hc
  obtain ⟨i, n, hv⟩ := over_cell (h.over r hr) k hk
  rcases hc with rfl | ⟨j, e⟩
  · obtain ⟨e, h1⟩ := h.obj.heap
    simp only [World.cell?, h1] at hv
    rcases i with _ | _ | _ | _ | i <;> simp at hv
  · exact (h.blk j k e).not_cell _ _ hv

/-- What a call on a map's own level does: which blocks it changes; it is m then. -/
structure Step (w w' : World) (p : Nat) (B : Slots) (rs : List EvR) (B' : Slots) (rs' : List EvR) (m' : MapN) : Prop where
  real : Real w' p B' rs' m'
  keeps : Keeps (OwnB p B) w w'
  own : ∀ i b, B' i = some b → (∃ j, B j = some b) ∨ w.heap.size ≤ b
  over : ∀ k, OverB rs' k → OverB rs k ∨ w.heap.size ≤ k
theorem Step.trans {w w1 w2 : World} {p : Nat} {B B1 B2 : Slots} {rs rs1 rs2 : List EvR} {m1 m2 : MapN} (h : Step w w1 p B rs B1 rs1 m1) (k : Step w1 w2 p B1 rs1 B2 rs2 m2) : Step w w2 p B rs B2 rs2 m2 := by
  refine ⟨k.real, h.keeps.trans k.keeps fun b hb hF => ?_, fun i b e => ?_, fun b hb => ?_⟩
  · rcases hF with rfl | ⟨i, e⟩
    · exact .inl rfl
    · rcases h.own i b e with ⟨j, c⟩ | c
      · exact .inr ⟨j, c⟩
      · omega
  · rcases k.own i b e with ⟨j, c⟩ | c
    · exact h.own j b c
    · exact .inr (Nat.le_trans h.keeps.size c)
  · rcases k.over b hb with c | c
    · exact h.over b c
    · exact .inr (Nat.le_trans h.keeps.size c)
theorem Step.refl {w w' : World} {p : Nat} {B : Slots} {rs : List EvR} {m : MapN} (h : Real w p B rs m) (hb : Below w.heap.size w w') : Step w w' p B rs B rs m :=
  ⟨h.below hb, Keeps.new hb, fun i b e => .inl ⟨i, e⟩, fun k h => .inl h⟩
/-- From a step to the map as others see it. -/
theorem Step.turns {w w' : World} {p : Nat} {F R : Nat → Prop} {B B' : Slots} {rs rs' : List EvR} {m m' : MapN} (hF : ∀ i b, B i = some b → F b) (hR : ∀ r ∈ rs, ∀ k, At (overA r) k → R k) (h : MapAt w p F R m) (s : Step w w' p B rs B' rs' m') :
    ∃ F' R', MapAt w' p F' R' m' ∧ Keeps F w w' ∧ (∀ k, F' k → F k ∨ w.heap.size ≤ k) ∧ ∀ k, R' k → R k ∨ w.heap.size ≤ k := by
  have hown : ∀ k, OwnB p B k → F k := by
    rintro k (rfl | ⟨i, e⟩)
    · exact h.own
    · exact hF i k e
  refine ⟨OwnB p B', fun k => (R k ∨ OverB rs' k) ∧ ¬ OwnB p B' k, ⟨.inl rfl, ?_, fun k h1 h2 => h2.2 h1, B', rs', s.real, fun i b e => .inr ⟨i, e⟩, fun r hr k hk => ⟨.inr ⟨r, hr, hk⟩, ?_⟩⟩, s.keeps.mono fun k _ hk => hown k hk, ?_, ?_⟩
  · rintro k (hk | ⟨hk | hk, _⟩)
    · exact s.real.own_lt k hk
    · exact Nat.lt_of_lt_of_le (h.lt k (.inr hk)) s.keeps.size
    · exact s.real.over_lt k hk
  · exact s.real.over_apart k ⟨r, hr, hk⟩
  · rintro k (rfl | ⟨i, e⟩)
    · exact .inl h.own
    · rcases s.own i k e with ⟨j, c⟩ | c
      · exact .inl (hF j k c)
      · exact .inr c
  · rintro k ⟨hk | ⟨r, hr, hk⟩, _⟩
    · exact .inl hk
    · rcases s.over k ⟨r, hr, hk⟩ with ⟨q, hq, c⟩ | c
      · exact .inl (hR q hq k c)
      · exact .inr c
end Go.Proofs.YtelgaglnmcggkaaGreatDoor

/- A map of events: a new one; the map itself or a new one of a nil one; has it a dot, is one dead, how many events, is there room; its context. -/
namespace Go.Proofs.YtelgaglnmcggkaaGreatDoor
open Go.RowKit
set_option linter.unusedVariables false
set_option linter.unusedSimpArgs false

/-- No maps yet. -/
def noSlots : Slots := fun _ => none
theorem Real.new {w : World} {p : Nat} (h : ObjAt w p [.map none, .map none, .map none, .map none]) : Real w p noSlots [] MapN.none :=
  ⟨h, .inl ⟨rfl, rfl⟩, .inl ⟨rfl, rfl⟩, .inl ⟨rfl, rfl⟩, .inl ⟨rfl, fun _ => rfl⟩, fun _ => .inl ⟨rfl, rfl⟩, fun _ _ => rfl, fun i j b e => (by cases e), OversAt.nil w, rfl, okMs_none, Nat.zero_le _, fun e he => (by cases he)⟩
theorem mNewI (w : World) : Calls Tryz.prog 13 #[] w fun e w' => ∃ p, e = .returned (.pointer (some ⟨p, 0, none⟩)) ∧ Real w' p noSlots [] MapN.none ∧ Below w.heap.size w w' ∧ w.heap.size ≤ p := by
  have o1 := ObjAt.new w #[.map none, .map none, .map none, .map none] 90
  have hb := below_alloc w (.cells #[.map none, .map none, .map none, .map none] 90)
  have hz : ∀ w, (zeroValue 90).run Tryz.prog w = .ok (.agg #[.map none, .map none, .map none, .map none]) w := fun w => by kernel_rfl
  go_enter Tryz.func13, Tryz.ntmps13
  go_wp2
  go_ret
  exact ⟨_, rfl, Real.new o1, hb, Nat.le_refl _⟩

/-- A map that is handed in to be asked, a nil one too. -/
def ArgM (w : World) (v : Value) (m : MapN) : Prop :=
  (v = .pointer none ∧ m = MapN.none) ∨ ∃ p B rs, v = .pointer (some ⟨p, 0, none⟩) ∧ Real w p B rs m
theorem ArgM.below {w w' : World} {v : Value} {m : MapN} (h : ArgM w v m) (hb : Below w.heap.size w w') : ArgM w' v m := by
  rcases h with h | ⟨p, B, rs, rfl, h⟩
  · exact .inl h
  · exact .inr ⟨p, B, rs, rfl, h.below hb⟩
theorem MapAt.arg {w : World} {p : Nat} {F R : Nat → Prop} {m : MapN} (h : MapAt w p F R m) : ArgM w (.pointer (some ⟨p, 0, none⟩)) m := by
  obtain ⟨B, rs, h1, -, -⟩ := h.real
  exact .inr ⟨p, B, rs, rfl, h1⟩
theorem Real.arg {w : World} {p : Nat} {B : Slots} {rs : List EvR} {m : MapN} (h : Real w p B rs m) : ArgM w (.pointer (some ⟨p, 0, none⟩)) m := .inr ⟨p, B, rs, rfl, h⟩
theorem nilMap (w : World) : ArgM w (.pointer none) MapN.none := .inl ⟨rfl, rfl⟩

theorem mOrNewI {w : World} {v : Value} {m : MapN} (h : ArgM w v m) : Calls Tryz.prog 58 #[v] w fun e w' => ∃ p B rs, e = .returned (.pointer (some ⟨p, 0, none⟩)) ∧ Real w' p B rs m ∧ Below w.heap.size w w' := by
  rcases h with ⟨rfl, rfl⟩ | ⟨p, B, rs, rfl, h⟩
  · have HN := mNewI w
    go_enter Tryz.func58, Tryz.ntmps58
    go_wp2_with (go_at_call 13; (with_reducible refine HN.mono ?_); rintro e w1 ⟨p, rfl, h1, h2, h3⟩)
    go_ret
    exact ⟨p, _, _, rfl, h1, h2⟩
  · go_enter Tryz.func58, Tryz.ntmps58
    go_wp2
    go_ret
    exact ⟨p, B, rs, rfl, h, Below.refl _ _⟩
/-- Of a map that is there, the map itself. -/
theorem mOrNewS (p : Nat) (w : World) : Calls Tryz.prog 58 #[.pointer (some ⟨p, 0, none⟩)] w fun e w' => e = .returned (.pointer (some ⟨p, 0, none⟩)) ∧ w = w' := by
  go_enter Tryz.func58, Tryz.ntmps58
  go_wp2
  go_ret
  exact ⟨rfl, rfl⟩

theorem SetIs.look {w : World} {o : Option Nat} {E : List DotN} (h : SetIs w o E) {x : DotN} (hx : FitD x) (ww : World) (he : ww.heap = w.heap) :
    (Instr.lookup 87 (.map o) (.agg #[.int .i64 x.dev, .int .i64 x.inc, .int .i64 x.seq]) true).run Tryz.prog ww = .ok (.tuple #[.agg #[], .bool (hasD E x)]) ww := by
  rcases h with ⟨rfl, rfl⟩ | ⟨B, n, D, rfl, hm, hD⟩
  · exact Go.Maps.look_nil true keyedDot Tryz.underlying87 (zeroUnit _) (key_dot hx)
  · have hm2 : ww.ownsMap Tryz.prog 35 unitElem B n D := by
      unfold World.ownsMap at hm ⊢
      rw [he]
      exact hm
    obtain ⟨v, ps, hrun, hv⟩ := hm2.look_ok (zd := .agg []) (zp := []) keyedDot Tryz.underlying87 (zeroUnit _) unitElem_mk (key_dot hx)
    obtain ⟨rfl, _⟩ := unitElem_inv hv
    rw [hD.has x hx] at hrun
    exact hrun
/-- How many events a map of events holds. -/
theorem KeptIs.len {w : World} {o : Option Nat} {rs : List EvR} (h : KeptIs w o rs) (ww : World) (he : ww.heap = w.heap) (ty : TypeId) :
    (Builtin.len_ #[86] ty #[.map o]).run Tryz.prog ww = .ok (.int .i64 (rs.length : Int)) ww := by
  rcases h with ⟨rfl, rfl⟩ | ⟨B, n, D, rfl, hm, hD⟩
  · exact Go.Maps.len_nil Tryz.underlying86 ty
  · have hm2 : ww.ownsMap Tryz.prog 35 heldElem B n D := by
      unfold World.ownsMap at hm ⊢
      rw [he]
      exact hm
    have h1 := hm2.len Tryz.underlying86 ty
    rw [hD.size] at h1
    exact h1

set_option maxRecDepth 100000 in
theorem mLenA {w : World} {v : Value} {m : MapN} (h : ArgM w v m) : Calls Tryz.prog 38 #[v] w fun e w' => e = .returned (.int .i64 (m.kept.length : Int)) ∧ Below w.heap.size w w' := by
  have HO := mOrNewI h
  go_enter Tryz.func38, Tryz.ntmps38
  go_wp2_with (go_at_call 58; (with_reducible refine HO.mono ?_); rintro e w1 ⟨p, B, rs, rfl, hR, hx⟩; have c1 := hR.obj.cell 1 rfl; have hl := fun ty => hR.kept.len w1 rfl ty; have hrl : (rs.length : Int) = (m.kept.length : Int) := (by rw [← hR.rs, List.length_map]))
  go_ret
  exact ⟨by first | rw [hrl] | rfl, hx⟩
set_option maxRecDepth 100000 in
theorem mRoomA {w : World} {p : Nat} {B : Slots} {rs : List EvR} {m : MapN} (x : Int) (h : Real w p B rs m) (hx : 0 ≤ x ∧ x ≤ 1000000) : Calls Tryz.prog 37 #[.pointer (some ⟨p, 0, none⟩), .int .i64 x] w fun en w' => en = .returned (.bool (decide ((m.kept.length : Int) + x ≤ 2048))) ∧ Below w.heap.size w w' := by
  have HL := mLenA h.arg
  have hfew := h.few
  generalize m.kept.length = n at *
  have hw : IntKind.i64.wrap (2048 - (n : Int)) = 2048 - (n : Int) := by rw [IntKind.wrap_i64]; omega
  have hd : decide (x ≤ 2048 - (n : Int)) = decide ((n : Int) + x ≤ 2048) := decide_eq_decide.2 (by omega)
  go_enter Tryz.func37, Tryz.ntmps37
  go_wp2_with (go_at_call 38; (with_reducible refine HL.mono ?_); rintro e w1 ⟨rfl, hx1⟩)
  go_ret
  exact ⟨by first | rw [hd] | rfl, hx1⟩
theorem mRoomNil (x : Int) (w : World) : Calls Tryz.prog 37 #[.pointer none, .int .i64 x] w fun en w' => en = .returned (.bool false) ∧ Below w.heap.size w w' := by
  go_enter Tryz.func37, Tryz.ntmps37
  go_wp2
  go_ret
  exact ⟨rfl, Below.refl _ _⟩
set_option maxRecDepth 100000 in
theorem mContextA {w : World} {v : Value} {m : MapN} (h : ArgM w v m) : Calls Tryz.prog 40 #[v] w fun en w' => ∃ a c, en = .returned (.slice a m.ctx.length c) ∧ OwnZ encD 3 w.heap.size 139 a m.ctx.length c m.ctx w' ∧ Below w.heap.size w w' := by
  have HO := mOrNewI h
  go_enter Tryz.func40, Tryz.ntmps40
  go_wp2_with (first
    | (go_at_call 58; (with_reducible refine HO.mono ?_); rintro e w1 ⟨p, B, rs, rfl, hR, hx⟩; have HM := vMarksA w1 hR.vec.arg)
    | (go_at_call 72; (with_reducible refine HM.mono ?_); rintro e w2 ⟨a, c, rfl, hz, hx2⟩))
  go_ret
  exact ⟨a, c, rfl, hz.base hx.size, hx.trans (hx2.mono hx.size)⟩
end Go.Proofs.YtelgaglnmcggkaaGreatDoor

/- Has a map of events a dot, is one dead? -/
namespace Go.Proofs.YtelgaglnmcggkaaGreatDoor
open Go.RowKit
set_option linter.unusedVariables false
set_option linter.unusedSimpArgs false

set_option maxRecDepth 100000 in
set_option maxHeartbeats 2000000 in
theorem mHasA {w : World} {v : Value} {m : MapN} (h : ArgM w v m) (d : DotN) (hd : FitD d) : Calls Tryz.prog 32 #[v, .agg #[.int .i64 d.dev, .int .i64 d.inc, .int .i64 d.seq]] w fun en w' => en = .returned (.bool (hasV m.ctx d)) ∧ Below w.heap.size w w' := by
  have HO := fun ww (ha : ArgM ww v m) => mOrNewI ha
  have HV := fun ww p B rs (hR : Real ww p B rs m) => vHasA hR.vec.arg d hd
  obtain ⟨dev, inc, seq⟩ := d
  dsimp only at *
  have o1 := ObjAt.new w #[.int .i64 dev, .int .i64 inc, .int .i64 seq] 35
  have b1 := below_alloc w (.cells #[.int .i64 dev, .int .i64 inc, .int .i64 seq] 35)
  have ha1 := h.below b1
  generalize hw1 : w.alloc (.cells #[.int .i64 dev, .int .i64 inc, .int .i64 seq] 35) = w1 at *
  have l1 := o1.lt
  have hS0 : ∀ v, Below w1.heap.size w1 v → v.cell? ⟨w.heap.size, 0, none⟩ = some (.int .i64 dev) ∧ v.cell? ⟨w.heap.size, 1, none⟩ = some (.int .i64 inc) ∧ v.cell? ⟨w.heap.size, 2, none⟩ = some (.int .i64 seq) := fun v hv => ⟨(o1.below hv l1).cell 0 rfl, (o1.below hv l1).cell 1 rfl, (o1.below hv l1).cell 2 rfl⟩
  have hB1 : Below w1.heap.size w1 w1.drew := (Below.refl _ _).drew
  generalize hasV m.ctx ⟨dev, inc, seq⟩ = t at *
  go_enter Tryz.func32, Tryz.ntmps32
  go_wp2_with fail
  refine wp_region_held_drew (S := fun w' => w'.cell? ⟨w.heap.size, 0, none⟩ = some (.int .i64 dev) ∧ w'.cell? ⟨w.heap.size, 1, none⟩ = some (.int .i64 inc) ∧ w'.cell? ⟨w.heap.size, 2, none⟩ = some (.int .i64 seq)) (by kernel_rfl) (hS0 _ hB1) (fun hHeld => ?_)
  first
    | (refine wpAnyH_take (i := 0) rfl (by kernel_rfl) (by kernel_rfl) (by kernel_rfl) (fun _ _ _ h => h) (Or.inr ⟨by rfl, rfl⟩) (by assumption) ?_)
    | (refine wpAnyH_take (i := 0) (v := ?vb1) rfl (by kernel_rfl) (by kernel_rfl) (by kernel_rfl) (fun _ _ _ h => h) (Or.inl ⟨by rfl, ?hyb1⟩) (by assumption) ?rb1; case hyb1 => (rintro w' hS; obtain ⟨hs0, hs1, hs2⟩ := hS; go_simp; try with_reducible rfl))
  try simp only [List.getElem_toArray, List.getElem_cons_zero, Act.put, List.setIfInBounds_toArray, List.set_cons_zero, List.set_cons_succ]
  first
    | (refine wpAnyH_take (i := 4) rfl (by kernel_rfl) (by kernel_rfl) (by kernel_rfl) (fun _ _ _ h => h) (Or.inr ⟨by rfl, rfl⟩) (by assumption) ?_)
    | (refine wpAnyH_take (i := 4) (v := ?vb2) rfl (by kernel_rfl) (by kernel_rfl) (by kernel_rfl) (fun _ _ _ h => h) (Or.inl ⟨by rfl, ?hyb2⟩) (by assumption) ?rb2; case hyb2 => (rintro w' hS; obtain ⟨hs0, hs1, hs2⟩ := hS; go_simp; try with_reducible rfl))
  try simp only [List.getElem_toArray, List.getElem_cons_zero, List.getElem_cons_succ, Act.put, List.setIfInBounds_toArray, List.set_cons_zero, List.set_cons_succ]
  refine wpAnyH_ready (rs := [1]) (by kernel_rfl) (by simp) ?_
  refine AllReadyH.cons (o := _) rfl (fun K hK => ?_) AllReadyH.nil
  go_simp
  go_at_call 58; (with_reducible refine (HO _ (ha1.below hB1)).mono ?_); rintro e w2 ⟨p, B, rs, rfl, hR, hx⟩; have hB1 := hB1.trans (hx.mono hB1.size); clear hx
  try dsimp only
  refine hK.out _ _ (hS0 _ hB1) (fun hHeld => ?_)
  clear hK K
  try simp only [List.getElem_toArray, List.getElem_cons_zero, List.getElem_cons_succ, Act.put, List.setIfInBounds_toArray, List.set_cons_zero, List.set_cons_succ]
  first
    | (refine wpAnyH_take (i := 2) rfl (by kernel_rfl) (by kernel_rfl) (by kernel_rfl) (fun _ _ _ h => h) (Or.inr ⟨by rfl, rfl⟩) (by assumption) ?_)
    | (refine wpAnyH_take (i := 2) (v := ?vb3) rfl (by kernel_rfl) (by kernel_rfl) (by kernel_rfl) (fun _ _ _ h => h) (Or.inl ⟨by rfl, ?hyb3⟩) (by assumption) ?rb3; case hyb3 => (rintro w' hS; obtain ⟨hs0, hs1, hs2⟩ := hS; go_simp; try with_reducible rfl))
  try simp only [List.getElem_toArray, List.getElem_cons_zero, List.getElem_cons_succ, Act.put, List.setIfInBounds_toArray, List.set_cons_zero, List.set_cons_succ]
  first
    | (refine wpAnyH_take (i := 3) rfl (by kernel_rfl) (by kernel_rfl) (by kernel_rfl) (fun _ _ _ h => h) (Or.inr ⟨by rfl, rfl⟩) (by assumption) ?_)
    | (refine wpAnyH_take (i := 3) (v := ?vb4) rfl (by kernel_rfl) (by kernel_rfl) (by kernel_rfl) (fun _ _ _ h => h) (Or.inl ⟨by rfl, ?hyb4⟩) (by assumption) ?rb4; case hyb4 => (rintro w' hS; obtain ⟨hs0, hs1, hs2⟩ := hS; go_simp; try with_reducible rfl))
  try simp only [List.getElem_toArray, List.getElem_cons_zero, List.getElem_cons_succ, Act.put, List.setIfInBounds_toArray, List.set_cons_zero, List.set_cons_succ]
  refine wpAnyH_ready (rs := [5]) (by kernel_rfl) (by simp) ?_
  refine AllReadyH.cons (o := _) rfl (fun K hK => ?_) AllReadyH.nil
  go_simp
  go_at_call 70; (with_reducible refine (HV _ p B rs (hR)).mono ?_); rintro e w3 ⟨rfl, hx⟩; have hB1 := hB1.trans (hx.mono hB1.size); clear hx
  try dsimp only
  refine hK.out _ _ (hS0 _ hB1) (fun hHeld => ?_)
  clear hK K
  try simp only [List.getElem_toArray, List.getElem_cons_zero, List.getElem_cons_succ, Act.put, List.setIfInBounds_toArray, List.set_cons_zero, List.set_cons_succ]
  first
    | (refine wpAnyH_take (i := 6) rfl (by kernel_rfl) (by kernel_rfl) (by kernel_rfl) (fun _ _ _ h => h) (Or.inr ⟨by rfl, rfl⟩) (by assumption) ?_)
    | (refine wpAnyH_take (i := 6) (v := ?vb5) rfl (by kernel_rfl) (by kernel_rfl) (by kernel_rfl) (fun _ _ _ h => h) (Or.inl ⟨by rfl, ?hyb5⟩) (by assumption) ?rb5; case hyb5 => (rintro w' hS; obtain ⟨hs0, hs1, hs2⟩ := hS; go_simp; try with_reducible rfl))
  try simp only [List.getElem_toArray, List.getElem_cons_zero, List.getElem_cons_succ, Act.put, List.setIfInBounds_toArray, List.set_cons_zero, List.set_cons_succ]
  refine wpAnyH_done (by kernel_rfl) ?_ _
  go_wp2
  go_ret
  exact ⟨rfl, b1.trans (hB1.mono b1.size)⟩

/-- Is a dot dead, of a map that is there? -/
theorem dead_go (p : Nat) (mv : Option Nat) (E : List DotN) (dev inc seq : Int) (hd : FitD ⟨dev, inc, seq⟩) (w2 : World) (hc : w2.cell? ⟨p, 2, none⟩ = some (.map mv)) (hs : SetIs w2 mv E) : ∀ ww : World, ww.heap = w2.heap →
    (Instr.lookup 87 (.map mv) (.agg #[.int .i64 dev, .int .i64 inc, .int .i64 seq]) true).run Tryz.prog ww = .ok (.tuple #[.agg #[], .bool (hasD E ⟨dev, inc, seq⟩)]) ww := fun ww he => hs.look hd ww he
set_option maxRecDepth 100000 in
set_option maxHeartbeats 2000000 in
theorem mDeadA {w : World} {v : Value} {m : MapN} (h : ArgM w v m) (d : DotN) (hd : FitD d) : Calls Tryz.prog 34 #[v, .agg #[.int .i64 d.dev, .int .i64 d.inc, .int .i64 d.seq]] w fun en w' => en = .returned (.bool (hasD m.dead d)) ∧ Below w.heap.size w w' := by
  have HO := fun ww (ha : ArgM ww v m) => mOrNewI ha
  have HL := fun ww p B rs (hR : Real ww p B rs m) vv (e : vv.heap = ww.heap) => hR.dead.look hd vv e
  obtain ⟨dev, inc, seq⟩ := d
  dsimp only at *
  have o1 := ObjAt.new w #[.int .i64 dev, .int .i64 inc, .int .i64 seq] 35
  have b1 := below_alloc w (.cells #[.int .i64 dev, .int .i64 inc, .int .i64 seq] 35)
  have ha1 := h.below b1
  generalize hw1 : w.alloc (.cells #[.int .i64 dev, .int .i64 inc, .int .i64 seq] 35) = w1 at *
  have l1 := o1.lt
  have hS0 : ∀ v, Below w1.heap.size w1 v → v.cell? ⟨w.heap.size, 0, none⟩ = some (.int .i64 dev) ∧ v.cell? ⟨w.heap.size, 1, none⟩ = some (.int .i64 inc) ∧ v.cell? ⟨w.heap.size, 2, none⟩ = some (.int .i64 seq) := fun v hv => ⟨(o1.below hv l1).cell 0 rfl, (o1.below hv l1).cell 1 rfl, (o1.below hv l1).cell 2 rfl⟩
  have hB1 : Below w1.heap.size w1 w1.drew := (Below.refl _ _).drew
  have hA := hB1
  have hB : Below w1.heap.size w1 (w1.drew.alloc (.cells #[] 107)) := hB1.trans ((below_alloc w1.drew (.cells #[] 107)).mono (Nat.le_refl _))
  have hC : Below w1.heap.size w1 (w1.alloc (.cells #[] 107)).drew := (below_alloc w1 (.cells #[] 107)).drew
  clear hB1
  generalize hasD m.dead ⟨dev, inc, seq⟩ = t at *
  obtain ⟨s0, s1, s2⟩ := hS0 w1 (Below.refl _ _)
  go_enter Tryz.func34, Tryz.ntmps34
  go_wp2_with fail
  go_region_law ((try go_simp); go_at_call 58; (first | (refine (HO _ (ha1.below hA)).mono ?_; have hX := hA) | (refine (HO _ (ha1.below hB)).mono ?_; have hX := hB) | (refine (HO _ (ha1.below hC)).mono ?_; have hX := hC)); rintro e w2 ⟨p, B, rs, rfl, hR, hx⟩; have hX := hX.trans (hx.mono hX.size); obtain ⟨y0, y1, y2⟩ := hS0 _ hX; have c2 := hR.obj.cell 2 rfl; have hE := below_alloc w2 (.cells #[] 107); obtain ⟨z0, z1, z2⟩ := hS0 _ (hX.trans (hE.mono hX.size)); have c3 := (hR.below hE).obj.cell 2 rfl; have HLa := HL _ p B rs hR; have HLb := HL _ p B rs (hR.below hE); clear hx hR)
  all_goals (
    go_wp2
    go_ret
    first
      | exact ⟨rfl, b1.trans (hX.mono b1.size)⟩
      | exact ⟨rfl, b1.trans ((hX.trans (hE.mono hX.size)).mono b1.size)⟩)
end Go.Proofs.YtelgaglnmcggkaaGreatDoor

/- The parts of a map of events, each turned alone. -/
namespace Go.Proofs.YtelgaglnmcggkaaGreatDoor
open Go.RowKit
set_option linter.unusedVariables false
set_option linter.unusedSimpArgs false

def PartI (w : World) (B : Slots) (rs : List EvR) (c E : List DotN) (f : KeyT → List DotN) : Slot → Prop
  | .ctx => NumsIs w (B .ctx) (fun b => B .ctx = some b) c
  | .kept => KeptIs w (B .kept) rs
  | .dead => SetIs w (B .dead) E
  | .keys => KeysIs w (B .keys) B
  | .of k => SetIs w (B (.of k)) (f k)
def cellsB (B : Slots) : List Value := [.map (B .ctx), .map (B .kept), .map (B .dead), .map (B .keys)]
/-- What lies where, whatever it means. -/
structure Parts (w : World) (p : Nat) (B : Slots) (rs : List EvR) (c E : List DotN) (f : KeyT → List DotN) : Prop where
  obj : ObjAt w p (cellsB B)
  part : ∀ i, PartI w B rs c E f i
  inj : ∀ i j b, B i = some b → B j = some b → i = j
  over : OversAt w rs
theorem Real.parts {w : World} {p : Nat} {B : Slots} {rs : List EvR} {m : MapN} (h : Real w p B rs m) : Parts w p B rs m.ctx m.dead (dotsK m.kept m.dead) :=
  ⟨h.obj, fun i => by cases i <;> first | exact h.nums | exact h.kept | exact h.dead | exact h.keys | exact h.of _, h.inj, h.over⟩
theorem Parts.real {w : World} {p : Nat} {B : Slots} {rs : List EvR} {m : MapN} {f : KeyT → List DotN} (h : Parts w p B rs m.ctx m.dead f) (hf : ∀ k, f k = dotsK m.kept m.dead k) (hn : ∀ k, dotsK m.kept m.dead k = [] → B (.of k) = none) (hrs : rs.map (·.e) = m.kept) (hok : OkMs m) (hfew : m.kept.length ≤ 2048) (hl : ∀ e ∈ m.kept, lightE e = true) : Real w p B rs m :=
  ⟨h.obj, h.part .ctx, h.part .kept, h.part .dead, h.part .keys, fun k => hf k ▸ h.part (.of k), hn, h.inj, h.over, hrs, hok, hfew, hl⟩
theorem Parts.blk {w : World} {p : Nat} {B : Slots} {rs : List EvR} {c E : List DotN} {f : KeyT → List DotN} (h : Parts w p B rs c E f) (i : Slot) (b : Nat) (e : B i = some b) : MapBlk w b := by
  have hp := h.part i
  cases i with
  | ctx => exact NumsIs.blk hp b e
  | kept => exact KeptIs.blk hp b e
  | dead => exact SetIs.blk hp b e
  | keys => exact KeysIs.blk hp b e
  | of k => exact SetIs.blk hp b e
theorem Parts.not_obj {w : World} {p : Nat} {B : Slots} {rs : List EvR} {c E : List DotN} {f : KeyT → List DotN} (h : Parts w p B rs c E f) (i : Slot) : B i ≠ some p := fun e => (h.blk i p e).not_obj h.obj rfl
theorem Parts.over_apart {w : World} {p : Nat} {B : Slots} {rs : List EvR} {c E : List DotN} {f : KeyT → List DotN} (h : Parts w p B rs c E f) : ∀ r ∈ rs, ∀ k, At (overA r) k → ¬ OwnB p B k := by
  intro r hr k hk hc
  obtain ⟨i, n, hv⟩ := over_cell (h.over r hr) k hk
  rcases hc with rfl | ⟨j, e⟩
  · obtain ⟨e, h1⟩ := h.obj.heap
    unfold cellsB at h1
    simp only [World.cell?, h1] at hv
    rcases i with _ | _ | _ | _ | i <;> simp at hv
  · exact (h.blk j k e).not_cell _ _ hv
theorem Parts.own_lt {w : World} {p : Nat} {B : Slots} {rs : List EvR} {c E : List DotN} {f : KeyT → List DotN} (h : Parts w p B rs c E f) : ∀ k, OwnB p B k → k < w.heap.size := by
  rintro k (rfl | ⟨i, e⟩)
  · exact h.obj.lt
  · exact (h.blk i k e).lt
theorem PartI.keeps {G : Nat → Prop} {w w' : World} {B : Slots} {rs : List EvR} {c E : List DotN} {f : KeyT → List DotN} {i : Slot} (h : PartI w B rs c E f i) (hk : Keeps G w w') (hd : ∀ b, B i = some b → ¬ G b) : PartI w' B rs c E f i := by
  cases i with
  | ctx => exact NumsIs.keeps h hk fun b e => hd b e
  | kept => exact KeptIs.keeps h hk hd
  | dead => exact SetIs.keeps h hk hd
  | keys => exact KeysIs.keeps h hk hd
  | of k => exact SetIs.keeps h hk hd
theorem Parts.keeps {G : Nat → Prop} {w w' : World} {p : Nat} {B : Slots} {rs : List EvR} {c E : List DotN} {f : KeyT → List DotN} (h : Parts w p B rs c E f) (hk : Keeps G w w') (hp : ∀ k, OwnB p B k → ¬ G k) (hR : ∀ r ∈ rs, ∀ k, At (overA r) k → ¬ G k) : Parts w' p B rs c E f :=
  ⟨h.obj.keeps hk (hp p (.inl rfl)), fun i => (h.part i).keeps hk fun b e => hp b (.inr ⟨i, e⟩), h.inj, fun r hr => over_keeps (h.over r hr) hk (hR r hr)⟩
theorem Parts.below {w w' : World} {p : Nat} {B : Slots} {rs : List EvR} {c E : List DotN} {f : KeyT → List DotN} (h : Parts w p B rs c E f) (hb : Below w.heap.size w w') : Parts w' p B rs c E f :=
  h.keeps (Keeps.new (F := fun _ => False) hb) (fun _ _ h => h) (fun _ _ _ _ h => h)
theorem Parts.congr {w : World} {p : Nat} {B : Slots} {rs : List EvR} {c E E' : List DotN} {f f' : KeyT → List DotN} (h : Parts w p B rs c E f) (hE : E.Perm E') (hf : ∀ k, (f k).Perm (f' k)) : Parts w p B rs c E' f' := by
  have hset : ∀ {o : Option Nat} {L L' : List DotN}, SetIs w o L → L.Perm L' → SetIs w o L' := by
    intro o L L' hs hp
    rcases hs with ⟨rfl, rfl⟩ | ⟨b, n, D, rfl, hm, hD⟩
    · exact .inl ⟨rfl, List.nil_perm.1 hp⟩
    · exact .inr ⟨b, n, D, rfl, hm, hD.perm hp⟩
  refine ⟨h.obj, fun i => ?_, h.inj, h.over⟩
  have hp := h.part i
  cases i with
  | ctx => exact hp
  | kept => exact hp
  | dead => exact hset hp hE
  | keys => exact hp
  | of k => exact hset hp (hf k)
/-- One slot turned, that is no key's. -/
theorem Parts.set {w w' : World} {p : Nat} {B B' : Slots} {rs rs' : List EvR} {c c' E E' : List DotN} {f : KeyT → List DotN} (h : Parts w p B rs c E f) (i : Slot) (hi : ∀ k, i ≠ .of k) (hB' : ∀ j, j ≠ i → B' j = B j) (hk : Keeps (fun k => k = p ∨ B i = some k) w w') (hobj : ObjAt w' p (cellsB B'))
    (hnew : ∀ b, B' i = some b → B i = some b ∨ w.heap.size ≤ b) (hrs : i ≠ .kept → rs' = rs) (hc : i ≠ .ctx → c' = c) (hE : i ≠ .dead → E' = E) (hp : PartI w' B' rs' c' E' f i) (ho : OversAt w' rs') : Parts w' p B' rs' c' E' f := by
  have hoth : ∀ j, j ≠ i → PartI w' B rs c E f j := fun j hj => (h.part j).keeps hk fun b e hc => by
    rcases hc with rfl | hc
    · exact h.not_obj j e
    · exact hj (h.inj j i b e hc)
  refine ⟨hobj, fun j => ?_, fun j l b e1 e2 => ?_, ho⟩
  · by_cases e : j = i
    · subst e
      exact hp
    · have h1 := hoth j e
      cases j with
      | ctx =>
        rw [show c' = c from hc (fun q => e q.symm)]
        show NumsIs w' (B' .ctx) (fun b => B' .ctx = some b) c
        rw [hB' _ e]
        exact h1
      | kept =>
        rw [show rs' = rs from hrs (fun q => e q.symm)]
        show KeptIs w' (B' .kept) rs
        rw [hB' _ e]
        exact h1
      | dead =>
        rw [show E' = E from hE (fun q => e q.symm)]
        show SetIs w' (B' .dead) E
        rw [hB' _ e]
        exact h1
      | keys =>
        show KeysIs w' (B' .keys) B'
        rw [hB' _ e]
        rcases h1 with ⟨h1, h2⟩ | ⟨b, n, D, h1, h2, h3⟩
        · exact .inl ⟨h1, fun k => (hB' _ (fun q => hi k q.symm)).trans (h2 k)⟩
        · exact .inr ⟨b, n, D, h1, h2, h3.congr fun k => hB' _ (fun q => hi k q.symm)⟩
      | of k =>
        show SetIs w' (B' (.of k)) (f k)
        rw [hB' _ e]
        exact h1
  · by_cases e3 : j = i
    · subst e3
      by_cases e4 : l = j
      · exact e4.symm
      · rw [hB' l e4] at e2
        rcases hnew b e1 with h1 | h1
        · exact h.inj j l b h1 e2
        · have := (h.blk l b e2).lt
          omega
    · rw [hB' j e3] at e1
      by_cases e4 : l = i
      · subst e4
        rcases hnew b e2 with h1 | h1
        · exact h.inj j l b e1 h1
        · have := (h.blk j b e1).lt
          omega
      · rw [hB' l e4] at e2
        exact h.inj j l b e1 e2
/-- A key's dots turned where they lie. -/
theorem Parts.setOf {w w' : World} {p : Nat} {B : Slots} {rs : List EvR} {c E : List DotN} {f f' : KeyT → List DotN} (h : Parts w p B rs c E f) (k : KeyT) (b : Nat) (hb : B (.of k) = some b) {F : Nat → Prop} (hk : Keeps F w w') (hF : ∀ x, F x → x = b ∨ (¬ OwnB p B x ∧ ∀ r ∈ rs, ¬ At (overA r) x)) (hf : ∀ k', k' ≠ k → f' k' = f k') (hs : SetIs w' (some b) (f' k)) : Parts w' p B rs c E f' := by
  have hpb : p ≠ b := fun e => h.not_obj (.of k) (e ▸ hb)
  have hoth : ∀ j, j ≠ .of k → PartI w' B rs c E f j := fun j hj => (h.part j).keeps hk fun b' e hc => by
    rcases hF b' hc with rfl | hc
    · exact hj (h.inj j _ b' e hb)
    · exact hc.1 (.inr ⟨j, e⟩)
  refine ⟨h.obj.keeps hk (fun hc => (hF p hc).elim hpb fun c => c.1 (.inl rfl)), fun j => ?_, h.inj, fun r hr => over_keeps (h.over r hr) hk fun x hx hc => ?_⟩
  rotate_left
  · rcases hF x hc with rfl | hc
    · exact h.over_apart r hr x hx (.inr ⟨.of k, hb⟩)
    · exact hc.2 r hr hx
  cases j with
  | ctx => exact hoth .ctx (fun q => by cases q)
  | kept => exact hoth .kept (fun q => by cases q)
  | dead => exact hoth .dead (fun q => by cases q)
  | keys => exact hoth .keys (fun q => by cases q)
  | of k' =>
    show SetIs w' (B (.of k')) (f' k')
    by_cases e : k' = k
    · subst e
      rw [hb]
      exact hs
    · have h1 := hoth (.of k') (fun q => by cases q; exact e rfl)
      rw [hf k' e]
      exact h1
/-- A key's dots taken out of, or put into, the map of keys. -/
theorem Parts.setKey {w w' : World} {p : Nat} {B B' : Slots} {rs : List EvR} {c E : List DotN} {f f' : KeyT → List DotN} (h : Parts w p B rs c E f) (k : KeyT) (hB' : ∀ j, j ≠ .keys → j ≠ .of k → B' j = B j) (hk : Keeps (fun x => x = p ∨ B .keys = some x) w w') (hobj : ObjAt w' p (cellsB B'))
    (hnew : ∀ b, B' .keys = some b → B .keys = some b ∨ w.heap.size ≤ b) (hof : ∀ b, B' (.of k) = some b → b < w.heap.size ∧ ∀ j, j ≠ .of k → B j ≠ some b) (hkeys : KeysIs w' (B' .keys) B') (hf : ∀ k', k' ≠ k → f' k' = f k') (hs : SetIs w' (B' (.of k)) (f' k)) : Parts w' p B' rs c E f' := by
  have hoth : ∀ j, j ≠ .keys → PartI w' B rs c E f j := fun j hj => (h.part j).keeps hk fun b e hc => by
    rcases hc with rfl | hc
    · exact h.not_obj j e
    · exact hj (h.inj j _ b e hc)
  have ho : OversAt w' rs := fun r hr => over_keeps (h.over r hr) hk fun x hx hc => h.over_apart r hr x hx (hc.imp id fun hc => ⟨_, hc⟩)
  refine ⟨hobj, fun j => ?_, fun j l b e1 e2 => ?_, ho⟩
  · cases j with
    | ctx =>
      have h1 := hoth .ctx (fun q => by cases q)
      show NumsIs w' (B' .ctx) (fun b => B' .ctx = some b) c
      rw [hB' _ (fun q => by cases q) (fun q => by cases q)]
      exact h1
    | kept =>
      have h1 := hoth .kept (fun q => by cases q)
      show KeptIs w' (B' .kept) rs
      rw [hB' _ (fun q => by cases q) (fun q => by cases q)]
      exact h1
    | dead =>
      have h1 := hoth .dead (fun q => by cases q)
      show SetIs w' (B' .dead) E
      rw [hB' _ (fun q => by cases q) (fun q => by cases q)]
      exact h1
    | keys => exact hkeys
    | of k' =>
      show SetIs w' (B' (.of k')) (f' k')
      by_cases e : k' = k
      · subst e
        exact hs
      · have h1 := hoth (.of k') (fun q => by cases q)
        rw [hf k' e, hB' _ (fun q => by cases q) (fun q => by cases q; exact e rfl)]
        exact h1
  · have main : ∀ j l, B' j = some b → B' l = some b → j ≠ l → j ≠ .of k → False := by
      intro j l e1 e2 hne hjk
      by_cases hj : j = .keys
      · subst hj
        rcases hnew b e1 with h1 | h1
        · by_cases hl : l = .of k
          · subst hl
            exact (hof b e2).2 .keys (fun q => by cases q) h1
          · rw [hB' l (fun q => hne q.symm) hl] at e2
            exact hne (h.inj _ _ b h1 e2)
        · by_cases hl : l = .of k
          · subst hl
            have := (hof b e2).1
            omega
          · rw [hB' l (fun q => hne q.symm) hl] at e2
            have := (h.blk l b e2).lt
            omega
      · rw [hB' j hj hjk] at e1
        by_cases hl : l = .of k
        · subst hl
          exact (hof b e2).2 j hjk e1
        · by_cases hl2 : l = .keys
          · subst hl2
            rcases hnew b e2 with h1 | h1
            · exact hne (h.inj _ _ b e1 h1)
            · have := (h.blk j b e1).lt
              omega
          · rw [hB' l hl2 hl] at e2
            exact hne (h.inj _ _ b e1 e2)
    by_cases e : j = l
    · exact e
    · exfalso
      by_cases hj : j = .of k
      · exact main l j e2 e1 (fun q => e q.symm) (fun q => e (hj.trans q.symm))
      · exact main j l e1 e2 e hj
end Go.Proofs.YtelgaglnmcggkaaGreatDoor

/- A dot made dead: out of its key's alive ones, and the key away with its last one. -/
namespace Go.Proofs.YtelgaglnmcggkaaGreatDoor
open Go.RowKit
set_option linter.unusedVariables false
set_option linter.unusedSimpArgs false

theorem exec_len {P : Program} {w : World} {o : Oper} {a : Act} (m : Operand) (t : TypeId) (hop : o.op = Op.call { callee := Callee.builtin Builtin.len, args := #[m], argTypes := #[t] }) (mv : Option Nat) (hm : a.eval m = .map mv) {v : Value} (hr : (Builtin.len_ #[t] o.type #[.map mv]).run P w = .ok v w) :
    (execOp a.eval o).run P w = .ok (.value v) w := by
  simp [execOp, hop, resolve, invoke, builtin, hm, hr, Result.andThen]
theorem exec_field {P : Program} {w : World} {o : Oper} {a : Act} (x : Operand) (t : TypeId) (i : Nat) (hop : o.op = Op.field t x i) (u : Value) (hx : a.eval x = u) {v : Value} (hr : (Instr.field t u i).run P w = .ok v w) :
    (execOp a.eval o).run P w = .ok (.value v) w := by
  simp [execOp, hop, hx, hr, Result.andThen]
def keyO (o : Option EvR) : KeyT := match o with
  | none => ([], [], [])
  | some r => kOf r.e.item
theorem field_key (o : Option EvR) (w : World) : (Instr.field 43 (.agg (encO o).toArray) 3).run Tryz.prog w = .ok (.agg #[.string (str (keyO o).1), .string (str (keyO o).2.1), .string (str (keyO o).2.2)]) w := by
  cases o with
  | none => kernel_rfl
  | some r => kernel_rfl
theorem zeroEv (w : World) : (zeroValue 43).run Tryz.prog w = .ok (.agg (encO none).toArray) w := by kernel_rfl
theorem zeroSet (w : World) : (zeroValue 87).run Tryz.prog w = .ok (.map none) w := by kernel_rfl
/-- The kept event of a dot, looked up. -/
theorem kept_look {w : World} {mv : Option Nat} {rs : List EvR} (h : KeptIs w mv rs) {x : DotN} (hx : FitD x) :
    (Instr.lookup 86 (.map mv) (.agg #[.int .i64 x.dev, .int .i64 x.inc, .int .i64 x.seq]) false).run Tryz.prog w = .ok (.agg (encO (lookR rs x)).toArray) w ∧
    (Instr.lookup 86 (.map mv) (.agg #[.int .i64 x.dev, .int .i64 x.inc, .int .i64 x.seq]) true).run Tryz.prog w = .ok (.tuple #[.agg (encO (lookR rs x)).toArray, .bool (lookR rs x).isSome]) w := by
  rcases h with ⟨rfl, rfl⟩ | ⟨b, n, D, rfl, hm, hD⟩
  · exact ⟨Go.Maps.look_nil false keyedDot Tryz.underlying86 (zeroEv _) (key_dot hx), Go.Maps.look_nil true keyedDot Tryz.underlying86 (zeroEv _) (key_dot hx)⟩
  · have h1 := held_look hm keyedDot Tryz.underlying86 (zeroEv w) (key_dot hx) (hD.at_ x hx)
    have e1 : ((lookR rs x).map fun r => Value.agg (encE r).toArray).getD (.agg (encO none).toArray) = .agg (encO (lookR rs x)).toArray := by cases lookR rs x <;> rfl
    have e2 : ((lookR rs x).map fun r => Value.agg (encE r).toArray).isSome = (lookR rs x).isSome := by cases lookR rs x <;> rfl
    rw [e1, e2] at h1
    exact h1
/-- The alive dots of a key, looked up. -/
theorem keys_look {w : World} {mv : Option Nat} {B : Slots} (h : KeysIs w mv B) {a b c : List UInt8} (hk : fitK (a, b, c)) :
    (Instr.lookup 88 (.map mv) (.agg #[.string (str a), .string (str b), .string (str c)]) false).run Tryz.prog w = .ok (.map (B (.of (a, b, c)))) w ∧
    (Instr.lookup 88 (.map mv) (.agg #[.string (str a), .string (str b), .string (str c)]) true).run Tryz.prog w = .ok (.tuple #[.map (B (.of (a, b, c))), .bool (B (.of (a, b, c))).isSome]) w := by
  have hkey := key_key hk.1 hk.2.1 hk.2.2
  rcases h with ⟨rfl, h0⟩ | ⟨q, n, D, rfl, hm, hD⟩
  · rw [h0]
    exact ⟨Go.Maps.look_nil false keyedKey Tryz.underlying88 (zeroSet _) hkey, Go.Maps.look_nil true keyedKey Tryz.underlying88 (zeroSet _) hkey⟩
  · have h1 := held_look hm keyedKey Tryz.underlying88 (zeroSet w) hkey (hD.at_ (a, b, c) hk)
    have e1 : ((B (.of (a, b, c))).map fun q => Value.map (some q)).getD (.map none) = .map (B (.of (a, b, c))) := by cases B (.of (a, b, c)) <;> rfl
    have e2 : ((B (.of (a, b, c))).map fun q => Value.map (some q)).isSome = (B (.of (a, b, c))).isSome := by cases B (.of (a, b, c)) <;> rfl
    rw [e1, e2] at h1
    exact h1
/-- How many dots a set holds. -/
theorem SetIs.len {w : World} {o : Option Nat} {E : List DotN} (h : SetIs w o E) (ty : TypeId) :
    (Builtin.len_ #[87] ty #[.map o]).run Tryz.prog w = .ok (.int .i64 (E.length : Int)) w := by
  rcases h with ⟨rfl, rfl⟩ | ⟨b, n, D, rfl, hm, hD⟩
  · exact Go.Maps.len_nil Tryz.underlying87 ty
  · have h1 := hm.len Tryz.underlying87 ty
    rw [hD.size] at h1
    exact h1
theorem SetIs.mapC {w : World} {o : Option Nat} {E : List DotN} (h : SetIs w o E) : ∃ D, MapC w 35 unitElem o D ∧ SetD D E ∧ Go.Maps.Tidy D := by
  rcases h with ⟨rfl, rfl⟩ | ⟨b, n, D, rfl, hm, hD⟩
  · exact ⟨_, .inl ⟨rfl, rfl⟩, SetD.empty, ⟨[], rfl, List.Pairwise.nil⟩⟩
  · exact ⟨D, .inr ⟨b, n, rfl, hm⟩, hD, hm.tidy keyedDot⟩
theorem MapC.below {H : Type} {w w' : World} {K : TypeId} {R : Value → Option (DataW H × List MemPlace)} {mv : Option Nat} {D : DataW H} (h : MapC w K R mv D) (hb : Below w.heap.size w w') : MapC w' K R mv D := by
  rcases h with h | ⟨b, n, rfl, hm⟩
  · exact .inl h
  · exact .inr ⟨b, n, rfl, (Keeps.new (F := fun _ => False) hb).grownBy (fun h => h) hm⟩
theorem SetD.more {D : DataW Unit} {E : List DotN} (h : SetD D E) (hT : Go.Maps.Tidy D) (hE : SortedD E) {x : DotN} (hx : FitD x) : SetD (D.put (keyD x) (.agg [])) (sortD (E ++ [x])) := by
  have hnd := sortedD_nodup hE
  have hns := sortedD_nodup (sortD_sorted (E ++ [x]))
  by_cases hm : x ∈ E
  · refine (h.again hT hx hm).perm ((List.perm_ext_iff_of_nodup hnd hns).2 fun y => ?_)
    rw [sortD_mem, List.mem_append, List.mem_singleton]
    exact ⟨.inl, fun c => c.elim id fun c => c ▸ hm⟩
  · refine (h.put hT hx hm).perm ((List.perm_ext_iff_of_nodup (List.nodup_cons.2 ⟨hm, hnd⟩) hns).2 fun y => ?_)
    rw [sortD_mem, List.mem_append, List.mem_singleton, List.mem_cons]
    exact Or.comm

set_option maxRecDepth 100000 in
set_option maxHeartbeats 4000000 in
/-- A dot made dead: the parts of the map behind it. -/
theorem killP {w : World} {p : Nat} {B : Slots} {rs : List EvR} {m : MapN} (h : Real w p B rs m) (x : DotN) (hr : rightD x = true) (hn : m.dead.length ≤ 1000000) :
    Calls Tryz.prog 56 #[.pointer (some ⟨p, 0, none⟩), .agg #[.int .i64 x.dev, .int .i64 x.inc, .int .i64 x.seq]] w fun e w' => e = .returned (.tuple #[]) ∧ ∃ B', Parts w' p B' rs m.ctx (sortD (m.dead ++ [x])) (fun k => (dotsK m.kept m.dead k).filter fun y => !sameD y x) ∧ (∀ k, (dotsK m.kept m.dead k).filter (fun y => !sameD y x) = [] → B' (.of k) = none) ∧
      Keeps (OwnB p B) w w' ∧ ∀ i b, B' i = some b → (∃ j, B j = some b) ∨ w.heap.size ≤ b := by
  have hx := right_fitD hr
  have hP := h.parts
  obtain ⟨D, hM, hD, hT⟩ := h.dead.mapC
  have hDm := hD.more hT h.ok.dead hx
  have hsz := hD.size
  have hnd := fun k => dotsK_nodup h.ok.ok.kept m.dead k
  have hsm := h.nothing
  have hko : fitK (keyO (lookR rs x)) := by
    cases e : lookR rs x with
    | none => exact ⟨Nat.zero_le _, Nat.zero_le _, Nat.zero_le _⟩
    | some r => exact light_fitK (h.light r.e (h.rs ▸ List.mem_map.2 ⟨r, (lookR_some e).1, rfl⟩))
  have hout : ∀ k, k ≠ keyO (lookR rs x) → (dotsK m.kept m.dead k).filter (fun y => !sameD y x) = dotsK m.kept m.dead k := by
    intro k hk
    refine dotsK_out fun hm => hk ?_
    obtain ⟨e, he, hd, ha, hke⟩ := mem_dotsK.1 hm
    rw [← h.rs] at he
    obtain ⟨r, hr1, rfl⟩ := List.mem_map.1 he
    have := lookR_mem h.sorted hr1
    rw [hd] at this
    rw [this]
    exact hke.symm
  have hkl := fun (w' : World) (hk : KeptIs w' (B .kept) rs) => (kept_look hk hx).1
  have hE0 : m.dead.length ≤ 1000000 := hn
  generalize dotsK m.kept m.dead = f at *
  obtain ⟨o, ho⟩ : ∃ o, lookR rs x = o := ⟨_, rfl⟩
  have hfl := fun v => field_key o v
  have hLK := fun (w' : World) (mv : Option Nat) (hk : KeptIs w' mv rs) => (kept_look hk hx).1
  rw [ho] at hko hout hLK
  clear h hkl ho
  obtain ⟨A, hA⟩ : ∃ A, (encO o).toArray = A := ⟨_, rfl⟩
  obtain ⟨K, hK⟩ : ∃ K : KeyT, keyO o = K := ⟨_, rfl⟩
  simp only [hA, hK] at hLK hfl hko hout
  clear hA hK o
  obtain ⟨k1, k2, k3⟩ := K
  dsimp only at hfl
  obtain ⟨dev, inc, seq⟩ := x
  dsimp only at *
  have hlp := hP.obj.lt
  have hlb := fun b (e : B .dead = some b) => (hP.blk .dead b e).lt
  obtain ⟨bd, hbd⟩ : ∃ bd, w.heap.size = bd := ⟨_, rfl⟩
  have o1 := ObjAt.new w #[.int .i64 dev, .int .i64 inc, .int .i64 seq] 35
  have b1 := below_alloc w (.cells #[.int .i64 dev, .int .i64 inc, .int .i64 seq] 35)
  have hP1 := hP.below b1
  have hM1 := hM.below b1
  rw [hbd] at o1 hlp
  generalize hw1 : w.alloc (.cells #[.int .i64 dev, .int .i64 inc, .int .i64 seq] 35) = w1 at *
  have l1 := o1.lt
  have hS0 : ∀ v, Below w1.heap.size w1 v → v.cell? ⟨bd, 0, none⟩ = some (.int .i64 dev) ∧ v.cell? ⟨bd, 1, none⟩ = some (.int .i64 inc) ∧ v.cell? ⟨bd, 2, none⟩ = some (.int .i64 seq) := fun v hv => ⟨(o1.below hv l1).cell 0 rfl, (o1.below hv l1).cell 1 rfl, (o1.below hv l1).cell 2 rfl⟩
  have HP := fun v (hv : Below w1.heap.size w1 v) => putSetC p 2 (cellsB B) (B .dead) D ⟨dev, inc, seq⟩ v hx (hP1.below hv).obj rfl (hM1.below hv) (by omega)
  dsimp only at HP
  have hb : Below w1.heap.size w1 w1.drew := (Below.refl _ _).drew
  go_enter Tryz.func56, Tryz.ntmps56
  go_wp2_with fail
  refine wp_region_held_drew (S := fun w' => w'.cell? ⟨bd, 0, none⟩ = some (.int .i64 dev) ∧ w'.cell? ⟨bd, 1, none⟩ = some (.int .i64 inc) ∧ w'.cell? ⟨bd, 2, none⟩ = some (.int .i64 seq)) (by kernel_rfl) (hS0 _ hb) (fun hHeld => ?_)
  first
    | (refine wpAnyH_take (i := 0) rfl (by kernel_rfl) (by kernel_rfl) (by kernel_rfl) (fun _ _ _ h => h) (Or.inr ⟨by rfl, rfl⟩) (by assumption) ?_)
    | (refine wpAnyH_take (i := 0) (v := ?vb1) rfl (by kernel_rfl) (by kernel_rfl) (by kernel_rfl) (fun _ _ _ h => h) (Or.inl ⟨by rfl, ?hyb1⟩) (by assumption) ?rb1; case hyb1 => (rintro w' hS; obtain ⟨hs0, hs1, hs2⟩ := hS; go_simp; try with_reducible rfl))
  try simp only [List.getElem_toArray, List.getElem_cons_zero, Act.put, List.setIfInBounds_toArray, List.set_cons_zero, List.set_cons_succ]
  first
    | (refine wpAnyH_take (i := 1) rfl (by kernel_rfl) (by kernel_rfl) (by kernel_rfl) (fun _ _ _ h => h) (Or.inr ⟨by rfl, rfl⟩) (by assumption) ?_)
    | (refine wpAnyH_take (i := 1) (v := ?vb2) rfl (by kernel_rfl) (by kernel_rfl) (by kernel_rfl) (fun _ _ _ h => h) (Or.inl ⟨by rfl, ?hyb2⟩) (by assumption) ?rb2; case hyb2 => (rintro w' hS; obtain ⟨hs0, hs1, hs2⟩ := hS; go_simp; try with_reducible rfl))
  try simp only [List.getElem_toArray, List.getElem_cons_zero, List.getElem_cons_succ, Act.put, List.setIfInBounds_toArray, List.set_cons_zero, List.set_cons_succ]
  first
    | (refine wpAnyH_take (i := 2) rfl (by kernel_rfl) (by kernel_rfl) (by kernel_rfl) (fun _ _ _ h => h) (Or.inr ⟨by rfl, rfl⟩) (by assumption) ?_)
    | (refine wpAnyH_take (i := 2) (v := ?vb3) rfl (by kernel_rfl) (by kernel_rfl) (by kernel_rfl) (fun _ _ _ h => h) (Or.inl ⟨by rfl, ?hyb3⟩) (by assumption) ?rb3; case hyb3 => (rintro w' hS; obtain ⟨hs0, hs1, hs2⟩ := hS; go_simp; try with_reducible rfl))
  try simp only [List.getElem_toArray, List.getElem_cons_zero, List.getElem_cons_succ, Act.put, List.setIfInBounds_toArray, List.set_cons_zero, List.set_cons_succ]
  first
    | (refine wpAnyH_take (i := 3) rfl (by kernel_rfl) (by kernel_rfl) (by kernel_rfl) (fun _ _ _ h => h) (Or.inr ⟨by rfl, rfl⟩) (by assumption) ?_)
    | (refine wpAnyH_take (i := 3) (v := ?vb4) rfl (by kernel_rfl) (by kernel_rfl) (by kernel_rfl) (fun _ _ _ h => h) (Or.inl ⟨by rfl, ?hyb4⟩) (by assumption) ?rb4; case hyb4 => (rintro w' hS; obtain ⟨hs0, hs1, hs2⟩ := hS; go_simp; try with_reducible rfl))
  try simp only [List.getElem_toArray, List.getElem_cons_zero, List.getElem_cons_succ, Act.put, List.setIfInBounds_toArray, List.set_cons_zero, List.set_cons_succ]
  first
    | (refine wpAnyH_take (i := 4) rfl (by kernel_rfl) (by kernel_rfl) (by kernel_rfl) (fun _ _ _ h => h) (Or.inr ⟨by rfl, rfl⟩) (by assumption) ?_)
    | (refine wpAnyH_take (i := 4) (v := ?vb5) rfl (by kernel_rfl) (by kernel_rfl) (by kernel_rfl) (fun _ _ _ h => h) (Or.inl ⟨by rfl, ?hyb5⟩) (by assumption) ?rb5; case hyb5 => (rintro w' hS; obtain ⟨hs0, hs1, hs2⟩ := hS; go_simp; try with_reducible rfl))
  try simp only [List.getElem_toArray, List.getElem_cons_zero, List.getElem_cons_succ, Act.put, List.setIfInBounds_toArray, List.set_cons_zero, List.set_cons_succ]
  refine wpAnyH_ready (rs := [5]) (by kernel_rfl) (by simp) ?_
  refine AllReadyH.cons (o := _) rfl (fun K hK => ?_) AllReadyH.nil
  go_simp
  go_at_call 99; (with_reducible refine (HP _ hb).mono ?_); rintro e w2 ⟨rfl, bs, ns, q2, hs2m, hk2, hbs⟩; have hbs := hbs.imp id And.right; have o2 := (o1.below hb l1).keeps hk2 (fun c => c.elim (fun c => absurd c.symm (Nat.ne_of_lt hlp)) (fun c => absurd (hlb _ c) (by omega))); have hS2x : w2.cell? ⟨bd, 0, none⟩ = some (.int .i64 dev) ∧ w2.cell? ⟨bd, 1, none⟩ = some (.int .i64 inc) ∧ w2.cell? ⟨bd, 2, none⟩ = some (.int .i64 seq) := ⟨o2.cell 0 rfl, o2.cell 1 rfl, o2.cell 2 rfl⟩
  try dsimp only
  refine hK.out _ _ (hS2x) (fun hHeld => ?_)
  clear hK K
  try simp only [List.getElem_toArray, List.getElem_cons_zero, List.getElem_cons_succ, Act.put, List.setIfInBounds_toArray, List.set_cons_zero, List.set_cons_succ]
  refine wpAnyH_done (by kernel_rfl) ?_ _
  obtain ⟨B1, hB1d, hB1o⟩ := slots_put B .dead (some bs)
  have hb12 : Below w1.heap.size w1 w1.drew := (Below.refl _ _).drew
  have hPd := hP1.below hb12
  have hP2 : Parts w2 p B1 rs m.ctx (sortD (m.dead ++ [⟨dev, inc, seq⟩])) f := by
    refine hPd.set .dead (fun k q => by cases q) hB1o hk2 ?_ (fun b e => ?_) (fun _ => rfl) (fun _ => rfl) (fun c => absurd rfl c) ?_ (fun r hr => over_keeps (hPd.over r hr) hk2 fun k hk hc => hPd.over_apart r hr k hk (hc.imp id fun c => ⟨_, c⟩))
    · have e : cellsB B1 = (cellsB B).set 2 (.map (some bs)) := by
        unfold cellsB
        rw [hB1d, hB1o .ctx (fun q => by cases q), hB1o .kept (fun q => by cases q), hB1o .keys (fun q => by cases q)]
        rfl
      rw [e]
      exact q2
    · rw [hB1d] at e
      cases e
      exact hbs
    · show SetIs w2 (B1 .dead) _
      rw [hB1d]
      exact .inr ⟨bs, ns, _, rfl, hs2m, hDm⟩
  have hk02 : Keeps (OwnB p B) w w2 := ((Keeps.new b1).trans (Keeps.new (F := OwnB p B) (hb12)) (fun _ _ h => h)).trans hk2 fun k _ hc => hc.imp id fun c => ⟨_, c⟩
  have hown2 : ∀ i b, B1 i = some b → (∃ j, B j = some b) ∨ bd ≤ b := by
    intro i b e
    by_cases q : i = .dead
    · subst q
      rw [hB1d] at e
      cases e
      rcases hbs with c | c
      · exact .inl ⟨_, c⟩
      · exact .inr (by have := b1.size; have c2 : w1.heap.size ≤ bs := c; omega)
    · rw [hB1o i q] at e
      exact .inl ⟨i, e⟩
  have hof2 : ∀ k, B1 (.of k) = B (.of k) := fun k => hB1o _ (fun q => by cases q)
  have hdw : w.heap.size ≤ w2.heap.size := hk02.size
  clear hk2 q2 hs2m hPd hP1 hM1 hM hDm hD hT HP hS0 o1 hb hS2x hB1d hB1o hP
  have l2 := o2.lt
  have hS2 : ∀ v, Below w2.heap.size w2 v → v.cell? ⟨p, 1, none⟩ = some (.map (B1 .kept)) ∧ v.cell? ⟨bd, 0, none⟩ = some (.int .i64 dev) ∧ v.cell? ⟨bd, 1, none⟩ = some (.int .i64 inc) ∧ v.cell? ⟨bd, 2, none⟩ = some (.int .i64 seq) ∧ KeptIs v (B1 .kept) rs := fun v hv => ⟨(hP2.below hv).obj.cell 1 rfl, (o2.below hv l2).cell 0 rfl, (o2.below hv l2).cell 1 rfl, (o2.below hv l2).cell 2 rfl, (hP2.below hv).part .kept⟩
  have c7 : Below w2.heap.size w2 (w2.drew.alloc (.cells #[.string ⟨#[]⟩, .string ⟨#[]⟩, .string ⟨#[]⟩] 39)) := (Below.refl _ _).drew.trans ((below_alloc w2.drew (.cells #[.string ⟨#[]⟩, .string ⟨#[]⟩, .string ⟨#[]⟩] 39)).mono (Nat.le_refl _))
  have o7 := ObjAt.new w2.drew #[.string ⟨#[]⟩, .string ⟨#[]⟩, .string ⟨#[]⟩] 39
  obtain ⟨bk, hbk⟩ : ∃ bk, w2.drew.heap.size = bk := ⟨_, rfl⟩
  rw [hbk] at o7
  have hk7 : w2.heap.size ≤ bk := Nat.le_of_eq hbk
  have c8 := ((c7.setCell (p := ⟨bk, 0, none⟩) hk7 (.string (str k1))).setCell (p := ⟨bk, 1, none⟩) hk7 (.string (str k2))).setCell (p := ⟨bk, 2, none⟩) hk7 (.string (str k3))
  have p7 := ObjAt.new w2 #[.string ⟨#[]⟩, .string ⟨#[]⟩, .string ⟨#[]⟩] 39
  rw [show w2.heap.size = bk from hbk] at p7
  have z0 := p7.cell 0 rfl; have z1 := p7.cell 1 rfl; have z2 := p7.cell 2 rfl; have g0 := p7.free 0; have g1 := p7.free 1; have g2 := p7.free 2
  go_wp2_with fail
  refine wp_region_held_drew (S := fun w' => w'.cell? ⟨p, 1, none⟩ = some (.map (B1 .kept)) ∧ w'.cell? ⟨bd, 0, none⟩ = some (.int .i64 dev) ∧ w'.cell? ⟨bd, 1, none⟩ = some (.int .i64 inc) ∧ w'.cell? ⟨bd, 2, none⟩ = some (.int .i64 seq) ∧ KeptIs w' (B1 .kept) rs) (by kernel_rfl) (hS2 _ (Below.refl _ _).drew) (fun hHeld => ?_)
  first
    | (refine wpAnyH_take (i := 0) rfl (by kernel_rfl) (by kernel_rfl) (by kernel_rfl) (fun _ _ _ h => h) (Or.inr ⟨by rfl, rfl⟩) (by assumption) ?_)
    | (refine wpAnyH_take (i := 0) (v := ?vb6) rfl (by kernel_rfl) (by kernel_rfl) (by kernel_rfl) (fun _ _ _ h => h) (Or.inl ⟨by rfl, ?hyb6⟩) (by assumption) ?rb6; case hyb6 => (rintro w' hS; obtain ⟨hs0, hs1, hs2, hs3, hs4⟩ := hS; go_simp; try with_reducible rfl))
  try simp only [List.getElem_toArray, List.getElem_cons_zero, Act.put, List.setIfInBounds_toArray, List.set_cons_zero, List.set_cons_succ]
  first
    | (refine wpAnyH_take (i := 1) rfl (by kernel_rfl) (by kernel_rfl) (by kernel_rfl) (fun _ _ _ h => h) (Or.inr ⟨by rfl, rfl⟩) (by assumption) ?_)
    | (refine wpAnyH_take (i := 1) (v := ?vb7) rfl (by kernel_rfl) (by kernel_rfl) (by kernel_rfl) (fun _ _ _ h => h) (Or.inl ⟨by rfl, ?hyb7⟩) (by assumption) ?rb7; case hyb7 => (rintro w' hS; obtain ⟨hs0, hs1, hs2, hs3, hs4⟩ := hS; go_simp; try with_reducible rfl))
  try simp only [List.getElem_toArray, List.getElem_cons_zero, List.getElem_cons_succ, Act.put, List.setIfInBounds_toArray, List.set_cons_zero, List.set_cons_succ]
  first
    | (refine wpAnyH_take (i := 2) rfl (by kernel_rfl) (by kernel_rfl) (by kernel_rfl) (fun _ _ _ h => h) (Or.inr ⟨by rfl, rfl⟩) (by assumption) ?_)
    | (refine wpAnyH_take (i := 2) (v := ?vb8) rfl (by kernel_rfl) (by kernel_rfl) (by kernel_rfl) (fun _ _ _ h => h) (Or.inl ⟨by rfl, ?hyb8⟩) (by assumption) ?rb8; case hyb8 => (rintro w' hS; obtain ⟨hs0, hs1, hs2, hs3, hs4⟩ := hS; go_simp; try with_reducible rfl))
  try simp only [List.getElem_toArray, List.getElem_cons_zero, List.getElem_cons_succ, Act.put, List.setIfInBounds_toArray, List.set_cons_zero, List.set_cons_succ]
  first
    | (refine wpAnyH_take (i := 3) rfl (by kernel_rfl) (by kernel_rfl) (by kernel_rfl) (fun _ _ _ h => h) (Or.inr ⟨by rfl, rfl⟩) (by assumption) ?_)
    | (refine wpAnyH_take (i := 3) (v := ?vb9) rfl (by kernel_rfl) (by kernel_rfl) (by kernel_rfl) (fun _ _ _ h => h) (Or.inl ⟨by rfl, ?hyb9⟩) (by assumption) ?rb9; case hyb9 => (rintro w' hS; obtain ⟨hs0, hs1, hs2, hs3, hs4⟩ := hS; go_simp; try with_reducible rfl))
  try simp only [List.getElem_toArray, List.getElem_cons_zero, List.getElem_cons_succ, Act.put, List.setIfInBounds_toArray, List.set_cons_zero, List.set_cons_succ]
  first
    | (refine wpAnyH_take (i := 4) rfl (by kernel_rfl) (by kernel_rfl) (by kernel_rfl) (fun _ _ _ h => h) (Or.inr ⟨by rfl, rfl⟩) (by assumption) ?_)
    | (refine wpAnyH_take (i := 4) (v := ?vb10) rfl (by kernel_rfl) (by kernel_rfl) (by kernel_rfl) (fun _ _ _ h => h) (Or.inl ⟨by rfl, ?hyb10⟩) (by assumption) ?rb10; case hyb10 => (rintro w' hS; obtain ⟨hs0, hs1, hs2, hs3, hs4⟩ := hS; go_simp; try with_reducible rfl))
  try simp only [List.getElem_toArray, List.getElem_cons_zero, List.getElem_cons_succ, Act.put, List.setIfInBounds_toArray, List.set_cons_zero, List.set_cons_succ]
  refine wpAnyH_take (i := 5) (v := .agg A) rfl (by kernel_rfl) (by kernel_rfl) (by kernel_rfl) (fun _ _ _ h => h) (Or.inl ⟨by rfl, fun w' hS => by obtain ⟨hs0, hs1, hs2, hs3, hs4⟩ := hS; exact exec_look (.tmp 14) (.tmp 15) 86 false rfl _ rfl _ rfl (hLK w' _ hs4)⟩) (by assumption) ?_
  try simp only [List.getElem_toArray, List.getElem_cons_zero, List.getElem_cons_succ, Act.put, List.setIfInBounds_toArray, List.set_cons_zero, List.set_cons_succ]
  refine wpAnyH_take (i := 6) (v := .agg #[.string (str k1), .string (str k2), .string (str k3)]) rfl (by kernel_rfl) (by kernel_rfl) (by kernel_rfl) (fun _ _ _ h => h) (Or.inl ⟨by rfl, fun w' hS => by exact exec_field (.tmp 16) 43 3 rfl _ rfl (hfl w')⟩) (by assumption) ?_
  try simp only [List.getElem_toArray, List.getElem_cons_zero, List.getElem_cons_succ, Act.put, List.setIfInBounds_toArray, List.set_cons_zero, List.set_cons_succ]
  refine wpAnyH_ready (rs := [7]) (by kernel_rfl) (by simp) ?_
  refine AllReadyH.cons (o := _) rfl (fun K hK => ?_) AllReadyH.nil
  go_simp
  skip
  try dsimp only
  refine hK.out _ _ (hS2 _ c7) (fun hHeld => ?_)
  clear hK K
  try simp only [List.getElem_toArray, List.getElem_cons_zero, List.getElem_cons_succ, Act.put, List.setIfInBounds_toArray, List.set_cons_zero, List.set_cons_succ]
  refine wpAnyH_ready (rs := [8]) (by kernel_rfl) (by simp) ?_
  refine AllReadyH.cons (o := _) rfl (fun K hK => ?_) AllReadyH.nil
  go_simp
  skip
  try dsimp only
  refine hK.out _ _ (hS2 _ c8) (fun hHeld => ?_)
  clear hK K
  try simp only [List.getElem_toArray, List.getElem_cons_zero, List.getElem_cons_succ, Act.put, List.setIfInBounds_toArray, List.set_cons_zero, List.set_cons_succ]
  refine wpAnyH_done (by kernel_rfl) ?_ _
  have o8 : ObjAt ((((w2.alloc (.cells #[.string ⟨#[]⟩, .string ⟨#[]⟩, .string ⟨#[]⟩] 39)).setCell ⟨bk, 0, none⟩ (.string (str k1))).setCell ⟨bk, 1, none⟩ (.string (str k2))).setCell ⟨bk, 2, none⟩ (.string (str k3))).drew bk [.string (str k1), .string (str k2), .string (str k3)] := ((o7.set 0 (.string (str k1))).set 1 (.string (str k2))).set 2 (.string (str k3))
  have c9 : Below w2.heap.size w2 ((((w2.alloc (.cells #[.string ⟨#[]⟩, .string ⟨#[]⟩, .string ⟨#[]⟩] 39)).setCell ⟨bk, 0, none⟩ (.string (str k1))).setCell ⟨bk, 1, none⟩ (.string (str k2))).setCell ⟨bk, 2, none⟩ (.string (str k3))).drew := c8
  clear c8
  have P3 := hP2.below c9
  have d3 := o2.below c9 l2
  have hk03 := hk02.trans (Keeps.new (F := OwnB p B) c9) (fun _ _ h => h)
  have hd3 := c9.size
  clear hP2 o2 hS2 c7 o7 p7 z0 z1 z2 g0 g1 g2 hk02 hLK hfl l2 hHeld c9
  generalize ((((w2.alloc (.cells #[.string ⟨#[]⟩, .string ⟨#[]⟩, .string ⟨#[]⟩] 39)).setCell ⟨bk, 0, none⟩ (.string (str k1))).setCell ⟨bk, 1, none⟩ (.string (str k2))).setCell ⟨bk, 2, none⟩ (.string (str k3))).drew = w3 at *
  have l8 := o8.lt
  have l3 := d3.lt
  have hS3 : ∀ v, Below w3.heap.size w3 v → v.cell? ⟨p, 3, none⟩ = some (.map (B1 .keys)) ∧ v.cell? ⟨bd, 0, none⟩ = some (.int .i64 dev) ∧ v.cell? ⟨bd, 1, none⟩ = some (.int .i64 inc) ∧ v.cell? ⟨bd, 2, none⟩ = some (.int .i64 seq) ∧ v.cell? ⟨bk, 0, none⟩ = some (.string (str k1)) ∧ v.cell? ⟨bk, 1, none⟩ = some (.string (str k2)) ∧ v.cell? ⟨bk, 2, none⟩ = some (.string (str k3)) ∧ KeysIs v (B1 .keys) B1 := fun v hv => ⟨(P3.below hv).obj.cell 3 rfl, (d3.below hv l3).cell 0 rfl, (d3.below hv l3).cell 1 rfl, (d3.below hv l3).cell 2 rfl, (o8.below hv l8).cell 0 rfl, (o8.below hv l8).cell 1 rfl, (o8.below hv l8).cell 2 rfl, (P3.below hv).part .keys⟩
  have hP3of := P3.part (.of (k1, k2, k3))
  have hkn := hsm (k1, k2, k3)
  obtain ⟨ok, hok⟩ : ∃ ok, B1 (.of (k1, k2, k3)) = ok := ⟨_, rfl⟩
  have hkey := key_key hko.1 hko.2.1 hko.2.2
  have hdk := key_dot hx
  cases ok with
  | none =>
    have hf0 : f (k1, k2, k3) = [] := by
      rcases hP3of with ⟨-, e⟩ | ⟨b, n, D, e, -⟩
      · exact e
      · rw [hok] at e
        cases e
    have hfe : ∀ k, (f k).filter (fun y => !sameD y ⟨dev, inc, seq⟩) = f k := fun k => by
      by_cases e : k = (k1, k2, k3)
      · rw [e, hf0]
        rfl
      · exact hout k e
    have P3' : Parts w3 p B1 rs m.ctx (sortD (m.dead ++ [⟨dev, inc, seq⟩])) (fun k => (f k).filter fun y => !sameD y ⟨dev, inc, seq⟩) := P3.congr (List.Perm.refl _) fun k => by rw [hfe]
    have hnone : ∀ k, (f k).filter (fun y => !sameD y ⟨dev, inc, seq⟩) = [] → B1 (.of k) = none := fun k e => by
      rw [hfe] at e
      rw [hof2]
      exact hsm k e
    clear hP3of hout hnd hsm
    go_wp2_with fail
    refine wp_region_held_drew (S := fun w' => w'.cell? ⟨p, 3, none⟩ = some (.map (B1 .keys)) ∧ w'.cell? ⟨bd, 0, none⟩ = some (.int .i64 dev) ∧ w'.cell? ⟨bd, 1, none⟩ = some (.int .i64 inc) ∧ w'.cell? ⟨bd, 2, none⟩ = some (.int .i64 seq) ∧ w'.cell? ⟨bk, 0, none⟩ = some (.string (str k1)) ∧ w'.cell? ⟨bk, 1, none⟩ = some (.string (str k2)) ∧ w'.cell? ⟨bk, 2, none⟩ = some (.string (str k3)) ∧ KeysIs w' (B1 .keys) B1) (by kernel_rfl) (hS3 _ (Below.refl _ _).drew) (fun hHeld => ?_)
    first
      | (refine wpAnyH_take (i := 0) rfl (by kernel_rfl) (by kernel_rfl) (by kernel_rfl) (fun _ _ _ h => h) (Or.inr ⟨by rfl, rfl⟩) (by assumption) ?_)
      | (refine wpAnyH_take (i := 0) (v := ?vb11) rfl (by kernel_rfl) (by kernel_rfl) (by kernel_rfl) (fun _ _ _ h => h) (Or.inl ⟨by rfl, ?hyb11⟩) (by assumption) ?rb11; case hyb11 => (rintro w' hS; obtain ⟨hs0, hs1, hs2, hs3, hs4, hs5, hs6, hs7⟩ := hS; go_simp; try with_reducible rfl))
    try simp only [List.getElem_toArray, List.getElem_cons_zero, Act.put, List.setIfInBounds_toArray, List.set_cons_zero, List.set_cons_succ]
    first
      | (refine wpAnyH_take (i := 1) rfl (by kernel_rfl) (by kernel_rfl) (by kernel_rfl) (fun _ _ _ h => h) (Or.inr ⟨by rfl, rfl⟩) (by assumption) ?_)
      | (refine wpAnyH_take (i := 1) (v := ?vb12) rfl (by kernel_rfl) (by kernel_rfl) (by kernel_rfl) (fun _ _ _ h => h) (Or.inl ⟨by rfl, ?hyb12⟩) (by assumption) ?rb12; case hyb12 => (rintro w' hS; obtain ⟨hs0, hs1, hs2, hs3, hs4, hs5, hs6, hs7⟩ := hS; go_simp; try with_reducible rfl))
    try simp only [List.getElem_toArray, List.getElem_cons_zero, List.getElem_cons_succ, Act.put, List.setIfInBounds_toArray, List.set_cons_zero, List.set_cons_succ]
    first
      | (refine wpAnyH_take (i := 2) rfl (by kernel_rfl) (by kernel_rfl) (by kernel_rfl) (fun _ _ _ h => h) (Or.inr ⟨by rfl, rfl⟩) (by assumption) ?_)
      | (refine wpAnyH_take (i := 2) (v := ?vb13) rfl (by kernel_rfl) (by kernel_rfl) (by kernel_rfl) (fun _ _ _ h => h) (Or.inl ⟨by rfl, ?hyb13⟩) (by assumption) ?rb13; case hyb13 => (rintro w' hS; obtain ⟨hs0, hs1, hs2, hs3, hs4, hs5, hs6, hs7⟩ := hS; go_simp; try with_reducible rfl))
    try simp only [List.getElem_toArray, List.getElem_cons_zero, List.getElem_cons_succ, Act.put, List.setIfInBounds_toArray, List.set_cons_zero, List.set_cons_succ]
    first
      | (refine wpAnyH_take (i := 3) rfl (by kernel_rfl) (by kernel_rfl) (by kernel_rfl) (fun _ _ _ h => h) (Or.inr ⟨by rfl, rfl⟩) (by assumption) ?_)
      | (refine wpAnyH_take (i := 3) (v := ?vb14) rfl (by kernel_rfl) (by kernel_rfl) (by kernel_rfl) (fun _ _ _ h => h) (Or.inl ⟨by rfl, ?hyb14⟩) (by assumption) ?rb14; case hyb14 => (rintro w' hS; obtain ⟨hs0, hs1, hs2, hs3, hs4, hs5, hs6, hs7⟩ := hS; go_simp; try with_reducible rfl))
    try simp only [List.getElem_toArray, List.getElem_cons_zero, List.getElem_cons_succ, Act.put, List.setIfInBounds_toArray, List.set_cons_zero, List.set_cons_succ]
    first
      | (refine wpAnyH_take (i := 4) rfl (by kernel_rfl) (by kernel_rfl) (by kernel_rfl) (fun _ _ _ h => h) (Or.inr ⟨by rfl, rfl⟩) (by assumption) ?_)
      | (refine wpAnyH_take (i := 4) (v := ?vb15) rfl (by kernel_rfl) (by kernel_rfl) (by kernel_rfl) (fun _ _ _ h => h) (Or.inl ⟨by rfl, ?hyb15⟩) (by assumption) ?rb15; case hyb15 => (rintro w' hS; obtain ⟨hs0, hs1, hs2, hs3, hs4, hs5, hs6, hs7⟩ := hS; go_simp; try with_reducible rfl))
    try simp only [List.getElem_toArray, List.getElem_cons_zero, List.getElem_cons_succ, Act.put, List.setIfInBounds_toArray, List.set_cons_zero, List.set_cons_succ]
    refine wpAnyH_take (i := 5) (v := .map none) rfl (by kernel_rfl) (by kernel_rfl) (by kernel_rfl) (fun _ _ _ h => h) (Or.inl ⟨by rfl, fun w' hS => by obtain ⟨hs0, hs1, hs2, hs3, hs4, hs5, hs6, hs7⟩ := hS; exact exec_look (.tmp 21) (.tmp 22) 88 false rfl _ rfl _ rfl (hok ▸ (keys_look hs7 hko).1)⟩) (by assumption) ?_
    try simp only [List.getElem_toArray, List.getElem_cons_zero, List.getElem_cons_succ, Act.put, List.setIfInBounds_toArray, List.set_cons_zero, List.set_cons_succ]
    first
      | (refine wpAnyH_take (i := 6) rfl (by kernel_rfl) (by kernel_rfl) (by kernel_rfl) (fun _ _ _ h => h) (Or.inr ⟨by rfl, rfl⟩) (by assumption) ?_)
      | (refine wpAnyH_take (i := 6) (v := ?vb16) rfl (by kernel_rfl) (by kernel_rfl) (by kernel_rfl) (fun _ _ _ h => h) (Or.inl ⟨by rfl, ?hyb16⟩) (by assumption) ?rb16; case hyb16 => (rintro w' hS; obtain ⟨hs0, hs1, hs2, hs3, hs4, hs5, hs6, hs7⟩ := hS; go_simp; try with_reducible rfl))
    try simp only [List.getElem_toArray, List.getElem_cons_zero, List.getElem_cons_succ, Act.put, List.setIfInBounds_toArray, List.set_cons_zero, List.set_cons_succ]
    refine wpAnyH_ready (rs := [7]) (by kernel_rfl) (by simp) ?_
    refine AllReadyH.cons (o := _) rfl (fun K hK => ?_) AllReadyH.nil
    refine step_deleteNil (by rfl) (.tmp 23) (.tmp 24) 87 35 (by rfl) 107 keyedDot Tryz.underlying87 rfl _ _ rfl hdk ?_
    try dsimp only
    refine hK.out _ _ (hS3 _ (Below.refl _ _).drew) (fun hHeld => ?_)
    clear hK K
    try simp only [List.getElem_toArray, List.getElem_cons_zero, List.getElem_cons_succ, Act.put, List.setIfInBounds_toArray, List.set_cons_zero, List.set_cons_succ]
    refine wpAnyH_done (by kernel_rfl) ?_ _
    go_wp2_with fail
    have hlen : ∀ w', SetIs w' none ([] : List DotN) → ∀ ty, (Builtin.len_ #[87] ty #[.map none]).run Tryz.prog w' = .ok (.int .i64 0) w' := fun w' hs ty => hs.len ty
    have hS4 : ∀ v, Below w3.heap.size w3 v → v.cell? ⟨p, 3, none⟩ = some (.map (B1 .keys)) ∧ v.cell? ⟨bk, 0, none⟩ = some (.string (str k1)) ∧ v.cell? ⟨bk, 1, none⟩ = some (.string (str k2)) ∧ v.cell? ⟨bk, 2, none⟩ = some (.string (str k3)) ∧ KeysIs v (B1 .keys) B1 ∧ SetIs v none ([] : List DotN) := fun v hv => ⟨(P3'.below hv).obj.cell 3 rfl, (o8.below hv l8).cell 0 rfl, (o8.below hv l8).cell 1 rfl, (o8.below hv l8).cell 2 rfl, (P3'.below hv).part .keys, .inl ⟨rfl, rfl⟩⟩
    refine wp_region_held_drew (S := fun w' => w'.cell? ⟨p, 3, none⟩ = some (.map (B1 .keys)) ∧ w'.cell? ⟨bk, 0, none⟩ = some (.string (str k1)) ∧ w'.cell? ⟨bk, 1, none⟩ = some (.string (str k2)) ∧ w'.cell? ⟨bk, 2, none⟩ = some (.string (str k3)) ∧ KeysIs w' (B1 .keys) B1 ∧ SetIs w' none ([] : List DotN)) (by kernel_rfl) (hS4 _ (Below.refl _ _).drew.drew) (fun hHeld => ?_)
    first
      | (refine wpAnyH_take (i := 0) rfl (by kernel_rfl) (by kernel_rfl) (by kernel_rfl) (fun _ _ _ h => h) (Or.inr ⟨by rfl, rfl⟩) (by assumption) ?_)
      | (refine wpAnyH_take (i := 0) (v := ?vb17) rfl (by kernel_rfl) (by kernel_rfl) (by kernel_rfl) (fun _ _ _ h => h) (Or.inl ⟨by rfl, ?hyb17⟩) (by assumption) ?rb17; case hyb17 => (rintro w' hS; obtain ⟨hs0, hs1, hs2, hs3, hs4, hs5⟩ := hS; go_simp; try with_reducible rfl))
    try simp only [List.getElem_toArray, List.getElem_cons_zero, Act.put, List.setIfInBounds_toArray, List.set_cons_zero, List.set_cons_succ]
    first
      | (refine wpAnyH_take (i := 1) rfl (by kernel_rfl) (by kernel_rfl) (by kernel_rfl) (fun _ _ _ h => h) (Or.inr ⟨by rfl, rfl⟩) (by assumption) ?_)
      | (refine wpAnyH_take (i := 1) (v := ?vb18) rfl (by kernel_rfl) (by kernel_rfl) (by kernel_rfl) (fun _ _ _ h => h) (Or.inl ⟨by rfl, ?hyb18⟩) (by assumption) ?rb18; case hyb18 => (rintro w' hS; obtain ⟨hs0, hs1, hs2, hs3, hs4, hs5⟩ := hS; go_simp; try with_reducible rfl))
    try simp only [List.getElem_toArray, List.getElem_cons_zero, List.getElem_cons_succ, Act.put, List.setIfInBounds_toArray, List.set_cons_zero, List.set_cons_succ]
    first
      | (refine wpAnyH_take (i := 2) rfl (by kernel_rfl) (by kernel_rfl) (by kernel_rfl) (fun _ _ _ h => h) (Or.inr ⟨by rfl, rfl⟩) (by assumption) ?_)
      | (refine wpAnyH_take (i := 2) (v := ?vb19) rfl (by kernel_rfl) (by kernel_rfl) (by kernel_rfl) (fun _ _ _ h => h) (Or.inl ⟨by rfl, ?hyb19⟩) (by assumption) ?rb19; case hyb19 => (rintro w' hS; obtain ⟨hs0, hs1, hs2, hs3, hs4, hs5⟩ := hS; go_simp; try with_reducible rfl))
    try simp only [List.getElem_toArray, List.getElem_cons_zero, List.getElem_cons_succ, Act.put, List.setIfInBounds_toArray, List.set_cons_zero, List.set_cons_succ]
    first
      | (refine wpAnyH_take (i := 3) rfl (by kernel_rfl) (by kernel_rfl) (by kernel_rfl) (fun _ _ _ h => h) (Or.inr ⟨by rfl, rfl⟩) (by assumption) ?_)
      | (refine wpAnyH_take (i := 3) (v := ?vb20) rfl (by kernel_rfl) (by kernel_rfl) (by kernel_rfl) (fun _ _ _ h => h) (Or.inl ⟨by rfl, ?hyb20⟩) (by assumption) ?rb20; case hyb20 => (rintro w' hS; obtain ⟨hs0, hs1, hs2, hs3, hs4, hs5⟩ := hS; go_simp; try with_reducible rfl))
    try simp only [List.getElem_toArray, List.getElem_cons_zero, List.getElem_cons_succ, Act.put, List.setIfInBounds_toArray, List.set_cons_zero, List.set_cons_succ]
    first
      | (refine wpAnyH_take (i := 4) rfl (by kernel_rfl) (by kernel_rfl) (by kernel_rfl) (fun _ _ _ h => h) (Or.inr ⟨by rfl, rfl⟩) (by assumption) ?_)
      | (refine wpAnyH_take (i := 4) (v := ?vb21) rfl (by kernel_rfl) (by kernel_rfl) (by kernel_rfl) (fun _ _ _ h => h) (Or.inl ⟨by rfl, ?hyb21⟩) (by assumption) ?rb21; case hyb21 => (rintro w' hS; obtain ⟨hs0, hs1, hs2, hs3, hs4, hs5⟩ := hS; go_simp; try with_reducible rfl))
    try simp only [List.getElem_toArray, List.getElem_cons_zero, List.getElem_cons_succ, Act.put, List.setIfInBounds_toArray, List.set_cons_zero, List.set_cons_succ]
    refine wpAnyH_take (i := 5) (v := .map none) rfl (by kernel_rfl) (by kernel_rfl) (by kernel_rfl) (fun _ _ _ h => h) (Or.inl ⟨by rfl, fun w' hS => by obtain ⟨hs0, hs1, hs2, hs3, hs4, hs5⟩ := hS; exact exec_look (.tmp 28) (.tmp 29) 88 false rfl _ rfl _ rfl (hok ▸ (keys_look hs4 hko).1)⟩) (by assumption) ?_
    try simp only [List.getElem_toArray, List.getElem_cons_zero, List.getElem_cons_succ, Act.put, List.setIfInBounds_toArray, List.set_cons_zero, List.set_cons_succ]
    refine wpAnyH_take (i := 6) (v := .int .i64 0) rfl (by kernel_rfl) (by kernel_rfl) (by kernel_rfl) (fun _ _ _ h => h) (Or.inl ⟨by rfl, fun w' hS => by obtain ⟨hs0, hs1, hs2, hs3, hs4, hs5⟩ := hS; exact exec_len (.tmp 30) 87 rfl _ rfl (hlen w' hs5 _)⟩) (by assumption) ?_
    try simp only [List.getElem_toArray, List.getElem_cons_zero, List.getElem_cons_succ, Act.put, List.setIfInBounds_toArray, List.set_cons_zero, List.set_cons_succ]
    first
      | (refine wpAnyH_take (i := 7) rfl (by kernel_rfl) (by kernel_rfl) (by kernel_rfl) (fun _ _ _ h => h) (Or.inr ⟨by rfl, rfl⟩) (by assumption) ?_)
      | (refine wpAnyH_take (i := 7) (v := ?vb22) rfl (by kernel_rfl) (by kernel_rfl) (by kernel_rfl) (fun _ _ _ h => h) (Or.inl ⟨by rfl, ?hyb22⟩) (by assumption) ?rb22; case hyb22 => (rintro w' hS; obtain ⟨hs0, hs1, hs2, hs3, hs4, hs5⟩ := hS; go_simp; try with_reducible rfl))
    try simp only [List.getElem_toArray, List.getElem_cons_zero, List.getElem_cons_succ, Act.put, List.setIfInBounds_toArray, List.set_cons_zero, List.set_cons_succ]
    refine wpAnyH_done (by kernel_rfl) ?_ _
    go_wp2_with fail
    have c3 : Below w3.heap.size w3 w3.drew.drew := (Below.refl _ _).drew.drew
    have P5 := P3'.below c3
    have o9 := o8.below c3 l8
    have hk05 := hk03.trans (Keeps.new (F := OwnB p B) c3) (fun _ _ h => h)
    clear hS3 hS4 hlen P3 P3' o8 d3 c3 hk03 hHeld
    rcases P5.part .keys with ⟨e, h0⟩ | ⟨q, nq, Dq, e, hmq, hDq⟩
    · have p0 := P5.obj.cell 3 rfl
      rw [e] at p0
      have y0 := o9.cell 0 rfl; have y1 := o9.cell 1 rfl; have y2 := o9.cell 2 rfl
      refine wp_region_held_drew (S := fun w' => w'.cell? ⟨p, 3, none⟩ = some (.map none) ∧ w'.cell? ⟨bk, 0, none⟩ = some (.string (str k1)) ∧ w'.cell? ⟨bk, 1, none⟩ = some (.string (str k2)) ∧ w'.cell? ⟨bk, 2, none⟩ = some (.string (str k3))) (by kernel_rfl) (⟨p0, y0, y1, y2⟩) (fun hHeld => ?_)
      first
        | (refine wpAnyH_take (i := 0) rfl (by kernel_rfl) (by kernel_rfl) (by kernel_rfl) (fun _ _ _ h => h) (Or.inr ⟨by rfl, rfl⟩) (by assumption) ?_)
        | (refine wpAnyH_take (i := 0) (v := ?vb23) rfl (by kernel_rfl) (by kernel_rfl) (by kernel_rfl) (fun _ _ _ h => h) (Or.inl ⟨by rfl, ?hyb23⟩) (by assumption) ?rb23; case hyb23 => (rintro w' hS; obtain ⟨hs0, hs1, hs2, hs3⟩ := hS; go_simp; try with_reducible rfl))
      try simp only [List.getElem_toArray, List.getElem_cons_zero, Act.put, List.setIfInBounds_toArray, List.set_cons_zero, List.set_cons_succ]
      first
        | (refine wpAnyH_take (i := 1) rfl (by kernel_rfl) (by kernel_rfl) (by kernel_rfl) (fun _ _ _ h => h) (Or.inr ⟨by rfl, rfl⟩) (by assumption) ?_)
        | (refine wpAnyH_take (i := 1) (v := ?vb24) rfl (by kernel_rfl) (by kernel_rfl) (by kernel_rfl) (fun _ _ _ h => h) (Or.inl ⟨by rfl, ?hyb24⟩) (by assumption) ?rb24; case hyb24 => (rintro w' hS; obtain ⟨hs0, hs1, hs2, hs3⟩ := hS; go_simp; try with_reducible rfl))
      try simp only [List.getElem_toArray, List.getElem_cons_zero, List.getElem_cons_succ, Act.put, List.setIfInBounds_toArray, List.set_cons_zero, List.set_cons_succ]
      first
        | (refine wpAnyH_take (i := 2) rfl (by kernel_rfl) (by kernel_rfl) (by kernel_rfl) (fun _ _ _ h => h) (Or.inr ⟨by rfl, rfl⟩) (by assumption) ?_)
        | (refine wpAnyH_take (i := 2) (v := ?vb25) rfl (by kernel_rfl) (by kernel_rfl) (by kernel_rfl) (fun _ _ _ h => h) (Or.inl ⟨by rfl, ?hyb25⟩) (by assumption) ?rb25; case hyb25 => (rintro w' hS; obtain ⟨hs0, hs1, hs2, hs3⟩ := hS; go_simp; try with_reducible rfl))
      try simp only [List.getElem_toArray, List.getElem_cons_zero, List.getElem_cons_succ, Act.put, List.setIfInBounds_toArray, List.set_cons_zero, List.set_cons_succ]
      first
        | (refine wpAnyH_take (i := 3) rfl (by kernel_rfl) (by kernel_rfl) (by kernel_rfl) (fun _ _ _ h => h) (Or.inr ⟨by rfl, rfl⟩) (by assumption) ?_)
        | (refine wpAnyH_take (i := 3) (v := ?vb26) rfl (by kernel_rfl) (by kernel_rfl) (by kernel_rfl) (fun _ _ _ h => h) (Or.inl ⟨by rfl, ?hyb26⟩) (by assumption) ?rb26; case hyb26 => (rintro w' hS; obtain ⟨hs0, hs1, hs2, hs3⟩ := hS; go_simp; try with_reducible rfl))
      try simp only [List.getElem_toArray, List.getElem_cons_zero, List.getElem_cons_succ, Act.put, List.setIfInBounds_toArray, List.set_cons_zero, List.set_cons_succ]
      first
        | (refine wpAnyH_take (i := 4) rfl (by kernel_rfl) (by kernel_rfl) (by kernel_rfl) (fun _ _ _ h => h) (Or.inr ⟨by rfl, rfl⟩) (by assumption) ?_)
        | (refine wpAnyH_take (i := 4) (v := ?vb27) rfl (by kernel_rfl) (by kernel_rfl) (by kernel_rfl) (fun _ _ _ h => h) (Or.inl ⟨by rfl, ?hyb27⟩) (by assumption) ?rb27; case hyb27 => (rintro w' hS; obtain ⟨hs0, hs1, hs2, hs3⟩ := hS; go_simp; try with_reducible rfl))
      try simp only [List.getElem_toArray, List.getElem_cons_zero, List.getElem_cons_succ, Act.put, List.setIfInBounds_toArray, List.set_cons_zero, List.set_cons_succ]
      refine wpAnyH_ready (rs := [5]) (by kernel_rfl) (by simp) ?_
      refine AllReadyH.cons (o := _) rfl (fun K hK => ?_) AllReadyH.nil
      refine step_deleteNil (by rfl) (.tmp 36) (.tmp 37) 88 39 (by rfl) 87 keyedKey Tryz.underlying88 rfl _ _ rfl hkey ?_
      try dsimp only
      refine hK.out _ _ (⟨p0, y0, y1, y2⟩) (fun hHeld => ?_)
      clear hK K
      try simp only [List.getElem_toArray, List.getElem_cons_zero, List.getElem_cons_succ, Act.put, List.setIfInBounds_toArray, List.set_cons_zero, List.set_cons_succ]
      refine wpAnyH_done (by kernel_rfl) ?_ _
      go_wp2
      go_end0
      refine ⟨rfl, B1, P5.below (Below.refl _ _).drew, hnone, hk05.trans (Keeps.new (F := OwnB p B) (Below.refl _ _).drew) (fun _ _ h => h), fun i b e => ?_⟩
      rw [hbd]
      exact hown2 i b e
    · have p0 := P5.obj.cell 3 rfl
      rw [e] at p0
      have y0 := o9.cell 0 rfl; have y1 := o9.cell 1 rfl; have y2 := o9.cell 2 rfl
      have nqp : q ≠ p := fun c => P5.not_obj .keys (c ▸ e)
      have nqk : q ≠ bk := (P5.blk .keys q e).not_obj o9
      refine wp_region_held_drew (S := fun w' => w'.cell? ⟨p, 3, none⟩ = some (.map (some q)) ∧ w'.cell? ⟨bk, 0, none⟩ = some (.string (str k1)) ∧ w'.cell? ⟨bk, 1, none⟩ = some (.string (str k2)) ∧ w'.cell? ⟨bk, 2, none⟩ = some (.string (str k3))) (by kernel_rfl) (⟨p0, y0, y1, y2⟩) (fun hHeld => ?_)
      first
        | (refine wpAnyH_take (i := 0) rfl (by kernel_rfl) (by kernel_rfl) (by kernel_rfl) (fun _ _ _ h => h) (Or.inr ⟨by rfl, rfl⟩) (by assumption) ?_)
        | (refine wpAnyH_take (i := 0) (v := ?vb28) rfl (by kernel_rfl) (by kernel_rfl) (by kernel_rfl) (fun _ _ _ h => h) (Or.inl ⟨by rfl, ?hyb28⟩) (by assumption) ?rb28; case hyb28 => (rintro w' hS; obtain ⟨hs0, hs1, hs2, hs3⟩ := hS; go_simp; try with_reducible rfl))
      try simp only [List.getElem_toArray, List.getElem_cons_zero, Act.put, List.setIfInBounds_toArray, List.set_cons_zero, List.set_cons_succ]
      first
        | (refine wpAnyH_take (i := 1) rfl (by kernel_rfl) (by kernel_rfl) (by kernel_rfl) (fun _ _ _ h => h) (Or.inr ⟨by rfl, rfl⟩) (by assumption) ?_)
        | (refine wpAnyH_take (i := 1) (v := ?vb29) rfl (by kernel_rfl) (by kernel_rfl) (by kernel_rfl) (fun _ _ _ h => h) (Or.inl ⟨by rfl, ?hyb29⟩) (by assumption) ?rb29; case hyb29 => (rintro w' hS; obtain ⟨hs0, hs1, hs2, hs3⟩ := hS; go_simp; try with_reducible rfl))
      try simp only [List.getElem_toArray, List.getElem_cons_zero, List.getElem_cons_succ, Act.put, List.setIfInBounds_toArray, List.set_cons_zero, List.set_cons_succ]
      first
        | (refine wpAnyH_take (i := 2) rfl (by kernel_rfl) (by kernel_rfl) (by kernel_rfl) (fun _ _ _ h => h) (Or.inr ⟨by rfl, rfl⟩) (by assumption) ?_)
        | (refine wpAnyH_take (i := 2) (v := ?vb30) rfl (by kernel_rfl) (by kernel_rfl) (by kernel_rfl) (fun _ _ _ h => h) (Or.inl ⟨by rfl, ?hyb30⟩) (by assumption) ?rb30; case hyb30 => (rintro w' hS; obtain ⟨hs0, hs1, hs2, hs3⟩ := hS; go_simp; try with_reducible rfl))
      try simp only [List.getElem_toArray, List.getElem_cons_zero, List.getElem_cons_succ, Act.put, List.setIfInBounds_toArray, List.set_cons_zero, List.set_cons_succ]
      first
        | (refine wpAnyH_take (i := 3) rfl (by kernel_rfl) (by kernel_rfl) (by kernel_rfl) (fun _ _ _ h => h) (Or.inr ⟨by rfl, rfl⟩) (by assumption) ?_)
        | (refine wpAnyH_take (i := 3) (v := ?vb31) rfl (by kernel_rfl) (by kernel_rfl) (by kernel_rfl) (fun _ _ _ h => h) (Or.inl ⟨by rfl, ?hyb31⟩) (by assumption) ?rb31; case hyb31 => (rintro w' hS; obtain ⟨hs0, hs1, hs2, hs3⟩ := hS; go_simp; try with_reducible rfl))
      try simp only [List.getElem_toArray, List.getElem_cons_zero, List.getElem_cons_succ, Act.put, List.setIfInBounds_toArray, List.set_cons_zero, List.set_cons_succ]
      first
        | (refine wpAnyH_take (i := 4) rfl (by kernel_rfl) (by kernel_rfl) (by kernel_rfl) (fun _ _ _ h => h) (Or.inr ⟨by rfl, rfl⟩) (by assumption) ?_)
        | (refine wpAnyH_take (i := 4) (v := ?vb32) rfl (by kernel_rfl) (by kernel_rfl) (by kernel_rfl) (fun _ _ _ h => h) (Or.inl ⟨by rfl, ?hyb32⟩) (by assumption) ?rb32; case hyb32 => (rintro w' hS; obtain ⟨hs0, hs1, hs2, hs3⟩ := hS; go_simp; try with_reducible rfl))
      try simp only [List.getElem_toArray, List.getElem_cons_zero, List.getElem_cons_succ, Act.put, List.setIfInBounds_toArray, List.set_cons_zero, List.set_cons_succ]
      refine wpAnyH_ready (rs := [5]) (by kernel_rfl) (by simp) ?_
      refine AllReadyH.cons (o := _) rfl (fun K hK => ?_) AllReadyH.nil
      refine step_delete (by rfl) (.tmp 36) (.tmp 37) 88 39 (by rfl) 87 keyedKey Tryz.underlying88 heldElem q nq _ rfl hmq.drew _ _ rfl hkey ?_; intro w6 hm6 hk6; have ob6 := P5.obj.drew.keeps hk6 (fun c => nqp c.symm); have ok6 := o9.drew.keeps hk6 (fun c => nqk c.symm); have x0 := ob6.cell 3 rfl; rw [e] at x0
      try dsimp only
      refine hK.out _ _ (⟨x0, ok6.cell 0 rfl, ok6.cell 1 rfl, ok6.cell 2 rfl⟩) (fun hHeld => ?_)
      clear hK K
      try simp only [List.getElem_toArray, List.getElem_cons_zero, List.getElem_cons_succ, Act.put, List.setIfInBounds_toArray, List.set_cons_zero, List.set_cons_succ]
      refine wpAnyH_done (by kernel_rfl) ?_ _
      go_wp2
      go_end0
      have hkd : Keeps (fun _ : Nat => False) w3.drew.drew w3.drew.drew.drew := Keeps.new (Below.refl _ _).drew
      have hty := hmq.tidy keyedKey
      have hkd6 := KeysD.del (B' := B1) (k := (k1, k2, k3)) hDq hty hko hok (fun _ _ => rfl)
      rw [show keyT (k1, k2, k3) = keyK k1 k2 k3 from rfl] at hkd6
      have hof0 : (f (k1, k2, k3)).filter (fun y => !sameD y ⟨dev, inc, seq⟩) = [] := by rw [hf0]; rfl
      refine ⟨rfl, B1, (P5.below (Below.refl _ _).drew).setKey (k1, k2, k3) (fun _ _ _ => rfl) (hk6.mono fun k _ c => .inr (by rw [e, c])) ob6 (fun b e => .inl e) (fun b e => by rw [hok] at e; cases e) (.inr ⟨q, nq, _, e, hm6, hkd6⟩) (fun _ _ => rfl) (by rw [hok, hof0]; exact .inl ⟨rfl, rfl⟩), hnone, ?_, fun i b e => ?_⟩
      · refine (hk05.trans hkd (fun _ _ h => h.elim)).trans hk6 fun k hk c => ?_
        rcases hown2 .keys k (c ▸ e) with ⟨j, c2⟩ | c2
        · exact .inr ⟨j, c2⟩
        · omega
      · rw [hbd]
        exact hown2 i b e
  | some b =>
    obtain ⟨n2, D2, hm2, hD2⟩ : ∃ n2 D2, w3.ownsMap Tryz.prog 35 unitElem b n2 D2 ∧ SetD D2 (f (k1, k2, k3)) := by
      rcases hP3of with ⟨e, -⟩ | ⟨b', n, D, e, h1, h2⟩
      · rw [hok] at e
        cases e
      · rw [hok] at e
        cases e
        exact ⟨n, D, h1, h2⟩
    have nbp : b ≠ p := fun c => P3.not_obj (.of (k1, k2, k3)) (c ▸ hok)
    have nbk : b ≠ bk := (ownsMap_blk hm2).not_obj o8
    have nbd : b ≠ bd := (ownsMap_blk hm2).not_obj d3
    have nbq : ∀ q, B1 .keys = some q → q ≠ b := fun q e c => by
      have := P3.inj .keys (.of (k1, k2, k3)) q e (c ▸ hok)
      cases this
    have hsd := hD2.del (hm2.tidy keyedDot) (hnd _) hx
    clear hP3of hnd hkn
    go_wp2_with fail
    refine wp_region_held_drew (S := fun w' => w'.cell? ⟨p, 3, none⟩ = some (.map (B1 .keys)) ∧ w'.cell? ⟨bd, 0, none⟩ = some (.int .i64 dev) ∧ w'.cell? ⟨bd, 1, none⟩ = some (.int .i64 inc) ∧ w'.cell? ⟨bd, 2, none⟩ = some (.int .i64 seq) ∧ w'.cell? ⟨bk, 0, none⟩ = some (.string (str k1)) ∧ w'.cell? ⟨bk, 1, none⟩ = some (.string (str k2)) ∧ w'.cell? ⟨bk, 2, none⟩ = some (.string (str k3)) ∧ KeysIs w' (B1 .keys) B1) (by kernel_rfl) (hS3 _ (Below.refl _ _).drew) (fun hHeld => ?_)
    first
      | (refine wpAnyH_take (i := 0) rfl (by kernel_rfl) (by kernel_rfl) (by kernel_rfl) (fun _ _ _ h => h) (Or.inr ⟨by rfl, rfl⟩) (by assumption) ?_)
      | (refine wpAnyH_take (i := 0) (v := ?vb50) rfl (by kernel_rfl) (by kernel_rfl) (by kernel_rfl) (fun _ _ _ h => h) (Or.inl ⟨by rfl, ?hyb50⟩) (by assumption) ?rb50; case hyb50 => (rintro w' hS; obtain ⟨hs0, hs1, hs2, hs3, hs4, hs5, hs6, hs7⟩ := hS; go_simp; try with_reducible rfl))
    try simp only [List.getElem_toArray, List.getElem_cons_zero, Act.put, List.setIfInBounds_toArray, List.set_cons_zero, List.set_cons_succ]
    first
      | (refine wpAnyH_take (i := 1) rfl (by kernel_rfl) (by kernel_rfl) (by kernel_rfl) (fun _ _ _ h => h) (Or.inr ⟨by rfl, rfl⟩) (by assumption) ?_)
      | (refine wpAnyH_take (i := 1) (v := ?vb51) rfl (by kernel_rfl) (by kernel_rfl) (by kernel_rfl) (fun _ _ _ h => h) (Or.inl ⟨by rfl, ?hyb51⟩) (by assumption) ?rb51; case hyb51 => (rintro w' hS; obtain ⟨hs0, hs1, hs2, hs3, hs4, hs5, hs6, hs7⟩ := hS; go_simp; try with_reducible rfl))
    try simp only [List.getElem_toArray, List.getElem_cons_zero, List.getElem_cons_succ, Act.put, List.setIfInBounds_toArray, List.set_cons_zero, List.set_cons_succ]
    first
      | (refine wpAnyH_take (i := 2) rfl (by kernel_rfl) (by kernel_rfl) (by kernel_rfl) (fun _ _ _ h => h) (Or.inr ⟨by rfl, rfl⟩) (by assumption) ?_)
      | (refine wpAnyH_take (i := 2) (v := ?vb52) rfl (by kernel_rfl) (by kernel_rfl) (by kernel_rfl) (fun _ _ _ h => h) (Or.inl ⟨by rfl, ?hyb52⟩) (by assumption) ?rb52; case hyb52 => (rintro w' hS; obtain ⟨hs0, hs1, hs2, hs3, hs4, hs5, hs6, hs7⟩ := hS; go_simp; try with_reducible rfl))
    try simp only [List.getElem_toArray, List.getElem_cons_zero, List.getElem_cons_succ, Act.put, List.setIfInBounds_toArray, List.set_cons_zero, List.set_cons_succ]
    first
      | (refine wpAnyH_take (i := 3) rfl (by kernel_rfl) (by kernel_rfl) (by kernel_rfl) (fun _ _ _ h => h) (Or.inr ⟨by rfl, rfl⟩) (by assumption) ?_)
      | (refine wpAnyH_take (i := 3) (v := ?vb53) rfl (by kernel_rfl) (by kernel_rfl) (by kernel_rfl) (fun _ _ _ h => h) (Or.inl ⟨by rfl, ?hyb53⟩) (by assumption) ?rb53; case hyb53 => (rintro w' hS; obtain ⟨hs0, hs1, hs2, hs3, hs4, hs5, hs6, hs7⟩ := hS; go_simp; try with_reducible rfl))
    try simp only [List.getElem_toArray, List.getElem_cons_zero, List.getElem_cons_succ, Act.put, List.setIfInBounds_toArray, List.set_cons_zero, List.set_cons_succ]
    first
      | (refine wpAnyH_take (i := 4) rfl (by kernel_rfl) (by kernel_rfl) (by kernel_rfl) (fun _ _ _ h => h) (Or.inr ⟨by rfl, rfl⟩) (by assumption) ?_)
      | (refine wpAnyH_take (i := 4) (v := ?vb54) rfl (by kernel_rfl) (by kernel_rfl) (by kernel_rfl) (fun _ _ _ h => h) (Or.inl ⟨by rfl, ?hyb54⟩) (by assumption) ?rb54; case hyb54 => (rintro w' hS; obtain ⟨hs0, hs1, hs2, hs3, hs4, hs5, hs6, hs7⟩ := hS; go_simp; try with_reducible rfl))
    try simp only [List.getElem_toArray, List.getElem_cons_zero, List.getElem_cons_succ, Act.put, List.setIfInBounds_toArray, List.set_cons_zero, List.set_cons_succ]
    refine wpAnyH_take (i := 5) (v := .map (some b)) rfl (by kernel_rfl) (by kernel_rfl) (by kernel_rfl) (fun _ _ _ h => h) (Or.inl ⟨by rfl, fun w' hS => by obtain ⟨hs0, hs1, hs2, hs3, hs4, hs5, hs6, hs7⟩ := hS; exact exec_look (.tmp 21) (.tmp 22) 88 false rfl _ rfl _ rfl (hok ▸ (keys_look hs7 hko).1)⟩) (by assumption) ?_
    try simp only [List.getElem_toArray, List.getElem_cons_zero, List.getElem_cons_succ, Act.put, List.setIfInBounds_toArray, List.set_cons_zero, List.set_cons_succ]
    first
      | (refine wpAnyH_take (i := 6) rfl (by kernel_rfl) (by kernel_rfl) (by kernel_rfl) (fun _ _ _ h => h) (Or.inr ⟨by rfl, rfl⟩) (by assumption) ?_)
      | (refine wpAnyH_take (i := 6) (v := ?vb55) rfl (by kernel_rfl) (by kernel_rfl) (by kernel_rfl) (fun _ _ _ h => h) (Or.inl ⟨by rfl, ?hyb55⟩) (by assumption) ?rb55; case hyb55 => (rintro w' hS; obtain ⟨hs0, hs1, hs2, hs3, hs4, hs5, hs6, hs7⟩ := hS; go_simp; try with_reducible rfl))
    try simp only [List.getElem_toArray, List.getElem_cons_zero, List.getElem_cons_succ, Act.put, List.setIfInBounds_toArray, List.set_cons_zero, List.set_cons_succ]
    refine wpAnyH_ready (rs := [7]) (by kernel_rfl) (by simp) ?_
    refine AllReadyH.cons (o := _) rfl (fun K hK => ?_) AllReadyH.nil
    refine step_delete (by rfl) (.tmp 23) (.tmp 24) 87 35 (by rfl) 107 keyedDot Tryz.underlying87 unitElem b n2 _ rfl hm2.drew _ _ rfl hdk ?_; intro w4 hm4 hk4; have ob4 := P3.obj.drew.keeps hk4 (fun c => nbp c.symm); have ok4 := o8.drew.keeps hk4 (fun c => nbk c.symm); have od4 := d3.drew.keeps hk4 (fun c => nbd c.symm); have hke4 := (P3.part .keys).keeps (Keeps.new (F := fun x => x = b) (Below.refl w3.heap.size w3).drew |>.trans hk4 (fun _ _ h => h)) nbq
    try dsimp only
    refine hK.out _ _ (⟨ob4.cell 3 rfl, od4.cell 0 rfl, od4.cell 1 rfl, od4.cell 2 rfl, ok4.cell 0 rfl, ok4.cell 1 rfl, ok4.cell 2 rfl, hke4⟩) (fun hHeld => ?_)
    clear hK K
    try simp only [List.getElem_toArray, List.getElem_cons_zero, List.getElem_cons_succ, Act.put, List.setIfInBounds_toArray, List.set_cons_zero, List.set_cons_succ]
    refine wpAnyH_done (by kernel_rfl) ?_ _
    go_wp2_with fail
    have hkd : Keeps (fun x => x = b) w3 w3.drew := Keeps.new (Below.refl _ _).drew
    have P4 : Parts w4 p B1 rs m.ctx (sortD (m.dead ++ [⟨dev, inc, seq⟩])) (fun k => (f k).filter fun y => !sameD y ⟨dev, inc, seq⟩) :=
      P3.setOf (k1, k2, k3) b hok (hkd.trans hk4 (fun _ _ h => h)) (fun _ h => .inl h) (fun k hk => hout k hk) (.inr ⟨b, n2, _, rfl, hm4, hsd⟩)
    have o4 : ObjAt w4 bk [.string (str k1), .string (str k2), .string (str k3)] := o8.drew.keeps hk4 (fun c => nbk c.symm)
    have hbo : ∃ j, B1 j = some b := ⟨_, hok⟩
    have hbB : OwnB p B b ∨ bd ≤ b := (hown2 _ b hok).imp (fun c => .inr c) id
    have hk04 : Keeps (OwnB p B) w w4 := (hk03.trans (Keeps.new (F := OwnB p B) (Below.refl w3.heap.size w3).drew) (fun _ _ h => h)).trans hk4 fun k hk c => by
      rcases hbB with h1 | h1
      · exact c ▸ h1
      · omega
    have hfn := fun k (hk : k ≠ (k1, k2, k3)) => hout k hk
    obtain ⟨L, hL⟩ : ∃ L, (f (k1, k2, k3)).filter (fun y => !sameD y ⟨dev, inc, seq⟩) = L := ⟨_, rfl⟩
    have hs4 := P4.part (.of (k1, k2, k3))
    rw [show PartI w4 B1 rs m.ctx (sortD (m.dead ++ [⟨dev, inc, seq⟩])) (fun k => (f k).filter fun y => !sameD y ⟨dev, inc, seq⟩) (.of (k1, k2, k3)) = SetIs w4 (B1 (.of (k1, k2, k3))) ((f (k1, k2, k3)).filter fun y => !sameD y ⟨dev, inc, seq⟩) from rfl, hok, hL] at hs4
    have hS4 : ∀ v, Below w4.heap.size w4 v → v.cell? ⟨p, 3, none⟩ = some (.map (B1 .keys)) ∧ v.cell? ⟨bk, 0, none⟩ = some (.string (str k1)) ∧ v.cell? ⟨bk, 1, none⟩ = some (.string (str k2)) ∧ v.cell? ⟨bk, 2, none⟩ = some (.string (str k3)) ∧ KeysIs v (B1 .keys) B1 ∧ SetIs v (some b) L := fun v hv => ⟨(P4.below hv).obj.cell 3 rfl, (o4.below hv o4.lt).cell 0 rfl, (o4.below hv o4.lt).cell 1 rfl, (o4.below hv o4.lt).cell 2 rfl, (P4.below hv).part .keys, hs4.keeps (Keeps.new (F := fun _ => False) hv) (fun _ _ h => h)⟩
    have hlen : ∀ w', SetIs w' (some b) L → ∀ ty, (Builtin.len_ #[87] ty #[.map (some b)]).run Tryz.prog w' = .ok (.int .i64 (L.length : Int)) w' := fun w' hs ty => hs.len ty
    have c4 : Below w4.heap.size w4 w4.drew := (Below.refl _ _).drew
    have P5 := P4.below c4
    have o5 := o4.below c4 o4.lt
    have hk05 := hk04.trans (Keeps.new (F := OwnB p B) c4) (fun _ _ h => h)
    cases L with
    | cons y t =>
      have hlz : ((((y :: t).length : Nat) : Int) == 0) = false := by rw [List.length_cons]; simp; omega
      obtain ⟨N, hN⟩ : ∃ N, (((y :: t).length : Nat) : Int) = N := ⟨_, rfl⟩
      rw [hN] at hlz hlen
      clear hS3 P3 o8 d3 hk03 hsd hm2 hD2 hm4 hk4 hN
      refine wp_region_held_drew (S := fun w' => w'.cell? ⟨p, 3, none⟩ = some (.map (B1 .keys)) ∧ w'.cell? ⟨bk, 0, none⟩ = some (.string (str k1)) ∧ w'.cell? ⟨bk, 1, none⟩ = some (.string (str k2)) ∧ w'.cell? ⟨bk, 2, none⟩ = some (.string (str k3)) ∧ KeysIs w' (B1 .keys) B1 ∧ SetIs w' (some b) (y :: t)) (by kernel_rfl) (hS4 _ (Below.refl _ _).drew) (fun hHeld => ?_)
      first
        | (refine wpAnyH_take (i := 0) rfl (by kernel_rfl) (by kernel_rfl) (by kernel_rfl) (fun _ _ _ h => h) (Or.inr ⟨by rfl, rfl⟩) (by assumption) ?_)
        | (refine wpAnyH_take (i := 0) (v := ?vb38) rfl (by kernel_rfl) (by kernel_rfl) (by kernel_rfl) (fun _ _ _ h => h) (Or.inl ⟨by rfl, ?hyb38⟩) (by assumption) ?rb38; case hyb38 => (rintro w' hS; obtain ⟨hs0, hs1, hs2, hs3, hs4, hs5⟩ := hS; go_simp; try with_reducible rfl))
      try simp only [List.getElem_toArray, List.getElem_cons_zero, Act.put, List.setIfInBounds_toArray, List.set_cons_zero, List.set_cons_succ]
      first
        | (refine wpAnyH_take (i := 1) rfl (by kernel_rfl) (by kernel_rfl) (by kernel_rfl) (fun _ _ _ h => h) (Or.inr ⟨by rfl, rfl⟩) (by assumption) ?_)
        | (refine wpAnyH_take (i := 1) (v := ?vb39) rfl (by kernel_rfl) (by kernel_rfl) (by kernel_rfl) (fun _ _ _ h => h) (Or.inl ⟨by rfl, ?hyb39⟩) (by assumption) ?rb39; case hyb39 => (rintro w' hS; obtain ⟨hs0, hs1, hs2, hs3, hs4, hs5⟩ := hS; go_simp; try with_reducible rfl))
      try simp only [List.getElem_toArray, List.getElem_cons_zero, List.getElem_cons_succ, Act.put, List.setIfInBounds_toArray, List.set_cons_zero, List.set_cons_succ]
      first
        | (refine wpAnyH_take (i := 2) rfl (by kernel_rfl) (by kernel_rfl) (by kernel_rfl) (fun _ _ _ h => h) (Or.inr ⟨by rfl, rfl⟩) (by assumption) ?_)
        | (refine wpAnyH_take (i := 2) (v := ?vb40) rfl (by kernel_rfl) (by kernel_rfl) (by kernel_rfl) (fun _ _ _ h => h) (Or.inl ⟨by rfl, ?hyb40⟩) (by assumption) ?rb40; case hyb40 => (rintro w' hS; obtain ⟨hs0, hs1, hs2, hs3, hs4, hs5⟩ := hS; go_simp; try with_reducible rfl))
      try simp only [List.getElem_toArray, List.getElem_cons_zero, List.getElem_cons_succ, Act.put, List.setIfInBounds_toArray, List.set_cons_zero, List.set_cons_succ]
      first
        | (refine wpAnyH_take (i := 3) rfl (by kernel_rfl) (by kernel_rfl) (by kernel_rfl) (fun _ _ _ h => h) (Or.inr ⟨by rfl, rfl⟩) (by assumption) ?_)
        | (refine wpAnyH_take (i := 3) (v := ?vb41) rfl (by kernel_rfl) (by kernel_rfl) (by kernel_rfl) (fun _ _ _ h => h) (Or.inl ⟨by rfl, ?hyb41⟩) (by assumption) ?rb41; case hyb41 => (rintro w' hS; obtain ⟨hs0, hs1, hs2, hs3, hs4, hs5⟩ := hS; go_simp; try with_reducible rfl))
      try simp only [List.getElem_toArray, List.getElem_cons_zero, List.getElem_cons_succ, Act.put, List.setIfInBounds_toArray, List.set_cons_zero, List.set_cons_succ]
      first
        | (refine wpAnyH_take (i := 4) rfl (by kernel_rfl) (by kernel_rfl) (by kernel_rfl) (fun _ _ _ h => h) (Or.inr ⟨by rfl, rfl⟩) (by assumption) ?_)
        | (refine wpAnyH_take (i := 4) (v := ?vb42) rfl (by kernel_rfl) (by kernel_rfl) (by kernel_rfl) (fun _ _ _ h => h) (Or.inl ⟨by rfl, ?hyb42⟩) (by assumption) ?rb42; case hyb42 => (rintro w' hS; obtain ⟨hs0, hs1, hs2, hs3, hs4, hs5⟩ := hS; go_simp; try with_reducible rfl))
      try simp only [List.getElem_toArray, List.getElem_cons_zero, List.getElem_cons_succ, Act.put, List.setIfInBounds_toArray, List.set_cons_zero, List.set_cons_succ]
      refine wpAnyH_take (i := 5) (v := .map (some b)) rfl (by kernel_rfl) (by kernel_rfl) (by kernel_rfl) (fun _ _ _ h => h) (Or.inl ⟨by rfl, fun w' hS => by obtain ⟨hs0, hs1, hs2, hs3, hs4, hs5⟩ := hS; exact exec_look (.tmp 28) (.tmp 29) 88 false rfl _ rfl _ rfl (hok ▸ (keys_look hs4 hko).1)⟩) (by assumption) ?_
      try simp only [List.getElem_toArray, List.getElem_cons_zero, List.getElem_cons_succ, Act.put, List.setIfInBounds_toArray, List.set_cons_zero, List.set_cons_succ]
      refine wpAnyH_take (i := 6) (v := .int .i64 N) rfl (by kernel_rfl) (by kernel_rfl) (by kernel_rfl) (fun _ _ _ h => h) (Or.inl ⟨by rfl, fun w' hS => by obtain ⟨hs0, hs1, hs2, hs3, hs4, hs5⟩ := hS; exact exec_len (.tmp 30) 87 rfl _ rfl (hlen w' hs5 _)⟩) (by assumption) ?_
      try simp only [List.getElem_toArray, List.getElem_cons_zero, List.getElem_cons_succ, Act.put, List.setIfInBounds_toArray, List.set_cons_zero, List.set_cons_succ]
      first
        | (refine wpAnyH_take (i := 7) rfl (by kernel_rfl) (by kernel_rfl) (by kernel_rfl) (fun _ _ _ h => h) (Or.inr ⟨by rfl, rfl⟩) (by assumption) ?_)
        | (refine wpAnyH_take (i := 7) (v := ?vb43) rfl (by kernel_rfl) (by kernel_rfl) (by kernel_rfl) (fun _ _ _ h => h) (Or.inl ⟨by rfl, ?hyb43⟩) (by assumption) ?rb43; case hyb43 => (rintro w' hS; obtain ⟨hs0, hs1, hs2, hs3, hs4, hs5⟩ := hS; go_simp; try with_reducible rfl))
      try simp only [List.getElem_toArray, List.getElem_cons_zero, List.getElem_cons_succ, Act.put, List.setIfInBounds_toArray, List.set_cons_zero, List.set_cons_succ]
      refine wpAnyH_done (by kernel_rfl) ?_ _
      go_wp2_with fail
      go_end0
      refine ⟨rfl, B1, P5, fun k e => ?_, hk05, fun i b e => ?_⟩
      · by_cases ek : k = (k1, k2, k3)
        · rw [ek, hL] at e
          cases e
        · rw [hout k ek] at e
          rw [hof2]
          exact hsm k e
      · rw [hbd]
        exact hown2 i b e
    | nil =>
      have hlen0 : ∀ w', SetIs w' (some b) ([] : List DotN) → ∀ ty, (Builtin.len_ #[87] ty #[.map (some b)]).run Tryz.prog w' = .ok (.int .i64 0) w' := hlen
      clear hlen
      have hlen := hlen0
      clear hS3 P3 o8 d3 hk03 hsd hm2 hD2 hm4 hk4 hlen0
      refine wp_region_held_drew (S := fun w' => w'.cell? ⟨p, 3, none⟩ = some (.map (B1 .keys)) ∧ w'.cell? ⟨bk, 0, none⟩ = some (.string (str k1)) ∧ w'.cell? ⟨bk, 1, none⟩ = some (.string (str k2)) ∧ w'.cell? ⟨bk, 2, none⟩ = some (.string (str k3)) ∧ KeysIs w' (B1 .keys) B1 ∧ SetIs w' (some b) ([] : List DotN)) (by kernel_rfl) (hS4 _ (Below.refl _ _).drew) (fun hHeld => ?_)
      first
        | (refine wpAnyH_take (i := 0) rfl (by kernel_rfl) (by kernel_rfl) (by kernel_rfl) (fun _ _ _ h => h) (Or.inr ⟨by rfl, rfl⟩) (by assumption) ?_)
        | (refine wpAnyH_take (i := 0) (v := ?vb44) rfl (by kernel_rfl) (by kernel_rfl) (by kernel_rfl) (fun _ _ _ h => h) (Or.inl ⟨by rfl, ?hyb44⟩) (by assumption) ?rb44; case hyb44 => (rintro w' hS; obtain ⟨hs0, hs1, hs2, hs3, hs4, hs5⟩ := hS; go_simp; try with_reducible rfl))
      try simp only [List.getElem_toArray, List.getElem_cons_zero, Act.put, List.setIfInBounds_toArray, List.set_cons_zero, List.set_cons_succ]
      first
        | (refine wpAnyH_take (i := 1) rfl (by kernel_rfl) (by kernel_rfl) (by kernel_rfl) (fun _ _ _ h => h) (Or.inr ⟨by rfl, rfl⟩) (by assumption) ?_)
        | (refine wpAnyH_take (i := 1) (v := ?vb45) rfl (by kernel_rfl) (by kernel_rfl) (by kernel_rfl) (fun _ _ _ h => h) (Or.inl ⟨by rfl, ?hyb45⟩) (by assumption) ?rb45; case hyb45 => (rintro w' hS; obtain ⟨hs0, hs1, hs2, hs3, hs4, hs5⟩ := hS; go_simp; try with_reducible rfl))
      try simp only [List.getElem_toArray, List.getElem_cons_zero, List.getElem_cons_succ, Act.put, List.setIfInBounds_toArray, List.set_cons_zero, List.set_cons_succ]
      first
        | (refine wpAnyH_take (i := 2) rfl (by kernel_rfl) (by kernel_rfl) (by kernel_rfl) (fun _ _ _ h => h) (Or.inr ⟨by rfl, rfl⟩) (by assumption) ?_)
        | (refine wpAnyH_take (i := 2) (v := ?vb46) rfl (by kernel_rfl) (by kernel_rfl) (by kernel_rfl) (fun _ _ _ h => h) (Or.inl ⟨by rfl, ?hyb46⟩) (by assumption) ?rb46; case hyb46 => (rintro w' hS; obtain ⟨hs0, hs1, hs2, hs3, hs4, hs5⟩ := hS; go_simp; try with_reducible rfl))
      try simp only [List.getElem_toArray, List.getElem_cons_zero, List.getElem_cons_succ, Act.put, List.setIfInBounds_toArray, List.set_cons_zero, List.set_cons_succ]
      first
        | (refine wpAnyH_take (i := 3) rfl (by kernel_rfl) (by kernel_rfl) (by kernel_rfl) (fun _ _ _ h => h) (Or.inr ⟨by rfl, rfl⟩) (by assumption) ?_)
        | (refine wpAnyH_take (i := 3) (v := ?vb47) rfl (by kernel_rfl) (by kernel_rfl) (by kernel_rfl) (fun _ _ _ h => h) (Or.inl ⟨by rfl, ?hyb47⟩) (by assumption) ?rb47; case hyb47 => (rintro w' hS; obtain ⟨hs0, hs1, hs2, hs3, hs4, hs5⟩ := hS; go_simp; try with_reducible rfl))
      try simp only [List.getElem_toArray, List.getElem_cons_zero, List.getElem_cons_succ, Act.put, List.setIfInBounds_toArray, List.set_cons_zero, List.set_cons_succ]
      first
        | (refine wpAnyH_take (i := 4) rfl (by kernel_rfl) (by kernel_rfl) (by kernel_rfl) (fun _ _ _ h => h) (Or.inr ⟨by rfl, rfl⟩) (by assumption) ?_)
        | (refine wpAnyH_take (i := 4) (v := ?vb48) rfl (by kernel_rfl) (by kernel_rfl) (by kernel_rfl) (fun _ _ _ h => h) (Or.inl ⟨by rfl, ?hyb48⟩) (by assumption) ?rb48; case hyb48 => (rintro w' hS; obtain ⟨hs0, hs1, hs2, hs3, hs4, hs5⟩ := hS; go_simp; try with_reducible rfl))
      try simp only [List.getElem_toArray, List.getElem_cons_zero, List.getElem_cons_succ, Act.put, List.setIfInBounds_toArray, List.set_cons_zero, List.set_cons_succ]
      refine wpAnyH_take (i := 5) (v := .map (some b)) rfl (by kernel_rfl) (by kernel_rfl) (by kernel_rfl) (fun _ _ _ h => h) (Or.inl ⟨by rfl, fun w' hS => by obtain ⟨hs0, hs1, hs2, hs3, hs4, hs5⟩ := hS; exact exec_look (.tmp 28) (.tmp 29) 88 false rfl _ rfl _ rfl (hok ▸ (keys_look hs4 hko).1)⟩) (by assumption) ?_
      try simp only [List.getElem_toArray, List.getElem_cons_zero, List.getElem_cons_succ, Act.put, List.setIfInBounds_toArray, List.set_cons_zero, List.set_cons_succ]
      refine wpAnyH_take (i := 6) (v := .int .i64 0) rfl (by kernel_rfl) (by kernel_rfl) (by kernel_rfl) (fun _ _ _ h => h) (Or.inl ⟨by rfl, fun w' hS => by obtain ⟨hs0, hs1, hs2, hs3, hs4, hs5⟩ := hS; exact exec_len (.tmp 30) 87 rfl _ rfl (hlen w' hs5 _)⟩) (by assumption) ?_
      try simp only [List.getElem_toArray, List.getElem_cons_zero, List.getElem_cons_succ, Act.put, List.setIfInBounds_toArray, List.set_cons_zero, List.set_cons_succ]
      first
        | (refine wpAnyH_take (i := 7) rfl (by kernel_rfl) (by kernel_rfl) (by kernel_rfl) (fun _ _ _ h => h) (Or.inr ⟨by rfl, rfl⟩) (by assumption) ?_)
        | (refine wpAnyH_take (i := 7) (v := ?vb49) rfl (by kernel_rfl) (by kernel_rfl) (by kernel_rfl) (fun _ _ _ h => h) (Or.inl ⟨by rfl, ?hyb49⟩) (by assumption) ?rb49; case hyb49 => (rintro w' hS; obtain ⟨hs0, hs1, hs2, hs3, hs4, hs5⟩ := hS; go_simp; try with_reducible rfl))
      try simp only [List.getElem_toArray, List.getElem_cons_zero, List.getElem_cons_succ, Act.put, List.setIfInBounds_toArray, List.set_cons_zero, List.set_cons_succ]
      refine wpAnyH_done (by kernel_rfl) ?_ _
      go_wp2_with fail
      obtain ⟨q, nq, Dq, e, hmq, hDq⟩ : ∃ q nq Dq, B1 .keys = some q ∧ w4.drew.ownsMap Tryz.prog 39 heldElem q nq Dq ∧ KeysD Dq B1 := by
        rcases P5.part .keys with ⟨e, h0⟩ | ⟨q, nq, Dq, e, hmq, hDq⟩
        · rw [h0] at hok
          cases hok
        · exact ⟨q, nq, Dq, e, hmq, hDq⟩
      have p0 := P5.obj.cell 3 rfl
      rw [e] at p0
      have y0 := o5.cell 0 rfl; have y1 := o5.cell 1 rfl; have y2 := o5.cell 2 rfl
      have nqp : q ≠ p := fun c => P5.not_obj .keys (c ▸ e)
      have nqk : q ≠ bk := (P5.blk .keys q e).not_obj o5
      clear hS4 hlen hs4
      refine wp_region_held_drew (S := fun w' => w'.cell? ⟨p, 3, none⟩ = some (.map (some q)) ∧ w'.cell? ⟨bk, 0, none⟩ = some (.string (str k1)) ∧ w'.cell? ⟨bk, 1, none⟩ = some (.string (str k2)) ∧ w'.cell? ⟨bk, 2, none⟩ = some (.string (str k3))) (by kernel_rfl) (⟨p0, y0, y1, y2⟩) (fun hHeld => ?_)
      first
        | (refine wpAnyH_take (i := 0) rfl (by kernel_rfl) (by kernel_rfl) (by kernel_rfl) (fun _ _ _ h => h) (Or.inr ⟨by rfl, rfl⟩) (by assumption) ?_)
        | (refine wpAnyH_take (i := 0) (v := ?vb33) rfl (by kernel_rfl) (by kernel_rfl) (by kernel_rfl) (fun _ _ _ h => h) (Or.inl ⟨by rfl, ?hyb33⟩) (by assumption) ?rb33; case hyb33 => (rintro w' hS; obtain ⟨hs0, hs1, hs2, hs3⟩ := hS; go_simp; try with_reducible rfl))
      try simp only [List.getElem_toArray, List.getElem_cons_zero, Act.put, List.setIfInBounds_toArray, List.set_cons_zero, List.set_cons_succ]
      first
        | (refine wpAnyH_take (i := 1) rfl (by kernel_rfl) (by kernel_rfl) (by kernel_rfl) (fun _ _ _ h => h) (Or.inr ⟨by rfl, rfl⟩) (by assumption) ?_)
        | (refine wpAnyH_take (i := 1) (v := ?vb34) rfl (by kernel_rfl) (by kernel_rfl) (by kernel_rfl) (fun _ _ _ h => h) (Or.inl ⟨by rfl, ?hyb34⟩) (by assumption) ?rb34; case hyb34 => (rintro w' hS; obtain ⟨hs0, hs1, hs2, hs3⟩ := hS; go_simp; try with_reducible rfl))
      try simp only [List.getElem_toArray, List.getElem_cons_zero, List.getElem_cons_succ, Act.put, List.setIfInBounds_toArray, List.set_cons_zero, List.set_cons_succ]
      first
        | (refine wpAnyH_take (i := 2) rfl (by kernel_rfl) (by kernel_rfl) (by kernel_rfl) (fun _ _ _ h => h) (Or.inr ⟨by rfl, rfl⟩) (by assumption) ?_)
        | (refine wpAnyH_take (i := 2) (v := ?vb35) rfl (by kernel_rfl) (by kernel_rfl) (by kernel_rfl) (fun _ _ _ h => h) (Or.inl ⟨by rfl, ?hyb35⟩) (by assumption) ?rb35; case hyb35 => (rintro w' hS; obtain ⟨hs0, hs1, hs2, hs3⟩ := hS; go_simp; try with_reducible rfl))
      try simp only [List.getElem_toArray, List.getElem_cons_zero, List.getElem_cons_succ, Act.put, List.setIfInBounds_toArray, List.set_cons_zero, List.set_cons_succ]
      first
        | (refine wpAnyH_take (i := 3) rfl (by kernel_rfl) (by kernel_rfl) (by kernel_rfl) (fun _ _ _ h => h) (Or.inr ⟨by rfl, rfl⟩) (by assumption) ?_)
        | (refine wpAnyH_take (i := 3) (v := ?vb36) rfl (by kernel_rfl) (by kernel_rfl) (by kernel_rfl) (fun _ _ _ h => h) (Or.inl ⟨by rfl, ?hyb36⟩) (by assumption) ?rb36; case hyb36 => (rintro w' hS; obtain ⟨hs0, hs1, hs2, hs3⟩ := hS; go_simp; try with_reducible rfl))
      try simp only [List.getElem_toArray, List.getElem_cons_zero, List.getElem_cons_succ, Act.put, List.setIfInBounds_toArray, List.set_cons_zero, List.set_cons_succ]
      first
        | (refine wpAnyH_take (i := 4) rfl (by kernel_rfl) (by kernel_rfl) (by kernel_rfl) (fun _ _ _ h => h) (Or.inr ⟨by rfl, rfl⟩) (by assumption) ?_)
        | (refine wpAnyH_take (i := 4) (v := ?vb37) rfl (by kernel_rfl) (by kernel_rfl) (by kernel_rfl) (fun _ _ _ h => h) (Or.inl ⟨by rfl, ?hyb37⟩) (by assumption) ?rb37; case hyb37 => (rintro w' hS; obtain ⟨hs0, hs1, hs2, hs3⟩ := hS; go_simp; try with_reducible rfl))
      try simp only [List.getElem_toArray, List.getElem_cons_zero, List.getElem_cons_succ, Act.put, List.setIfInBounds_toArray, List.set_cons_zero, List.set_cons_succ]
      refine wpAnyH_ready (rs := [5]) (by kernel_rfl) (by simp) ?_
      refine AllReadyH.cons (o := _) rfl (fun K hK => ?_) AllReadyH.nil
      refine step_delete (by rfl) (.tmp 36) (.tmp 37) 88 39 (by rfl) 87 keyedKey Tryz.underlying88 heldElem q nq _ rfl hmq.drew _ _ rfl hkey ?_; intro w6 hm6 hk6; have ob6 := P5.obj.drew.keeps hk6 (fun c => nqp c.symm); have ok6 := o5.drew.keeps hk6 (fun c => nqk c.symm); have x0 := ob6.cell 3 rfl; rw [e] at x0
      try dsimp only
      refine hK.out _ _ (⟨x0, ok6.cell 0 rfl, ok6.cell 1 rfl, ok6.cell 2 rfl⟩) (fun hHeld => ?_)
      clear hK K
      try simp only [List.getElem_toArray, List.getElem_cons_zero, List.getElem_cons_succ, Act.put, List.setIfInBounds_toArray, List.set_cons_zero, List.set_cons_succ]
      refine wpAnyH_done (by kernel_rfl) ?_ _
      go_wp2
      go_end0
      obtain ⟨B2, hB2n, hB2o⟩ := slots_put B1 (.of (k1, k2, k3)) none
      have hkeys2 : B2 .keys = some q := (hB2o _ (fun q => by cases q)).trans e
      have hty := hmq.tidy keyedKey
      have hkd6 := KeysD.del (B' := B2) (k := (k1, k2, k3)) hDq hty hko hB2n (fun k ek => hB2o (.of k) (fun c => ek (by cases c; rfl)))
      rw [show keyT (k1, k2, k3) = keyK k1 k2 k3 from rfl] at hkd6
      refine ⟨rfl, B2, (P5.below (Below.refl _ _).drew).setKey (k1, k2, k3) (fun j h1 h2 => hB2o j h2) (hk6.mono fun k _ c => .inr (by rw [e, c])) ?_ (fun b e2 => .inl (by rw [e, ← hkeys2]; exact e2)) (fun b e => by rw [hB2n] at e; cases e) (.inr ⟨q, nq, _, hkeys2, hm6, hkd6⟩) (fun _ _ => rfl) (by rw [hB2n, hL]; exact .inl ⟨rfl, rfl⟩), fun k ek => ?_, ?_, fun i b2 e2 => ?_⟩
      · rw [show cellsB B2 = cellsB B1 from by unfold cellsB; rw [hB2o .ctx (fun q => by cases q), hB2o .kept (fun q => by cases q), hB2o .dead (fun q => by cases q), hB2o .keys (fun q => by cases q)]]
        exact ob6
      · by_cases ek2 : k = (k1, k2, k3)
        · rw [ek2]
          exact hB2n
        · rw [hB2o (.of k) (fun c => ek2 (by cases c; rfl)), hof2]
          rw [hout k ek2] at ek
          exact hsm k ek
      · refine (hk05.trans (Keeps.new (F := fun _ => False) (Below.refl w4.drew.heap.size w4.drew).drew) (fun _ _ h => h.elim)).trans hk6 fun k hk c => ?_
        rcases hown2 .keys k (c ▸ e) with ⟨j, c2⟩ | c2
        · exact .inr ⟨j, c2⟩
        · omega
      · rw [hbd]
        by_cases ei : i = .of (k1, k2, k3)
        · rw [ei, hB2n] at e2
          cases e2
        · rw [hB2o i ei] at e2
          exact hown2 i b2 e2


/-- The map with one more dead dot. -/
def killM (m : MapN) (x : DotN) : MapN := ⟨m.ctx, m.kept, sortD (m.dead ++ [x])⟩
theorem kill_hasD (E : List DotN) (x y : DotN) : hasD (sortD (E ++ [x])) y = (hasD E y || sameD y x) := by
  rw [Bool.eq_iff_iff, Bool.or_eq_true, hasD_iff, sortD_mem, List.mem_append, List.mem_singleton, hasD_iff, sameD_iff]
theorem mKillI {w : World} {p : Nat} {B : Slots} {rs : List EvR} {m : MapN} (h : Real w p B rs m) (x : DotN) (hr : rightD x = true) (hn : m.dead.length ≤ 1000000) :
    Calls Tryz.prog 56 #[.pointer (some ⟨p, 0, none⟩), .agg #[.int .i64 x.dev, .int .i64 x.inc, .int .i64 x.seq]] w fun e w' => e = .returned (.tuple #[]) ∧ ∃ B', Step w w' p B rs B' rs (killM m x) := by
  refine (killP h x hr hn).mono ?_
  rintro e w' ⟨rfl, B', hP, hnone, hk, hown⟩
  have hf : ∀ k, (dotsK m.kept m.dead k).filter (fun y => !sameD y x) = dotsK (killM m x).kept (killM m x).dead k := fun k => (dotsK_kill m.kept (kill_hasD m.dead x) k).symm
  refine ⟨rfl, B', ⟨Parts.real (m := killM m x) hP hf (fun k e => hnone k (by rw [hf]; exact e)) h.rs ⟨⟨h.ok.ok.ctx, h.ok.ok.kept, h.ok.ok.dots⟩, h.ok.right, sortD_sorted _, fun d hd => ?_⟩ h.few h.light, hk, hown, fun k h => .inl h⟩⟩
  rcases List.mem_append.1 ((sortD_mem _ _).1 hd) with c | c
  · exact h.ok.rdead d c
  · rw [List.mem_singleton.1 c]
    exact hr
end Go.Proofs.YtelgaglnmcggkaaGreatDoor

/- An event's clone; is a dot dead, of a map whose parts are there? -/
namespace Go.Proofs.YtelgaglnmcggkaaGreatDoor
open Go.RowKit
set_option linter.unusedVariables false
set_option linter.unusedSimpArgs false

/-- A clone of an event. -/
theorem cloneR (r : EvR) (A : Array Value) (hA : (encE r).toArray = A) (w : World) (h : RowOf encD 3 w r.a r.e.over.length r.c r.e.over) (hl : lightE r.e = true) :
    Calls Tryz.prog 98 #[.agg A] w fun en w' => ∃ q : EvR, q.e = r.e ∧ en = .returned (.agg (encE q).toArray) ∧ RowOf encD 3 w' q.a q.e.over.length q.c q.e.over ∧ (∀ k, At q.a k → w.heap.size ≤ k) ∧ Below w.heap.size w w' := by
  subst hA
  refine (eventCloneC0 r.e r.a _ r.c w h hl).mono ?_
  rintro en w' ⟨b, d, rfl, hz, hb⟩
  refine ⟨⟨r.e, b, d⟩, rfl, rfl, hz.row encD_len, fun k hk => ?_, hb⟩
  rcases hz.head with ⟨h1, -, -⟩ | ⟨g, h1, h2, -⟩
  · rw [show b = none from h1] at hk
    exact absurd hk (at_none k)
  · rw [show b = some ⟨g, 0, none⟩ from h1] at hk
    have := at_some.1 hk
    dsimp only at this
    omega
theorem over_at {q : EvR} {k : Nat} (h : At (overA q) k) : At q.a k := by
  unfold overA at h
  split at h
  · exact absurd h (at_none k)
  · exact h

set_option maxRecDepth 100000 in
set_option maxHeartbeats 2000000 in
/-- Is a dot dead, of a map whose parts are there? -/
theorem mDeadP {w : World} {p : Nat} {B : Slots} {rs : List EvR} {c E : List DotN} {f : KeyT → List DotN} (h : Parts w p B rs c E f) (d : DotN) (hd : FitD d) : Calls Tryz.prog 34 #[.pointer (some ⟨p, 0, none⟩), .agg #[.int .i64 d.dev, .int .i64 d.inc, .int .i64 d.seq]] w fun en w' => en = .returned (.bool (hasD E d)) ∧ Below w.heap.size w w' := by
  have HO := mOrNewS p
  obtain ⟨dev, inc, seq⟩ := d
  dsimp only at *
  have o1 := ObjAt.new w #[.int .i64 dev, .int .i64 inc, .int .i64 seq] 35
  have b1 := below_alloc w (.cells #[.int .i64 dev, .int .i64 inc, .int .i64 seq] 35)
  have P1 := h.below b1
  generalize hw1 : w.alloc (.cells #[.int .i64 dev, .int .i64 inc, .int .i64 seq] 35) = w1 at *
  have l1 := o1.lt
  have HL := SetIs.look (P1.part .dead) hd w1.drew rfl
  have c2 := P1.obj.cell 2 rfl
  have v0 := o1.cell 0 rfl; have v1 := o1.cell 1 rfl; have v2 := o1.cell 2 rfl
  have bA := below_alloc w1 (.cells #[] 107)
  have PA := P1.below bA
  have oA := o1.below bA l1
  have HLA := SetIs.look (PA.part .dead) hd (w1.alloc (.cells #[] 107)).drew rfl
  have HLB := SetIs.look (PA.part .dead) hd (w1.drew.alloc (.cells #[] 107)) rfl
  dsimp only at HL HLA HLB
  have cA2 := PA.obj.cell 2 rfl
  have vA0 := oA.cell 0 rfl; have vA1 := oA.cell 1 rfl; have vA2 := oA.cell 2 rfl
  generalize hasD E ⟨dev, inc, seq⟩ = t at *
  go_enter Tryz.func34, Tryz.ntmps34
  go_wp2_with fail
  go_region_law ((try go_simp); go_at_call 58; (refine (HO _).mono ?_); rintro e w2 ⟨rfl, rfl⟩)
  all_goals (
    go_wp2
    go_ret
    exact ⟨rfl, b1.trans ((bA.mono b1.size).drew)⟩)
end Go.Proofs.YtelgaglnmcggkaaGreatDoor

/- An event kept: its clone among the kept ones, its dot among its key's alive ones. -/
namespace Go.Proofs.YtelgaglnmcggkaaGreatDoor
open Go.RowKit
set_option linter.unusedVariables false
set_option linter.unusedSimpArgs false

theorem KeptIs.mapC {w : World} {o : Option Nat} {rs : List EvR} (h : KeptIs w o rs) : ∃ D, MapC w 35 heldElem o D ∧ KeptD D rs ∧ Go.Maps.Tidy D := by
  rcases h with ⟨rfl, rfl⟩ | ⟨b, n, D, rfl, hm, hD⟩
  · exact ⟨_, .inl ⟨rfl, rfl⟩, KeptD.empty, ⟨[], rfl, List.Pairwise.nil⟩⟩
  · exact ⟨D, .inr ⟨b, n, rfl, hm⟩, hD, hm.tidy keyedDot⟩
theorem KeysIs.mapC {w : World} {o : Option Nat} {B : Slots} (h : KeysIs w o B) : ∃ D, MapC w 39 heldElem o D ∧ KeysD D B ∧ Go.Maps.Tidy D := by
  rcases h with ⟨rfl, h0⟩ | ⟨b, n, D, rfl, hm, hD⟩
  · exact ⟨_, .inl ⟨rfl, rfl⟩, KeysD.empty h0, ⟨[], rfl, List.Pairwise.nil⟩⟩
  · exact ⟨D, .inr ⟨b, n, rfl, hm⟩, hD, hm.tidy keyedKey⟩

set_option maxRecDepth 100000 in
set_option maxHeartbeats 4000000 in
theorem keepP {w : World} {p : Nat} {B : Slots} {rs : List EvR} {m : MapN} (h : Real w p B rs m) (r : EvR) (A : Array Value) (hA : (encE r).toArray = A) (hE : RowOf encD 3 w r.a r.e.over.length r.c r.e.over) (hl : lightE r.e = true) (hr : rightE r.e = true) (hnew : ∀ e ∈ m.kept, e.dot ≠ r.e.dot) (hn : m.kept.length < 2048) :
    Calls Tryz.prog 55 #[.pointer (some ⟨p, 0, none⟩), .agg A] w fun e w' => e = .returned (.tuple #[]) ∧ ∃ B' q f, q.e = r.e ∧ Parts w' p B' (insR rs q) m.ctx m.dead f ∧ (∀ k, (f k).Perm (dotsK (insE m.kept r.e) m.dead k)) ∧ (∀ k, f k = [] → B' (.of k) = none) ∧
      Keeps (OwnB p B) w w' ∧ (∀ i b, B' i = some b → (∃ j, B j = some b) ∨ w.heap.size ≤ b) ∧ ∀ k, At (overA q) k → w.heap.size ≤ k := by
  have hx := right_fitD (right_dotE hr)
  have hP := h.parts
  obtain ⟨D, hM, hD, hT⟩ := h.kept.mapC
  have hsz : Go.Maps.size D ≤ 1000000 := by
    have := hD.size
    have h2 := h.few
    rw [← h.rs, List.length_map] at h2
    omega
  have hnewr : ∀ q ∈ rs, q.e.dot ≠ r.e.dot := fun q hq => hnew q.e (h.rs ▸ List.mem_map.2 ⟨q, hq, rfl⟩)
  have hins : ∀ q : EvR, q.e = r.e → SortedE ((insR rs q).map (·.e)) := fun q hq => by
    rw [ins_map, hq, h.rs]
    exact insE_sorted h.ok.ok.kept hnew
  have hput := fun (q : EvR) (hq : q.e = r.e) => hD.put (r := q) hT (hq ▸ hx) (fun y hy => hq ▸ hnewr y hy) (hins q hq)
  have hdp := dotsK_put m.kept m.dead r.e
  have hko : fitK (kOf r.e.item) := light_fitK hl
  have hsm := h.nothing
  have hnot : ∀ k, r.e.dot ∉ dotsK m.kept m.dead k := fun k c => by
    obtain ⟨e, he, hd, -⟩ := mem_dotsK.1 c
    exact hnew e he hd
  have hnd := fun k => dotsK_nodup h.ok.ok.kept m.dead k
  have hdl := fun k => Nat.le_trans (dotsK_few m.kept m.dead k) h.few
  have hkt := h.keys
  have hal : aliveB m.dead r.e = (r.e.kind == 1 && !hasD m.dead r.e.dot) := rfl
  have zA : A.size = 19 := by rw [← hA]; rfl
  have hA0 : (A.toList.drop 0).take 3 = [.int .i64 r.e.dot.dev, .int .i64 r.e.dot.inc, .int .i64 r.e.dot.seq] := by rw [← hA]; rfl
  have hi0 : A.toList[0]? = some (.int .i64 r.e.dot.dev) := by rw [← hA]; rfl
  have hi1 : A.toList[1]? = some (.int .i64 r.e.dot.inc) := by rw [← hA]; rfl
  have hi2 : A.toList[2]? = some (.int .i64 r.e.dot.seq) := by rw [← hA]; rfl
  have hi6 : A.toList[6]? = some (.int .i64 r.e.kind) := by rw [← hA]; rfl
  have hi7 : A.toList[7]? = some (.string (str r.e.item.name)) := by rw [← hA]; rfl
  have hi8 : A.toList[8]? = some (.string (str r.e.item.dom)) := by rw [← hA]; rfl
  have hi9 : A.toList[9]? = some (.string (str r.e.item.path)) := by rw [← hA]; rfl
  obtain ⟨be, hbe⟩ : ∃ be, w.heap.size = be := ⟨_, rfl⟩
  have oE := ObjAt.new w A 43
  have b1 := below_alloc w (.cells A 43)
  have hP1 := hP.below b1
  have hE1 := hE.below b1
  have hM1 := hM.below b1
  have hpe : p ≠ be := by have := hP.obj.lt; omega
  have hke : B .kept ≠ some be := fun e => by have := (hP.blk .kept be e).lt; omega
  rw [hbe] at oE
  generalize hw1 : w.alloc (.cells A 43) = w1 at *
  have lE := oE.lt
  have HC := fun v (hv : Below w1.heap.size w1 v) => cloneR r A hA v (hE1.below hv) hl
  have HP := fun v (hv : Below w1.heap.size w1 v) (q : EvR) => putEvC p 1 (cellsB B) (B .kept) D r.e.dot (encE q).toArray v hx rfl (hP1.below hv).obj rfl (hM1.below hv) (by omega)
  obtain ⟨dev, hdev⟩ : ∃ d, r.e.dot.dev = d := ⟨_, rfl⟩
  obtain ⟨inc, hinc⟩ : ∃ d, r.e.dot.inc = d := ⟨_, rfl⟩
  obtain ⟨seq, hseq⟩ : ∃ d, r.e.dot.seq = d := ⟨_, rfl⟩
  have hxe : r.e.dot = ⟨dev, inc, seq⟩ := DotN.ext' hdev hinc hseq
  obtain ⟨k1, hk1⟩ : ∃ d, r.e.item.name = d := ⟨_, rfl⟩
  obtain ⟨k2, hk2'⟩ : ∃ d, r.e.item.dom = d := ⟨_, rfl⟩
  obtain ⟨k3, hk3⟩ : ∃ d, r.e.item.path = d := ⟨_, rfl⟩
  have hKe : kOf r.e.item = (k1, k2, k3) := by unfold kOf; rw [hk1, hk2', hk3]
  rw [hxe] at hx hal hnot
  rw [hKe] at hko hdp
  simp only [hxe] at HP hput hdp
  rw [hdev] at hi0 hA0; rw [hinc] at hi1 hA0; rw [hseq] at hi2 hA0
  rw [hk1] at hi7; rw [hk2'] at hi8; rw [hk3] at hi9
  obtain ⟨kd, hkd⟩ : ∃ d, r.e.kind = d := ⟨_, rfl⟩
  rw [hkd] at hi6 hal
  clear hA hE1 hE hM hl hr hnewr hins hD hT
  have hb : Below w1.heap.size w1 w1.drew := (Below.refl _ _).drew
  go_enter Tryz.func55, Tryz.ntmps55
  go_wp2_with fail
  refine wp_region_held_drew (S := fun w' => ObjAt w' be A.toList) (by kernel_rfl) (oE.below hb lE) (fun hHeld => ?_)
  first
    | (refine wpAnyH_take (i := 0) rfl (by kernel_rfl) (by kernel_rfl) (by kernel_rfl) (fun _ _ _ h => h) (Or.inr ⟨by rfl, rfl⟩) (by assumption) ?_)
    | (refine wpAnyH_take (i := 0) (v := ?vb1) rfl (by kernel_rfl) (by kernel_rfl) (by kernel_rfl) (fun _ _ _ h => h) (Or.inl ⟨by rfl, ?hyb1⟩) (by assumption) ?rb1; case hyb1 => (rintro w' hS; go_simp; try with_reducible rfl))
  try simp only [List.getElem_toArray, List.getElem_cons_zero, Act.put, List.setIfInBounds_toArray, List.set_cons_zero, List.set_cons_succ]
  first
    | (refine wpAnyH_take (i := 1) rfl (by kernel_rfl) (by kernel_rfl) (by kernel_rfl) (fun _ _ _ h => h) (Or.inr ⟨by rfl, rfl⟩) (by assumption) ?_)
    | (refine wpAnyH_take (i := 1) (v := ?vb2) rfl (by kernel_rfl) (by kernel_rfl) (by kernel_rfl) (fun _ _ _ h => h) (Or.inl ⟨by rfl, ?hyb2⟩) (by assumption) ?rb2; case hyb2 => (rintro w' hS; go_simp; try with_reducible rfl))
  try simp only [List.getElem_toArray, List.getElem_cons_zero, List.getElem_cons_succ, Act.put, List.setIfInBounds_toArray, List.set_cons_zero, List.set_cons_succ]
  first
    | (refine wpAnyH_take (i := 2) rfl (by kernel_rfl) (by kernel_rfl) (by kernel_rfl) (fun _ _ _ h => h) (Or.inr ⟨by rfl, rfl⟩) (by assumption) ?_)
    | (refine wpAnyH_take (i := 2) (v := ?vb3) rfl (by kernel_rfl) (by kernel_rfl) (by kernel_rfl) (fun _ _ _ h => h) (Or.inl ⟨by rfl, ?hyb3⟩) (by assumption) ?rb3; case hyb3 => (rintro w' hS; go_simp; try with_reducible rfl))
  try simp only [List.getElem_toArray, List.getElem_cons_zero, List.getElem_cons_succ, Act.put, List.setIfInBounds_toArray, List.set_cons_zero, List.set_cons_succ]
  first
    | (refine wpAnyH_take (i := 3) rfl (by kernel_rfl) (by kernel_rfl) (by kernel_rfl) (fun _ _ _ h => h) (Or.inr ⟨by rfl, rfl⟩) (by assumption) ?_)
    | (refine wpAnyH_take (i := 3) (v := ?vb4) rfl (by kernel_rfl) (by kernel_rfl) (by kernel_rfl) (fun _ _ _ h => h) (Or.inl ⟨by rfl, ?hyb4⟩) (by assumption) ?rb4; case hyb4 => (rintro w' hS; go_simp; try with_reducible rfl))
  try simp only [List.getElem_toArray, List.getElem_cons_zero, List.getElem_cons_succ, Act.put, List.setIfInBounds_toArray, List.set_cons_zero, List.set_cons_succ]
  refine wpAnyH_take (i := 4) rfl (by kernel_rfl) (by kernel_rfl) (by kernel_rfl) (fun _ _ _ h => h) (Or.inl ⟨by rfl, fun w' hS => execLoadPart 35 _ rfl be 0 3 A [.int .i64 dev, .int .i64 inc, .int .i64 seq] rfl hS Tryz.isAgg35 Tryz.sizeOf35 hA0 rfl⟩) (by assumption) ?_
  try simp only [List.getElem_toArray, List.getElem_cons_zero, List.getElem_cons_succ, Act.put, List.setIfInBounds_toArray, List.set_cons_zero, List.set_cons_succ]
  refine wpAnyH_take (i := 5) rfl (by kernel_rfl) (by kernel_rfl) (by kernel_rfl) (fun _ _ _ h => h) (Or.inl ⟨by rfl, fun w' hS => execLoadAll 43 _ rfl be 19 A rfl hS Tryz.isAgg43 Tryz.sizeOf43 zA⟩) (by assumption) ?_
  try simp only [List.getElem_toArray, List.getElem_cons_zero, List.getElem_cons_succ, Act.put, List.setIfInBounds_toArray, List.set_cons_zero, List.set_cons_succ]
  refine wpAnyH_ready (rs := [6]) (by kernel_rfl) (by simp) ?_
  refine AllReadyH.cons (o := _) rfl (fun K hK => ?_) AllReadyH.nil
  go_simp
  go_at_call 98; (with_reducible refine (HC _ hb).mono ?_); rintro e wq ⟨q, hqe, rfl, hqo, hqn, hxq⟩; have hbq := hb; have hb := hb.trans (hxq.mono hb.size)
  try dsimp only
  refine hK.out _ _ (oE.below hb lE) (fun hHeld => ?_)
  clear hK K
  try simp only [List.getElem_toArray, List.getElem_cons_zero, List.getElem_cons_succ, Act.put, List.setIfInBounds_toArray, List.set_cons_zero, List.set_cons_succ]
  refine wpAnyH_ready (rs := [7]) (by kernel_rfl) (by simp) ?_
  refine AllReadyH.cons (o := _) rfl (fun K hK => ?_) AllReadyH.nil
  go_simp
  go_at_call 97; (with_reducible refine (HP _ hb q).mono ?_); rintro e w2 ⟨rfl, bk2, nk2, q2, hm2, hk2, hbk⟩; have hbk := hbk.imp id And.right; have e2 : ObjAt w2 be A.toList := (oE.below hb lE).keeps hk2 (fun c => c.elim (fun c => hpe c.symm) (fun c => hke c))
  try dsimp only
  refine hK.out _ _ (e2) (fun hHeld => ?_)
  clear hK K
  try simp only [List.getElem_toArray, List.getElem_cons_zero, List.getElem_cons_succ, Act.put, List.setIfInBounds_toArray, List.set_cons_zero, List.set_cons_succ]
  refine wpAnyH_done (by kernel_rfl) ?_ _
  obtain ⟨B1, hB1d, hB1o⟩ := slots_put B .kept (some bk2)
  have hPd := hP1.below hb
  have hqat : ∀ k, At (overA q) k → w1.heap.size ≤ k := fun k hk => Nat.le_trans hbq.size (hqn k (over_at hk))
  have hlkp : ∀ b, B .kept = some b → b < w1.heap.size := fun b e => (hP1.blk .kept b e).lt
  have hlp1 : p < w1.heap.size := hP1.obj.lt
  have hP2 : Parts w2 p B1 (insR rs q) m.ctx m.dead (dotsK m.kept m.dead) := by
    refine hPd.set .kept (fun k q => by cases q) hB1o hk2 ?_ (fun b e => ?_) (fun c => absurd rfl c) (fun _ => rfl) (fun _ => rfl) ?_ (fun y hy => ?_)
    · have e : cellsB B1 = (cellsB B).set 1 (.map (some bk2)) := by
        unfold cellsB
        rw [hB1d, hB1o .ctx (fun q => by cases q), hB1o .dead (fun q => by cases q), hB1o .keys (fun q => by cases q)]
        rfl
      rw [e]
      exact q2
    · rw [hB1d] at e
      cases e
      exact hbk
    · show KeptIs w2 (B1 .kept) _
      rw [hB1d]
      refine .inr ⟨bk2, nk2, _, rfl, hm2, ?_⟩
      have := hput q hqe
      rw [hqe, hxe] at this
      exact this
    · have hmem : y = q ∨ y ∈ rs := by
        unfold insR at hy
        rcases List.mem_append.1 hy with c | c
        · exact .inr (List.mem_of_mem_take c)
        · rcases List.mem_cons.1 c with c | c
          · exact .inl c
          · exact .inr (List.mem_of_mem_drop c)
      rcases hmem with rfl | hy
      · refine over_keeps hqo hk2 fun k hk hc => ?_
        have h1 := hqat k hk
        rcases hc with rfl | hc
        · omega
        · have := hlkp k hc
          omega
      · exact over_keeps (hPd.over y hy) hk2 fun k hk hc => hPd.over_apart y hy k hk (hc.imp id fun c => ⟨_, c⟩)
  have hk02 : Keeps (OwnB p B) w w2 := ((Keeps.new b1).trans (Keeps.new (F := OwnB p B) hb) (fun _ _ h => h)).trans hk2 fun k _ hc => hc.imp id fun c => ⟨_, c⟩
  have hw12 := b1.size
  have hw2 : w.heap.size ≤ w2.heap.size := hk02.size
  have hown2 : ∀ i b, B1 i = some b → (∃ j, B j = some b) ∨ be ≤ b := by
    intro i b e
    by_cases q : i = .kept
    · subst q
      rw [hB1d] at e
      cases e
      rcases hbk with c | c
      · exact .inl ⟨_, c⟩
      · exact .inr (by have := hb.size; omega)
    · rw [hB1o i q] at e
      exact .inl ⟨i, e⟩
  have hof2 := Lib.hid (show ∀ k, B1 (.of k) = B (.of k) from fun k => hB1o _ (fun q => by cases q))
  have hkeys2 := Lib.hid (hB1o .keys (fun q => by cases q))
  have hov : ∀ k, At (overA q) k → w.heap.size ≤ k := fun k hk => Nat.le_trans hw12 (hqat k hk)
  clear hB1o hB1d hk2 q2 hm2 hPd hP1 hM1 HP HC oE b1 hb hHeld hqo hqn hxq hbq hput hqat hlkp hP hbk hdev hinc hseq hk1 hk2' hk3
  have lE2 := e2.lt
  have y0 := e2.cell 0 hi0; have y1 := e2.cell 1 hi1; have y2 := e2.cell 2 hi2; have y6 := e2.cell 6 hi6
  have HD := fun v (hv : Below w2.heap.size w2 v) => mDeadP (hP2.below hv) ⟨dev, inc, seq⟩ hx
  dsimp only at HD
  have hdone : ∀ v, Below w2.heap.size w2 v → ¬ (aliveB m.dead r.e = true) → ∃ B' q f, q.e = r.e ∧ Parts v p B' (insR rs q) m.ctx m.dead f ∧ (∀ k, (f k).Perm (dotsK (insE m.kept r.e) m.dead k)) ∧ (∀ k, f k = [] → B' (.of k) = none) ∧
      Keeps (OwnB p B) w v ∧ (∀ i b, B' i = some b → (∃ j, B j = some b) ∨ w.heap.size ≤ b) ∧ ∀ k, At (overA q) k → w.heap.size ≤ k := by
    intro v hv hna
    refine ⟨B1, q, _, hqe, hP2.below hv, fun k => ?_, fun k e => ?_, hk02.trans (Keeps.new (F := OwnB p B) hv) (fun _ _ h => h), fun i b e => ?_, hov⟩
    · have := hdp k
      rw [if_neg (fun c => hna c.1)] at this
      exact this.symm
    · rw [hof2.out]
      exact hsm k e
    · rw [hbe]
      exact hown2 i b e
  have HDone := Lib.hid hdone
  clear hdone
  have HAL := Lib.hid hal
  clear hal
  by_cases hk1' : kd = 1
  · have t1 : (kd == 1) = true := by rw [hk1']; rfl
    have hk1 := Lib.hid hk1'
    clear hk1'
    cases hdd : hasD m.dead ⟨dev, inc, seq⟩ with
    | true =>
      rw [hdd] at HD
      go_wp2_with (go_at_call 34; (with_reducible refine (HD _ (Below.refl _ _)).mono ?_); rintro e w3 ⟨rfl, hx3⟩)
      go_end0
      exact ⟨rfl, HDone.out _ hx3 (by rw [HAL.out, hdd]; simp)⟩
    | false =>
      rw [hdd] at HD
      have hali : aliveB m.dead r.e = true := by rw [HAL.out, hdd, hk1.out]; rfl
      have HALI := Lib.hid hali
      clear hali
      go_wp2_with (go_at_call 34; (with_reducible refine (HD _ (Below.refl _ _)).mono ?_); rintro e w3 ⟨rfl, hx3⟩)
      have P3 := hP2.below hx3
      have e3 := e2.below hx3 lE2
      have hk03 := hk02.trans (Keeps.new (F := OwnB p B) hx3) (fun _ _ h => h)
      have hw3 := hx3.size
      clear hP2 e2 hk02 HD HDone y0 y1 y2 y6 hx3
      have lE3 := e3.lt
      obtain ⟨O, hO⟩ : ∃ O, B1 (.of (k1, k2, k3)) = O := ⟨_, rfl⟩
      have hS3 : ∀ v, Below w3.heap.size w3 v → v.cell? ⟨p, 3, none⟩ = some (.map (B1 .keys)) ∧ v.cell? ⟨be, 7, none⟩ = some (.string (str k1)) ∧ v.cell? ⟨be, 8, none⟩ = some (.string (str k2)) ∧ v.cell? ⟨be, 9, none⟩ = some (.string (str k3)) ∧ KeysIs v (B1 .keys) B1 := fun v hv => ⟨(P3.below hv).obj.cell 3 rfl, (e3.below hv lE3).cell 7 hi7, (e3.below hv lE3).cell 8 hi8, (e3.below hv lE3).cell 9 hi9, (P3.below hv).part .keys⟩
      have c7 : Below w3.heap.size w3 (w3.drew.alloc (.cells #[.map none] 87)) := (Below.refl _ _).drew.trans ((below_alloc w3.drew (.cells #[.map none] 87)).mono (Nat.le_refl _))
      have o7 := ObjAt.new w3.drew #[.map none] 87
      have p7 := ObjAt.new w3 #[.map none] 87
      obtain ⟨bo, hbo⟩ : ∃ bo, w3.heap.size = bo := ⟨_, rfl⟩
      rw [show w3.drew.heap.size = bo from hbo] at o7
      rw [hbo] at p7
      have hbo' : w3.heap.size ≤ bo := Nat.le_of_eq hbo
      have c8 : Below w3.heap.size w3 (w3.alloc (.cells #[.map O] 87)).drew := (below_alloc w3 (.cells #[.map O] 87)).drew
      have o8 := (ObjAt.new w3 #[.map O] 87).drew
      rw [hbo] at o8
      have z0 := p7.cell 0 rfl; have g0 := p7.free 0
      refine wp_region_held_drew (S := fun w' => w'.cell? ⟨p, 3, none⟩ = some (.map (B1 .keys)) ∧ w'.cell? ⟨be, 7, none⟩ = some (.string (str k1)) ∧ w'.cell? ⟨be, 8, none⟩ = some (.string (str k2)) ∧ w'.cell? ⟨be, 9, none⟩ = some (.string (str k3)) ∧ KeysIs w' (B1 .keys) B1) (by kernel_rfl) (hS3 _ (Below.refl _ _).drew) (fun hHeld => ?_)
      first
        | (refine wpAnyH_take (i := 0) rfl (by kernel_rfl) (by kernel_rfl) (by kernel_rfl) (fun _ _ _ h => h) (Or.inr ⟨by rfl, rfl⟩) (by assumption) ?_)
        | (refine wpAnyH_take (i := 0) (v := ?vb5) rfl (by kernel_rfl) (by kernel_rfl) (by kernel_rfl) (fun _ _ _ h => h) (Or.inl ⟨by rfl, ?hyb5⟩) (by assumption) ?rb5; case hyb5 => (rintro w' hS; obtain ⟨hs0, hs1, hs2, hs3, hs4⟩ := hS; go_simp; try with_reducible rfl))
      try simp only [List.getElem_toArray, List.getElem_cons_zero, Act.put, List.setIfInBounds_toArray, List.set_cons_zero, List.set_cons_succ]
      first
        | (refine wpAnyH_take (i := 1) rfl (by kernel_rfl) (by kernel_rfl) (by kernel_rfl) (fun _ _ _ h => h) (Or.inr ⟨by rfl, rfl⟩) (by assumption) ?_)
        | (refine wpAnyH_take (i := 1) (v := ?vb6) rfl (by kernel_rfl) (by kernel_rfl) (by kernel_rfl) (fun _ _ _ h => h) (Or.inl ⟨by rfl, ?hyb6⟩) (by assumption) ?rb6; case hyb6 => (rintro w' hS; obtain ⟨hs0, hs1, hs2, hs3, hs4⟩ := hS; go_simp; try with_reducible rfl))
      try simp only [List.getElem_toArray, List.getElem_cons_zero, List.getElem_cons_succ, Act.put, List.setIfInBounds_toArray, List.set_cons_zero, List.set_cons_succ]
      first
        | (refine wpAnyH_take (i := 2) rfl (by kernel_rfl) (by kernel_rfl) (by kernel_rfl) (fun _ _ _ h => h) (Or.inr ⟨by rfl, rfl⟩) (by assumption) ?_)
        | (refine wpAnyH_take (i := 2) (v := ?vb7) rfl (by kernel_rfl) (by kernel_rfl) (by kernel_rfl) (fun _ _ _ h => h) (Or.inl ⟨by rfl, ?hyb7⟩) (by assumption) ?rb7; case hyb7 => (rintro w' hS; obtain ⟨hs0, hs1, hs2, hs3, hs4⟩ := hS; go_simp; try with_reducible rfl))
      try simp only [List.getElem_toArray, List.getElem_cons_zero, List.getElem_cons_succ, Act.put, List.setIfInBounds_toArray, List.set_cons_zero, List.set_cons_succ]
      first
        | (refine wpAnyH_take (i := 3) rfl (by kernel_rfl) (by kernel_rfl) (by kernel_rfl) (fun _ _ _ h => h) (Or.inr ⟨by rfl, rfl⟩) (by assumption) ?_)
        | (refine wpAnyH_take (i := 3) (v := ?vb8) rfl (by kernel_rfl) (by kernel_rfl) (by kernel_rfl) (fun _ _ _ h => h) (Or.inl ⟨by rfl, ?hyb8⟩) (by assumption) ?rb8; case hyb8 => (rintro w' hS; obtain ⟨hs0, hs1, hs2, hs3, hs4⟩ := hS; go_simp; try with_reducible rfl))
      try simp only [List.getElem_toArray, List.getElem_cons_zero, List.getElem_cons_succ, Act.put, List.setIfInBounds_toArray, List.set_cons_zero, List.set_cons_succ]
      first
        | (refine wpAnyH_take (i := 4) rfl (by kernel_rfl) (by kernel_rfl) (by kernel_rfl) (fun _ _ _ h => h) (Or.inr ⟨by rfl, rfl⟩) (by assumption) ?_)
        | (refine wpAnyH_take (i := 4) (v := ?vb9) rfl (by kernel_rfl) (by kernel_rfl) (by kernel_rfl) (fun _ _ _ h => h) (Or.inl ⟨by rfl, ?hyb9⟩) (by assumption) ?rb9; case hyb9 => (rintro w' hS; obtain ⟨hs0, hs1, hs2, hs3, hs4⟩ := hS; go_simp; try with_reducible rfl))
      try simp only [List.getElem_toArray, List.getElem_cons_zero, List.getElem_cons_succ, Act.put, List.setIfInBounds_toArray, List.set_cons_zero, List.set_cons_succ]
      first
        | (refine wpAnyH_take (i := 5) rfl (by kernel_rfl) (by kernel_rfl) (by kernel_rfl) (fun _ _ _ h => h) (Or.inr ⟨by rfl, rfl⟩) (by assumption) ?_)
        | (refine wpAnyH_take (i := 5) (v := ?vb10) rfl (by kernel_rfl) (by kernel_rfl) (by kernel_rfl) (fun _ _ _ h => h) (Or.inl ⟨by rfl, ?hyb10⟩) (by assumption) ?rb10; case hyb10 => (rintro w' hS; obtain ⟨hs0, hs1, hs2, hs3, hs4⟩ := hS; go_simp; try with_reducible rfl))
      try simp only [List.getElem_toArray, List.getElem_cons_zero, List.getElem_cons_succ, Act.put, List.setIfInBounds_toArray, List.set_cons_zero, List.set_cons_succ]
      refine wpAnyH_take (i := 6) (v := .map O) rfl (by kernel_rfl) (by kernel_rfl) (by kernel_rfl) (fun _ _ _ h => h) (Or.inl ⟨by rfl, fun w' hS => by obtain ⟨hs0, hs1, hs2, hs3, hs4⟩ := hS; exact exec_look (.tmp 26) (.tmp 28) 88 false rfl _ rfl _ rfl (hO ▸ (keys_look hs4 hko).1)⟩) (by assumption) ?_
      try simp only [List.getElem_toArray, List.getElem_cons_zero, List.getElem_cons_succ, Act.put, List.setIfInBounds_toArray, List.set_cons_zero, List.set_cons_succ]
      refine wpAnyH_ready (rs := [7]) (by kernel_rfl) (by simp) ?_
      refine AllReadyH.cons (o := _) rfl (fun K hK => ?_) AllReadyH.nil
      go_simp
      skip
      try dsimp only
      refine hK.out _ _ (hS3 _ c7) (fun hHeld => ?_)
      clear hK K
      try simp only [List.getElem_toArray, List.getElem_cons_zero, List.getElem_cons_succ, Act.put, List.setIfInBounds_toArray, List.set_cons_zero, List.set_cons_succ]
      refine wpAnyH_ready (rs := [8]) (by kernel_rfl) (by simp) ?_
      refine AllReadyH.cons (o := _) rfl (fun K hK => ?_) AllReadyH.nil
      go_simp
      skip
      try dsimp only
      refine hK.out _ _ (hS3 _ c8) (fun hHeld => ?_)
      clear hK K
      try simp only [List.getElem_toArray, List.getElem_cons_zero, List.getElem_cons_succ, Act.put, List.setIfInBounds_toArray, List.set_cons_zero, List.set_cons_succ]
      refine wpAnyH_done (by kernel_rfl) ?_ _
      have P4 := P3.below c8
      have e4 := e3.below c8 lE3
      have hk04 := hk03.trans (Keeps.new (F := OwnB p B) c8) (fun _ _ h => h)
      have hw4 := c8.size
      have hol := P3.own_lt
      clear P3 e3 hk03 hS3 c7 o7 p7 c8 z0 g0 hHeld
      generalize (w3.alloc (.cells #[.map O] 87)).drew = w4 at *
      have lE4 := e4.lt
      obtain ⟨D2, hM2, hD2, hT2⟩ := SetIs.mapC (show SetIs w4 (B1 (.of (k1, k2, k3))) (dotsK m.kept m.dead (k1, k2, k3)) from P4.part (.of (k1, k2, k3)))
      rw [hO] at hM2
      have HS := putSetC bo 0 [.map O] O D2 ⟨dev, inc, seq⟩ w4 hx o8 rfl hM2 (by have := hD2.size; have := hdl (k1, k2, k3); omega)
      have y0 := e4.cell 0 hi0; have y1 := e4.cell 1 hi1; have y2 := e4.cell 2 hi2
      have hmo : ∀ k, O = some k → OwnB p B1 k := fun k e => .inr ⟨_, hO.trans e⟩
      go_wp2_with (go_at_call 99; (with_reducible refine HS.mono ?_); rintro e w5 ⟨rfl, b, n5, q5, hm5, hk5, hb5⟩)
      have o5 : ObjAt w5 bo [.map (some b)] := q5
      have nOe : O ≠ some be := fun c => (P4.blk _ be (hO.trans c)).not_obj e4 rfl
      have nOo : O ≠ some bo := fun c => (P4.blk _ bo (hO.trans c)).not_obj o8 rfl
      have nbe : be ≠ bo := by omega
      have e5 : ObjAt w5 be A.toList := e4.keeps hk5 (fun c => c.elim nbe nOe)
      have hs5 : SetD (D2.put (keyD ⟨dev, inc, seq⟩) (.agg [])) (⟨dev, inc, seq⟩ :: dotsK m.kept m.dead (k1, k2, k3)) := hD2.put hT2 hx (hnot _)
      have hop : ∀ k, OwnB p B1 k → k ≠ bo := fun k hk c => by have := hol k hk; omega
      have hov4 : ∀ y ∈ insR rs q, ∀ k, At (overA y) k → k ≠ bo := fun y hy k hk c => by
        obtain ⟨i, n, hv⟩ := over_cell (P4.over y hy) k hk
        rw [c] at hv
        obtain ⟨e, h1⟩ := o8.heap
        simp only [World.cell?, h1] at hv
        rcases i with _ | i <;> simp at hv
      have hbl : b < w5.heap.size := hm5.lt
      have hP5 : ∃ f5, Parts w5 p B1 (insR rs q) m.ctx m.dead f5 ∧ (∀ k', k' ≠ (k1, k2, k3) → f5 k' = dotsK m.kept m.dead k') ∧ ∀ j, j ≠ .of (k1, k2, k3) → B1 j ≠ some b := by
        cases O with
        | none =>
          refine ⟨_, P4.keeps hk5 (fun k hk hc => ?_) (fun y hy k hk hc => ?_), fun _ _ => rfl, fun j hj c => ?_⟩
          · rcases hc with hc | hc
            · exact hop k hk hc
            · cases hc
          · rcases hc with hc | hc
            · exact hov4 y hy k hk hc
            · cases hc
          · rcases hb5 with hb5 | ⟨-, hb5⟩
            · cases hb5
            · have := (P4.blk j b c).lt
              omega
        | some b0 =>
          rcases hb5 with hb5 | ⟨hb5, -⟩
          · cases hb5
            refine ⟨fun k => if k = (k1, k2, k3) then ⟨dev, inc, seq⟩ :: dotsK m.kept m.dead (k1, k2, k3) else dotsK m.kept m.dead k, P4.setOf (k1, k2, k3) b hO hk5 (fun x hc => ?_) (fun k' hk' => if_neg hk') (.inr ⟨b, n5, _, rfl, hm5, by rw [if_pos rfl]; exact hs5⟩), fun k' hk' => if_neg hk', fun j hj c => hj (P4.inj j _ b c hO)⟩
            rcases hc with hc | hc
            · exact .inr ⟨fun c => hop x c hc, fun y hy c => hov4 y hy x c hc⟩
            · cases hc
              exact .inl rfl
          · cases hb5
      obtain ⟨f5, P5, hf5, hbj⟩ := hP5
      have hk05 : Keeps (OwnB p B) w w5 := hk04.trans hk5 fun k hk hc => by
        rcases hc with hc | hc
        · omega
        · rcases hown2 _ k (hO.trans hc) with c | c
          · exact .inr c
          · omega
      have hw5 : w4.heap.size ≤ w5.heap.size := hk5.size
      have hbown : (∃ j, B j = some b) ∨ w.heap.size ≤ b := by
        rcases hb5 with hb5 | ⟨-, hb5⟩
        · rw [hbe]
          exact hown2 _ b (hO.trans hb5)
        · exact .inr (by omega)
      have nbo : b ≠ bo := (ownsMap_blk hm5).not_obj o5
      have nb_e : b ≠ be := (ownsMap_blk hm5).not_obj e5
      have nb_p : b ≠ p := (ownsMap_blk hm5).not_obj P5.obj
      clear P4 e4 o8 hk04 HS hM2 hk5 y0 y1 y2 hb5 nOe nOo hol hmo q5
      have lE5 := e5.lt
      have lo5 := o5.lt
      have hS5 : ∀ v, Below w5.heap.size w5 v → v.cell? ⟨bo, 0, none⟩ = some (.map (some b)) ∧ v.cell? ⟨be, 7, none⟩ = some (.string (str k1)) ∧ v.cell? ⟨be, 8, none⟩ = some (.string (str k2)) ∧ v.cell? ⟨be, 9, none⟩ = some (.string (str k3)) := fun v hv => ⟨(o5.below hv lo5).cell 0 rfl, (e5.below hv lE5).cell 7 hi7, (e5.below hv lE5).cell 8 hi8, (e5.below hv lE5).cell 9 hi9⟩
      obtain ⟨Dk, hMk, hDk, hTk⟩ := KeysIs.mapC (P5.part .keys)
      have hkfew := KeysD.few hDk (K := m.kept) (E := m.dead) (fun k e => by rw [hof2.out]; exact hsm k e)
      have HK := fun v (hv : Below w5.heap.size w5 v) => putKeyC p 3 (cellsB B1) (B1 .keys) Dk k1 k2 k3 (some b) v hko.1 hko.2.1 hko.2.2 (P5.below hv).obj rfl (hMk.below hv) (by omega)
      have hb5' : Below w5.heap.size w5 w5.drew := (Below.refl _ _).drew
      have nkp := P5.not_obj .keys
      have nke : B1 .keys ≠ some be := fun c => (P5.blk _ be c).not_obj e5 rfl
      have nko : B1 .keys ≠ some bo := fun c => (P5.blk _ bo c).not_obj o5 rfl
      have npe : p ≠ be := hpe
      have npo : p ≠ bo := fun c => hop p (.inl rfl) c
      refine wp_region_held_drew (S := fun w' => w'.cell? ⟨bo, 0, none⟩ = some (.map (some b)) ∧ w'.cell? ⟨be, 7, none⟩ = some (.string (str k1)) ∧ w'.cell? ⟨be, 8, none⟩ = some (.string (str k2)) ∧ w'.cell? ⟨be, 9, none⟩ = some (.string (str k3))) (by kernel_rfl) (hS5 _ (Below.refl _ _).drew) (fun hHeld => ?_)
      first
        | (refine wpAnyH_take (i := 0) rfl (by kernel_rfl) (by kernel_rfl) (by kernel_rfl) (fun _ _ _ h => h) (Or.inr ⟨by rfl, rfl⟩) (by assumption) ?_)
        | (refine wpAnyH_take (i := 0) (v := ?vb11) rfl (by kernel_rfl) (by kernel_rfl) (by kernel_rfl) (fun _ _ _ h => h) (Or.inl ⟨by rfl, ?hyb11⟩) (by assumption) ?rb11; case hyb11 => (rintro w' hS; obtain ⟨hs0, hs1, hs2, hs3⟩ := hS; go_simp; try with_reducible rfl))
      try simp only [List.getElem_toArray, List.getElem_cons_zero, Act.put, List.setIfInBounds_toArray, List.set_cons_zero, List.set_cons_succ]
      first
        | (refine wpAnyH_take (i := 1) rfl (by kernel_rfl) (by kernel_rfl) (by kernel_rfl) (fun _ _ _ h => h) (Or.inr ⟨by rfl, rfl⟩) (by assumption) ?_)
        | (refine wpAnyH_take (i := 1) (v := ?vb12) rfl (by kernel_rfl) (by kernel_rfl) (by kernel_rfl) (fun _ _ _ h => h) (Or.inl ⟨by rfl, ?hyb12⟩) (by assumption) ?rb12; case hyb12 => (rintro w' hS; obtain ⟨hs0, hs1, hs2, hs3⟩ := hS; go_simp; try with_reducible rfl))
      try simp only [List.getElem_toArray, List.getElem_cons_zero, List.getElem_cons_succ, Act.put, List.setIfInBounds_toArray, List.set_cons_zero, List.set_cons_succ]
      first
        | (refine wpAnyH_take (i := 2) rfl (by kernel_rfl) (by kernel_rfl) (by kernel_rfl) (fun _ _ _ h => h) (Or.inr ⟨by rfl, rfl⟩) (by assumption) ?_)
        | (refine wpAnyH_take (i := 2) (v := ?vb13) rfl (by kernel_rfl) (by kernel_rfl) (by kernel_rfl) (fun _ _ _ h => h) (Or.inl ⟨by rfl, ?hyb13⟩) (by assumption) ?rb13; case hyb13 => (rintro w' hS; obtain ⟨hs0, hs1, hs2, hs3⟩ := hS; go_simp; try with_reducible rfl))
      try simp only [List.getElem_toArray, List.getElem_cons_zero, List.getElem_cons_succ, Act.put, List.setIfInBounds_toArray, List.set_cons_zero, List.set_cons_succ]
      first
        | (refine wpAnyH_take (i := 3) rfl (by kernel_rfl) (by kernel_rfl) (by kernel_rfl) (fun _ _ _ h => h) (Or.inr ⟨by rfl, rfl⟩) (by assumption) ?_)
        | (refine wpAnyH_take (i := 3) (v := ?vb14) rfl (by kernel_rfl) (by kernel_rfl) (by kernel_rfl) (fun _ _ _ h => h) (Or.inl ⟨by rfl, ?hyb14⟩) (by assumption) ?rb14; case hyb14 => (rintro w' hS; obtain ⟨hs0, hs1, hs2, hs3⟩ := hS; go_simp; try with_reducible rfl))
      try simp only [List.getElem_toArray, List.getElem_cons_zero, List.getElem_cons_succ, Act.put, List.setIfInBounds_toArray, List.set_cons_zero, List.set_cons_succ]
      first
        | (refine wpAnyH_take (i := 4) rfl (by kernel_rfl) (by kernel_rfl) (by kernel_rfl) (fun _ _ _ h => h) (Or.inr ⟨by rfl, rfl⟩) (by assumption) ?_)
        | (refine wpAnyH_take (i := 4) (v := ?vb15) rfl (by kernel_rfl) (by kernel_rfl) (by kernel_rfl) (fun _ _ _ h => h) (Or.inl ⟨by rfl, ?hyb15⟩) (by assumption) ?rb15; case hyb15 => (rintro w' hS; obtain ⟨hs0, hs1, hs2, hs3⟩ := hS; go_simp; try with_reducible rfl))
      try simp only [List.getElem_toArray, List.getElem_cons_zero, List.getElem_cons_succ, Act.put, List.setIfInBounds_toArray, List.set_cons_zero, List.set_cons_succ]
      first
        | (refine wpAnyH_take (i := 5) rfl (by kernel_rfl) (by kernel_rfl) (by kernel_rfl) (fun _ _ _ h => h) (Or.inr ⟨by rfl, rfl⟩) (by assumption) ?_)
        | (refine wpAnyH_take (i := 5) (v := ?vb16) rfl (by kernel_rfl) (by kernel_rfl) (by kernel_rfl) (fun _ _ _ h => h) (Or.inl ⟨by rfl, ?hyb16⟩) (by assumption) ?rb16; case hyb16 => (rintro w' hS; obtain ⟨hs0, hs1, hs2, hs3⟩ := hS; go_simp; try with_reducible rfl))
      try simp only [List.getElem_toArray, List.getElem_cons_zero, List.getElem_cons_succ, Act.put, List.setIfInBounds_toArray, List.set_cons_zero, List.set_cons_succ]
      refine wpAnyH_ready (rs := [6]) (by kernel_rfl) (by simp) ?_
      refine AllReadyH.cons (o := _) rfl (fun K hK => ?_) AllReadyH.nil
      go_simp
      go_at_call 100; (with_reducible refine (HK _ hb5').mono ?_); rintro e w6 ⟨rfl, bq, nq, q6, hm6, hk6, hbq⟩; have o6 := (o5.below hb5' lo5).keeps hk6 (fun c => c.elim (fun c => npo c.symm) nko); have e6 := (e5.below hb5' lE5).keeps hk6 (fun c => c.elim (fun c => npe c.symm) nke)
      try dsimp only
      refine hK.out _ _ (⟨o6.cell 0 rfl, e6.cell 7 hi7, e6.cell 8 hi8, e6.cell 9 hi9⟩) (fun hHeld => ?_)
      clear hK K
      try simp only [List.getElem_toArray, List.getElem_cons_zero, List.getElem_cons_succ, Act.put, List.setIfInBounds_toArray, List.set_cons_zero, List.set_cons_succ]
      refine wpAnyH_done (by kernel_rfl) ?_ _
      go_wp2
      go_end0
      obtain ⟨Ba, hBa1, hBa2⟩ := slots_put B1 .keys (some bq)
      obtain ⟨B2, hB21, hB22⟩ := slots_put Ba (.of (k1, k2, k3)) (some b)
      have h2k : B2 .keys = some bq := (hB22 _ (fun q => by cases q)).trans hBa1
      have h2o : ∀ j, j ≠ .keys → j ≠ .of (k1, k2, k3) → B2 j = B1 j := fun j h1 h2 => (hB22 j h2).trans (hBa2 j h1)
      have P5d := P5.below hb5'
      have hkk := KeysD.put (B' := B2) (k := (k1, k2, k3)) hDk hTk hko b hB21 (fun k' hk' => h2o _ (fun q => by cases q) (fun c => hk' (by cases c; rfl)))
      rw [show keyT (k1, k2, k3) = keyK k1 k2 k3 from rfl] at hkk
      have hbq6 : B1 .keys = some bq ∨ w5.heap.size ≤ bq := hbq.imp id And.right
      have hm56 : w6.ownsMap Tryz.prog 35 unitElem b n5 (D2.put (keyD ⟨dev, inc, seq⟩) (.agg [])) := hk6.grownBy (fun c => c.elim nb_p (fun c => hbj .keys (fun q => by cases q) c)) (hm5.drew)
      refine ⟨rfl, B2, q, fun k => if k = (k1, k2, k3) then ⟨dev, inc, seq⟩ :: dotsK m.kept m.dead (k1, k2, k3) else dotsK m.kept m.dead k, hqe, P5d.setKey (k1, k2, k3) h2o hk6 ?_ (fun b' e => ?_) (fun b' e => ?_) (.inr ⟨bq, nq, _, h2k, hm6, hkk⟩) (fun k' hk' => by rw [if_neg hk', hf5 k' hk']) ?_, fun k => ?_, fun k e => ?_, ?_, fun i b' e => ?_, hov⟩
      · have e : cellsB B2 = (cellsB B1).set 3 (.map (some bq)) := by
          unfold cellsB
          rw [h2k, h2o .ctx (fun q => by cases q) (fun q => by cases q), h2o .kept (fun q => by cases q) (fun q => by cases q), h2o .dead (fun q => by cases q) (fun q => by cases q)]
          rfl
        rw [e]
        exact q6
      · rw [h2k] at e
        cases e
        exact hbq6
      · rw [hB21] at e
        cases e
        exact ⟨hbl, hbj⟩
      · rw [hB21, if_pos rfl]
        exact .inr ⟨b, n5, _, rfl, hm56, hs5⟩
      · dsimp only
        have h1 := hdp k
        rw [HALI.out] at h1
        by_cases ek : k = (k1, k2, k3)
        · rw [if_pos ek]
          rw [if_pos ⟨rfl, ek.symm⟩, ek] at h1
          rw [ek]
          exact h1.symm
        · rw [if_neg ek]
          rw [if_neg (fun c => ek c.2.symm)] at h1
          exact h1.symm
      · dsimp only at e
        by_cases ek : k = (k1, k2, k3)
        · rw [if_pos ek] at e
          cases e
        · rw [if_neg ek] at e
          rw [h2o _ (fun q => by cases q) (fun c => ek (by cases c; rfl)), hof2.out]
          exact hsm k e
      · refine (hk05.trans (Keeps.new (F := OwnB p B) hb5') (fun _ _ h => h)).trans hk6 fun k hk hc => ?_
        rcases hc with rfl | hc
        · exact .inl rfl
        · exact .inr ⟨.keys, hkeys2.out ▸ hc⟩
      · by_cases e1 : i = .of (k1, k2, k3)
        · rw [e1, hB21] at e
          cases e
          exact hbown
        · by_cases e2 : i = .keys
          · rw [e2, h2k] at e
            cases e
            rcases hbq6 with c | c
            · exact .inl ⟨.keys, hkeys2.out ▸ c⟩
            · exact .inr (by omega)
          · rw [h2o i e2 e1] at e
            rw [hbe]
            exact hown2 i b' e
  · have t1 : (kd == 1) = false := by simpa using hk1'
    go_wp2_with fail
    go_end0
    exact ⟨rfl, HDone.out _ (Below.refl _ _) (by rw [HAL.out, t1]; simp)⟩

/-- An event kept. -/
theorem mKeepI {w : World} {p : Nat} {B : Slots} {rs : List EvR} {m : MapN} (h : Real w p B rs m) (r : EvR) (A : Array Value) (hA : (encE r).toArray = A) (hE : RowOf encD 3 w r.a r.e.over.length r.c r.e.over) (hl : lightE r.e = true) (hr : rightE r.e = true) (hnew : ∀ e ∈ m.kept, e.dot ≠ r.e.dot) (hn : m.kept.length < 2048) (hsq : r.e.dot.seq ≤ getV m.ctx r.e.dot.dev r.e.dot.inc) :
    Calls Tryz.prog 55 #[.pointer (some ⟨p, 0, none⟩), .agg A] w fun e w' => e = .returned (.tuple #[]) ∧ ∃ B' q, q.e = r.e ∧ Step w w' p B rs B' (insR rs q) ⟨m.ctx, insE m.kept r.e, m.dead⟩ := by
  refine (keepP h r A hA hE hl hr hnew hn).mono ?_
  rintro e w' ⟨rfl, B', q, f, hq, hP, hf, hnone, hk, hown, hov⟩
  refine ⟨rfl, B', q, hq, ⟨Parts.real (m := ⟨m.ctx, insE m.kept r.e, m.dead⟩) (hP.congr (List.Perm.refl _) hf) (fun _ => rfl) (fun k e => hnone k ?_) (by rw [ins_map, hq, h.rs]) ⟨⟨h.ok.ok.ctx, insE_sorted h.ok.ok.kept hnew, fun e he => ?_⟩, fun e he => ?_, h.ok.dead, h.ok.rdead⟩ ?_ (fun e he => ?_), hk, hown, fun k hk2 => ?_⟩⟩
  · have := hf k
    rw [show dotsK (insE m.kept r.e) m.dead k = [] from e] at this
    exact this.eq_nil
  · rcases (insE_mem _ _ _).1 he with rfl | he
    · exact hsq
    · exact h.ok.ok.dots e he
  · rcases (insE_mem _ _ _).1 he with rfl | he
    · exact hr
    · exact h.ok.right e he
  · show (insE m.kept r.e).length ≤ 2048
    rw [insE_length]
    omega
  · rcases (insE_mem _ _ _).1 he with rfl | he
    · exact hl
    · exact h.light e he
  · obtain ⟨y, hy, hk3⟩ := hk2
    unfold insR at hy
    rcases List.mem_append.1 hy with c | c
    · exact .inl ⟨y, List.mem_of_mem_take c, hk3⟩
    · rcases List.mem_cons.1 c with c | c
      · subst c
        exact .inr (hov k hk3)
      · exact .inl ⟨y, List.mem_of_mem_drop c, hk3⟩
end Go.Proofs.YtelgaglnmcggkaaGreatDoor

/- An event applied. -/
namespace Go.Proofs.YtelgaglnmcggkaaGreatDoor
open Go.RowKit
set_option linter.unusedVariables false
set_option linter.unusedSimpArgs false

/-- The tables that the program reads. -/
abbrev OTb (w : World) : Prop := PTab Tryz.prog w
theorem OTb.below {w w' : World} (h : OTb w) (hb : Below w.heap.size w w') : OTb w' := PTab.below h hb

theorem apply_no {m : MapN} {e : EventN} (h : rightE e = false) : applyM m e = (m, false, 1) := by unfold applyM; rw [if_pos h]
theorem apply_had {m : MapN} {e : EventN} (h : rightE e = true) (h2 : hasV m.ctx e.dot = true) : applyM m e = (m, false, 0) := by unfold applyM; rw [if_neg (by rw [h]; decide), if_pos h2]
theorem apply_gap {m : MapN} {e : EventN} (h : rightE e = true) (h2 : hasV m.ctx e.dot = false) (h3 : ¬ getV m.ctx e.dot.dev e.dot.inc + 1 = e.dot.seq) : applyM m e = (m, false, 6) := by unfold applyM; rw [if_neg (by rw [h]; decide), if_neg (by rw [h2]; decide), if_pos h3]
theorem apply_full {m : MapN} {e : EventN} (h : rightE e = true) (h2 : hasV m.ctx e.dot = false) (h3 : getV m.ctx e.dot.dev e.dot.inc + 1 = e.dot.seq) (h4 : 2048 ≤ m.kept.length) : applyM m e = (m, false, 9) := by unfold applyM; rw [if_neg (by rw [h]; decide), if_neg (by rw [h2]; decide), if_neg (by rw [h3]; simp), if_pos h4]
theorem apply_put {m : MapN} {e : EventN} (h : rightE e = true) (h2 : hasV m.ctx e.dot = false) (h3 : getV m.ctx e.dot.dev e.dot.inc + 1 = e.dot.seq) (h4 : ¬ 2048 ≤ m.kept.length) : applyM m e = (⟨setV m.ctx e.dot, insE m.kept e, sortD (m.dead ++ e.over)⟩, true, 0) := by unfold applyM; rw [if_neg (by rw [h]; decide), if_neg (by rw [h2]; decide), if_neg (by rw [h3]; simp), if_neg h4]
theorem sort_self {l : List DotN} (h : SortedD l) : sortD l = l := sorted_unique (sortD_sorted l) h fun x => sortD_mem l x
theorem sort_more (D L : List DotN) (x : DotN) : sortD (sortD (D ++ L) ++ [x]) = sortD (D ++ (L ++ [x])) :=
  sorted_unique (sortD_sorted _) (sortD_sorted _) fun y => by
    simp only [sortD_mem, List.mem_append, List.mem_singleton, or_assoc]
theorem nodup_most0 {α : Type} : ∀ {l m : List α}, l.Nodup → (∀ x ∈ l, x ∈ m) → l.length ≤ m.length := by
  classical
  exact fun {l m} h hs => by
    letI : BEq α := instBEqOfDecidableEq
    exact nodup_most h hs
theorem sort_len (l : List DotN) : (sortD l).length ≤ l.length := nodup_most0 (sortedD_nodup (sortD_sorted l)) fun x hx => (sortD_mem l x).1 hx
/-- The context turned. -/
theorem Real.ctx {w w' : World} {p : Nat} {B : Slots} {rs : List EvR} {m : MapN} (h : Real w p B rs m) {mv : Option Nat} {l : List DotN} (hv : VecIn w' p 0 ((cellsB B).set 0 (.map mv)) mv l) (hk : Keeps (fun b => b = p ∨ B .ctx = some b) w w') (hmv : mv = B .ctx ∨ ∃ b, mv = some b ∧ w.heap.size ≤ b) (hd : ∀ e ∈ m.kept, e.dot.seq ≤ getV l e.dot.dev e.dot.inc) :
    ∃ B', Step w w' p B rs B' rs ⟨l, m.kept, m.dead⟩ := by
  obtain ⟨B', hB1, hB2⟩ := slots_put B .ctx mv
  have hc : cellsB B' = (cellsB B).set 0 (.map mv) := by
    unfold cellsB
    rw [hB1, hB2 .kept (fun q => by cases q), hB2 .dead (fun q => by cases q), hB2 .keys (fun q => by cases q)]
    rfl
  have hP := h.parts
  have hP2 := hP.set .ctx (fun k q => by cases q) (rs' := rs) (c' := l) (E' := m.dead) hB2 hk (hc ▸ hv.obj) (fun b e => by
    rw [hB1] at e
    rcases hmv with c | ⟨b', c, c2⟩
    · exact .inl (c ▸ e)
    · rw [c] at e
      cases e
      exact .inr c2) (fun _ => rfl) (fun c => absurd rfl c) (fun _ => rfl) (by
    show NumsIs w' (B' .ctx) (fun b => B' .ctx = some b) l
    rw [hB1]
    exact hv.nums) (fun r hr => over_keeps (h.over r hr) hk fun k hk1 hc1 => hP.over_apart r hr k hk1 (hc1.imp id fun c => ⟨_, c⟩))
  refine ⟨B', ⟨Parts.real (m := ⟨l, m.kept, m.dead⟩) hP2 (fun _ => rfl) (fun k e => (hB2 _ (fun q => by cases q)).trans (h.nothing k e)) h.rs ⟨⟨hv.ok, h.ok.ok.kept, hd⟩, h.ok.right, h.ok.dead, h.ok.rdead⟩ h.few h.light, hk.mono fun k _ c => c.imp id fun c => ⟨_, c⟩, fun i b e => ?_, fun k c => .inl c⟩⟩
  by_cases q : i = .ctx
  · rw [q, hB1] at e
    rcases hmv with c | ⟨b', c, c2⟩
    · exact .inl ⟨.ctx, c ▸ e⟩
    · rw [c] at e
      cases e
      exact .inr c2
  · rw [hB2 i q] at e
    exact .inl ⟨i, e⟩

set_option maxRecDepth 100000 in
set_option maxHeartbeats 4000000 in
theorem mApplyI {w : World} {p : Nat} {B : Slots} {rs : List EvR} {m : MapN} (h : Real w p B rs m) (r : EvR) (A : Array Value) (hA : (encE r).toArray = A) (hE : RowOf encD 3 w r.a r.e.over.length r.c r.e.over) (hF : ∀ k, At (overA r) k → ¬ OwnB p B k) (hl : lightE r.e = true) (hTb : OTb w) (hdn : m.dead.length ≤ 900000) :
    Calls Tryz.prog 15 #[.pointer (some ⟨p, 0, none⟩), .agg A] w fun e w' => e = .returned (.tuple #[.bool (applyM m r.e).2.1, .int .i64 (applyM m r.e).2.2]) ∧ ∃ B' rs', Step w w' p B rs B' rs' (applyM m r.e).1 := by
  have zA : A.size = 19 := by rw [← hA]; rfl
  have hi0 : A.toList[0]? = some (.int .i64 r.e.dot.dev) := by rw [← hA]; rfl
  have hi1 : A.toList[1]? = some (.int .i64 r.e.dot.inc) := by rw [← hA]; rfl
  have hi2 : A.toList[2]? = some (.int .i64 r.e.dot.seq) := by rw [← hA]; rfl
  have hi18 : A.toList[18]? = some (.slice r.a r.e.over.length r.c) := by rw [← hA]; rfl
  obtain ⟨be, hbe⟩ : ∃ be, w.heap.size = be := ⟨_, rfl⟩
  have oE := ObjAt.new w A 43
  have b1 := below_alloc w (.cells A 43)
  have h1 := h.below b1
  have hE1 := hE.below b1
  have hTb1 := hTb.below b1
  have hpe : p ≠ be := by have := h.obj.lt; omega
  have hce : B .ctx ≠ some be := fun e => by have := (h.blk .ctx be e).lt; omega
  have hlp := h.obj.lt
  rw [hbe] at oE
  generalize hw1 : w.alloc (.cells A 43) = w1 at *
  have lE := oE.lt
  have HR := fun v (hv : Below w1.heap.size w1 v) => eventRightC0 r.e r.a r.e.over.length r.c v (hE1.below hv) hl (hTb1.below hv)
  rw [show (#[.int .i64 r.e.dot.dev, .int .i64 r.e.dot.inc, .int .i64 r.e.dot.seq, .int .i64 r.e.stamp.wall, .int .i64 r.e.stamp.count, .int .i64 r.e.stamp.dev, .int .i64 r.e.kind, .string (str r.e.item.name), .string (str r.e.item.dom), .string (str r.e.item.path), .string (str r.e.item.val), .bool r.e.item.host, .bool r.e.item.sec, .bool r.e.item.http, .bool r.e.item.pers, .int .i64 r.e.item.exp, .int .i64 r.e.item.made, .int .i64 r.e.item.used, .slice r.a r.e.over.length r.c] : Array Value) = A from hA] at HR
  cases hrt : rightE r.e with
  | false =>
    have hpl := Lib.hid (apply_no (m := m) hrt)
    rw [hrt] at HR
    clear hrt
    go_enter Tryz.func15, Tryz.ntmps15
    go_wp2_with (first | (refine wpList_loadAll rfl 43 _ rfl be 19 A rfl oE Tryz.isAgg43 Tryz.sizeOf43 zA ?_) | (go_at_call 52; (with_reducible refine (HR _ (Below.refl _ _)).mono ?_); rintro e w2 ⟨rfl, hx2⟩; have o2 := oE.below hx2 lE; have y0 := o2.cell 0 hi0; have y1 := o2.cell 1 hi1; have y2 := o2.cell 2 hi2))
    go_ret2
    refine ⟨?_, B, rs, ?_⟩
    · first | (rw [hpl.out]; rfl) | (rw [hpl.out])
    · rw [hpl.out]
      exact Step.refl h (b1.trans (hx2.mono b1.size))
  | true =>
  have hx := right_fitD (right_dotE hrt)
  have HH := fun v (hv : Below w1.heap.size w1 v) => mHasA ((h1.below hv).arg) r.e.dot hx
  rw [hrt] at HR
  obtain ⟨dev, hdev⟩ : ∃ d, r.e.dot.dev = d := ⟨_, rfl⟩
  obtain ⟨inc, hinc⟩ : ∃ d, r.e.dot.inc = d := ⟨_, rfl⟩
  obtain ⟨seq, hseq⟩ : ∃ d, r.e.dot.seq = d := ⟨_, rfl⟩
  rw [hdev] at hi0; rw [hinc] at hi1; rw [hseq] at hi2
  simp only [hdev, hinc, hseq] at HH
  have hSb : ∀ v, Below w1.heap.size w1 v → v.cell? ⟨be, 0, none⟩ = some (.int .i64 dev) ∧ v.cell? ⟨be, 1, none⟩ = some (.int .i64 inc) ∧ v.cell? ⟨be, 2, none⟩ = some (.int .i64 seq) := fun v hv => ⟨(oE.below hv lE).cell 0 hi0, (oE.below hv lE).cell 1 hi1, (oE.below hv lE).cell 2 hi2⟩
  cases hhv : hasV m.ctx r.e.dot with
  | true =>
    have hpl := Lib.hid (apply_had hrt hhv)
    rw [hhv] at HH
    clear hhv hrt hdev hinc hseq
    go_enter Tryz.func15, Tryz.ntmps15
    go_wp2_with (first | (refine wpList_loadAll rfl 43 _ rfl be 19 A rfl oE Tryz.isAgg43 Tryz.sizeOf43 zA ?_) | (go_at_call 52; (with_reducible refine (HR _ (Below.refl _ _)).mono ?_); rintro e w2 ⟨rfl, hx2⟩; have o2 := oE.below hx2 lE; have y0 := o2.cell 0 hi0; have y1 := o2.cell 1 hi1; have y2 := o2.cell 2 hi2) | (go_at_call 32; (with_reducible refine (HH _ hx2).mono ?_); rintro e w3 ⟨rfl, hx3⟩; have hb := hx2.trans (hx3.mono hx2.size)))
    go_ret2
    refine ⟨?_, B, rs, ?_⟩
    · first | (rw [hpl.out]; rfl) | (rw [hpl.out])
    · rw [hpl.out]
      exact Step.refl h (b1.trans (hb.mono b1.size))
  | false =>
  have hq := getV_range h.ok.ok.ctx dev inc
  have hg1 : IntKind.i64.wrap (getV m.ctx dev inc + 1) = getV m.ctx dev inc + 1 := by rw [IntKind.wrap_i64]; omega
  have hfd : is64 dev := hdev ▸ hx.dev
  have hfi : is64 inc := hinc ▸ hx.inc
  have HG := fun v (hv : Below w1.heap.size w1 v) => vGetA (h1.below hv).vec.arg dev inc hfd hfi
  rw [hhv] at HH
  obtain ⟨G, hG⟩ : ∃ G, getV m.ctx dev inc = G := ⟨_, rfl⟩
  rw [hG] at hg1 HG
  by_cases hsq : G + 1 = seq
  · subst hsq
    have HO := fun v (hv : Below w1.heap.size w1 v) => mRoomA 1 (h1.below hv) (by omega)
    have hsq' : getV m.ctx r.e.dot.dev r.e.dot.inc + 1 = r.e.dot.seq := by rw [hdev, hinc, hseq, hG]
    by_cases hfull : 2048 ≤ m.kept.length
    · have hpl := Lib.hid (apply_full hrt hhv hsq' hfull)
      have hdf : decide (((m.kept.length : Nat) : Int) + 1 ≤ 2048) = false := decide_eq_false (by omega)
      rw [hdf] at HO
      clear hhv hrt hdev hinc hseq hsq' hdf hfull hq
      go_enter Tryz.func15, Tryz.ntmps15
      go_wp2_with (first | (refine wpList_loadAll rfl 43 _ rfl be 19 A rfl oE Tryz.isAgg43 Tryz.sizeOf43 zA ?_) | (go_at_call 52; (with_reducible refine (HR _ (Below.refl _ _)).mono ?_); rintro e w2 ⟨rfl, hx2⟩; have o2 := oE.below hx2 lE; have y0 := o2.cell 0 hi0; have y1 := o2.cell 1 hi1; have y2 := o2.cell 2 hi2) | (go_at_call 32; (with_reducible refine (HH _ hx2).mono ?_); rintro e w3 ⟨rfl, hx3⟩; have hb := hx2.trans (hx3.mono hx2.size)))
      have hb := hb.drew
      refine wp_region_held_drew (S := fun w' => w'.cell? ⟨be, 0, none⟩ = some (.int .i64 dev) ∧ w'.cell? ⟨be, 1, none⟩ = some (.int .i64 inc) ∧ w'.cell? ⟨be, 2, none⟩ = some (.int .i64 (G + 1))) (by kernel_rfl) (hSb _ hb) (fun hHeld => ?_)
      first
        | (refine wpAnyH_take (i := 0) rfl (by kernel_rfl) (by kernel_rfl) (by kernel_rfl) (fun _ _ _ h => h) (Or.inr ⟨by rfl, rfl⟩) (by assumption) ?_)
        | (refine wpAnyH_take (i := 0) (v := ?vb6) rfl (by kernel_rfl) (by kernel_rfl) (by kernel_rfl) (fun _ _ _ h => h) (Or.inl ⟨by rfl, ?hyb6⟩) (by assumption) ?rb6; case hyb6 => (rintro w' hS; obtain ⟨hs0, hs1, hs2⟩ := hS; go_simp; try with_reducible rfl))
      try simp only [List.getElem_toArray, List.getElem_cons_zero, Act.put, List.setIfInBounds_toArray, List.set_cons_zero, List.set_cons_succ]
      first
        | (refine wpAnyH_take (i := 1) rfl (by kernel_rfl) (by kernel_rfl) (by kernel_rfl) (fun _ _ _ h => h) (Or.inr ⟨by rfl, rfl⟩) (by assumption) ?_)
        | (refine wpAnyH_take (i := 1) (v := ?vb7) rfl (by kernel_rfl) (by kernel_rfl) (by kernel_rfl) (fun _ _ _ h => h) (Or.inl ⟨by rfl, ?hyb7⟩) (by assumption) ?rb7; case hyb7 => (rintro w' hS; obtain ⟨hs0, hs1, hs2⟩ := hS; go_simp; try with_reducible rfl))
      try simp only [List.getElem_toArray, List.getElem_cons_zero, List.getElem_cons_succ, Act.put, List.setIfInBounds_toArray, List.set_cons_zero, List.set_cons_succ]
      first
        | (refine wpAnyH_take (i := 2) rfl (by kernel_rfl) (by kernel_rfl) (by kernel_rfl) (fun _ _ _ h => h) (Or.inr ⟨by rfl, rfl⟩) (by assumption) ?_)
        | (refine wpAnyH_take (i := 2) (v := ?vb8) rfl (by kernel_rfl) (by kernel_rfl) (by kernel_rfl) (fun _ _ _ h => h) (Or.inl ⟨by rfl, ?hyb8⟩) (by assumption) ?rb8; case hyb8 => (rintro w' hS; obtain ⟨hs0, hs1, hs2⟩ := hS; go_simp; try with_reducible rfl))
      try simp only [List.getElem_toArray, List.getElem_cons_zero, List.getElem_cons_succ, Act.put, List.setIfInBounds_toArray, List.set_cons_zero, List.set_cons_succ]
      first
        | (refine wpAnyH_take (i := 3) rfl (by kernel_rfl) (by kernel_rfl) (by kernel_rfl) (fun _ _ _ h => h) (Or.inr ⟨by rfl, rfl⟩) (by assumption) ?_)
        | (refine wpAnyH_take (i := 3) (v := ?vb9) rfl (by kernel_rfl) (by kernel_rfl) (by kernel_rfl) (fun _ _ _ h => h) (Or.inl ⟨by rfl, ?hyb9⟩) (by assumption) ?rb9; case hyb9 => (rintro w' hS; obtain ⟨hs0, hs1, hs2⟩ := hS; go_simp; try with_reducible rfl))
      try simp only [List.getElem_toArray, List.getElem_cons_zero, List.getElem_cons_succ, Act.put, List.setIfInBounds_toArray, List.set_cons_zero, List.set_cons_succ]
      first
        | (refine wpAnyH_take (i := 4) rfl (by kernel_rfl) (by kernel_rfl) (by kernel_rfl) (fun _ _ _ h => h) (Or.inr ⟨by rfl, rfl⟩) (by assumption) ?_)
        | (refine wpAnyH_take (i := 4) (v := ?vb10) rfl (by kernel_rfl) (by kernel_rfl) (by kernel_rfl) (fun _ _ _ h => h) (Or.inl ⟨by rfl, ?hyb10⟩) (by assumption) ?rb10; case hyb10 => (rintro w' hS; obtain ⟨hs0, hs1, hs2⟩ := hS; go_simp; try with_reducible rfl))
      try simp only [List.getElem_toArray, List.getElem_cons_zero, List.getElem_cons_succ, Act.put, List.setIfInBounds_toArray, List.set_cons_zero, List.set_cons_succ]
      first
        | (refine wpAnyH_take (i := 5) rfl (by kernel_rfl) (by kernel_rfl) (by kernel_rfl) (fun _ _ _ h => h) (Or.inr ⟨by rfl, rfl⟩) (by assumption) ?_)
        | (refine wpAnyH_take (i := 5) (v := ?vb11) rfl (by kernel_rfl) (by kernel_rfl) (by kernel_rfl) (fun _ _ _ h => h) (Or.inl ⟨by rfl, ?hyb11⟩) (by assumption) ?rb11; case hyb11 => (rintro w' hS; obtain ⟨hs0, hs1, hs2⟩ := hS; go_simp; try with_reducible rfl))
      try simp only [List.getElem_toArray, List.getElem_cons_zero, List.getElem_cons_succ, Act.put, List.setIfInBounds_toArray, List.set_cons_zero, List.set_cons_succ]
      first
        | (refine wpAnyH_take (i := 6) rfl (by kernel_rfl) (by kernel_rfl) (by kernel_rfl) (fun _ _ _ h => h) (Or.inr ⟨by rfl, rfl⟩) (by assumption) ?_)
        | (refine wpAnyH_take (i := 6) (v := ?vb12) rfl (by kernel_rfl) (by kernel_rfl) (by kernel_rfl) (fun _ _ _ h => h) (Or.inl ⟨by rfl, ?hyb12⟩) (by assumption) ?rb12; case hyb12 => (rintro w' hS; obtain ⟨hs0, hs1, hs2⟩ := hS; go_simp; try with_reducible rfl))
      try simp only [List.getElem_toArray, List.getElem_cons_zero, List.getElem_cons_succ, Act.put, List.setIfInBounds_toArray, List.set_cons_zero, List.set_cons_succ]
      first
        | (refine wpAnyH_take (i := 7) rfl (by kernel_rfl) (by kernel_rfl) (by kernel_rfl) (fun _ _ _ h => h) (Or.inr ⟨by rfl, rfl⟩) (by assumption) ?_)
        | (refine wpAnyH_take (i := 7) (v := ?vb13) rfl (by kernel_rfl) (by kernel_rfl) (by kernel_rfl) (fun _ _ _ h => h) (Or.inl ⟨by rfl, ?hyb13⟩) (by assumption) ?rb13; case hyb13 => (rintro w' hS; obtain ⟨hs0, hs1, hs2⟩ := hS; go_simp; try with_reducible rfl))
      try simp only [List.getElem_toArray, List.getElem_cons_zero, List.getElem_cons_succ, Act.put, List.setIfInBounds_toArray, List.set_cons_zero, List.set_cons_succ]
      first
        | (refine wpAnyH_take (i := 8) rfl (by kernel_rfl) (by kernel_rfl) (by kernel_rfl) (fun _ _ _ h => h) (Or.inr ⟨by rfl, rfl⟩) (by assumption) ?_)
        | (refine wpAnyH_take (i := 8) (v := ?vb14) rfl (by kernel_rfl) (by kernel_rfl) (by kernel_rfl) (fun _ _ _ h => h) (Or.inl ⟨by rfl, ?hyb14⟩) (by assumption) ?rb14; case hyb14 => (rintro w' hS; obtain ⟨hs0, hs1, hs2⟩ := hS; go_simp; try with_reducible rfl))
      try simp only [List.getElem_toArray, List.getElem_cons_zero, List.getElem_cons_succ, Act.put, List.setIfInBounds_toArray, List.set_cons_zero, List.set_cons_succ]
      refine wpAnyH_ready (rs := [9]) (by kernel_rfl) (by simp) ?_
      refine AllReadyH.cons (o := _) rfl (fun K hK => ?_) AllReadyH.nil
      go_simp
      go_at_call 53; (with_reducible refine (HG _ hb).mono ?_); rintro e w4 ⟨rfl, hx⟩; have hb := hb.trans (hx.mono hb.size); clear hx
      try dsimp only
      refine hK.out _ _ (hSb _ hb) (fun hHeld => ?_)
      clear hK K
      try simp only [List.getElem_toArray, List.getElem_cons_zero, List.getElem_cons_succ, Act.put, List.setIfInBounds_toArray, List.set_cons_zero, List.set_cons_succ]
      first
        | (refine wpAnyH_take (i := 10) rfl (by kernel_rfl) (by kernel_rfl) (by kernel_rfl) (fun _ _ _ h => h) (Or.inr ⟨by rfl, rfl⟩) (by assumption) ?_)
        | (refine wpAnyH_take (i := 10) (v := ?vb15) rfl (by kernel_rfl) (by kernel_rfl) (by kernel_rfl) (fun _ _ _ h => h) (Or.inl ⟨by rfl, ?hyb15⟩) (by assumption) ?rb15; case hyb15 => (rintro w' hS; obtain ⟨hs0, hs1, hs2⟩ := hS; go_simp; try with_reducible rfl))
      try simp only [List.getElem_toArray, List.getElem_cons_zero, List.getElem_cons_succ, Act.put, List.setIfInBounds_toArray, List.set_cons_zero, List.set_cons_succ]
      first
        | (refine wpAnyH_take (i := 11) rfl (by kernel_rfl) (by kernel_rfl) (by kernel_rfl) (fun _ _ _ h => h) (Or.inr ⟨by rfl, rfl⟩) (by assumption) ?_)
        | (refine wpAnyH_take (i := 11) (v := ?vb16) rfl (by kernel_rfl) (by kernel_rfl) (by kernel_rfl) (fun _ _ _ h => h) (Or.inl ⟨by rfl, ?hyb16⟩) (by assumption) ?rb16; case hyb16 => (rintro w' hS; obtain ⟨hs0, hs1, hs2⟩ := hS; go_simp; try with_reducible rfl))
      try simp only [List.getElem_toArray, List.getElem_cons_zero, List.getElem_cons_succ, Act.put, List.setIfInBounds_toArray, List.set_cons_zero, List.set_cons_succ]
      first
        | (refine wpAnyH_take (i := 12) rfl (by kernel_rfl) (by kernel_rfl) (by kernel_rfl) (fun _ _ _ h => h) (Or.inr ⟨by rfl, rfl⟩) (by assumption) ?_)
        | (refine wpAnyH_take (i := 12) (v := ?vb17) rfl (by kernel_rfl) (by kernel_rfl) (by kernel_rfl) (fun _ _ _ h => h) (Or.inl ⟨by rfl, ?hyb17⟩) (by assumption) ?rb17; case hyb17 => (rintro w' hS; obtain ⟨hs0, hs1, hs2⟩ := hS; go_simp; try with_reducible rfl))
      try simp only [List.getElem_toArray, List.getElem_cons_zero, List.getElem_cons_succ, Act.put, List.setIfInBounds_toArray, List.set_cons_zero, List.set_cons_succ]
      refine wpAnyH_done (by kernel_rfl) ?_ _
      go_wp2_with (go_at_call 37; (with_reducible refine (HO _ hb).mono ?_); rintro e w5 ⟨rfl, hx5⟩; have hb := hb.trans (hx5.mono hb.size); clear hx5)
      go_ret2
      refine ⟨?_, B, rs, ?_⟩
      · first | (rw [hpl.out]; rfl) | (rw [hpl.out])
      · rw [hpl.out]
        exact Step.refl h (b1.trans (hb.mono b1.size))
    · have hapl := apply_put hrt hhv hsq' hfull
      have hdf : decide (((m.kept.length : Nat) : Int) + 1 ≤ 2048) = true := decide_eq_true (by omega)
      rw [hdf] at HO
      have hTK : takeV m.ctx r.e.dot = (setV m.ctx r.e.dot, true) := by unfold takeV; rw [if_pos ⟨right_dotE hrt, hsq'⟩]
      have HT := fun v (hv : Below w1.heap.size w1 v) => vTakeI p 0 (cellsB B) (B .ctx) m.ctx r.e.dot v (h1.below hv).vec hx
      unfold RaisedI at HT
      simp only [hTK, hdev, hinc, hseq] at HT
      have hset := fun d i => getV_set h.ok.ok.ctx.ord r.e.dot d i
      have hdots := h.ok.ok.dots
      have hmono : ∀ e ∈ m.kept, e.dot.seq ≤ getV (setV m.ctx r.e.dot) e.dot.dev e.dot.inc := fun e he => by
        rw [hset]
        have h2 := hdots e he
        split
        · rename_i c
          rw [← c.1, ← c.2] at h2
          omega
        · exact h2
      have hself : r.e.dot.seq ≤ getV (setV m.ctx r.e.dot) r.e.dot.dev r.e.dot.inc := by
        rw [hset, if_pos ⟨rfl, rfl⟩]
        exact Int.le_refl _
      have hnew : ∀ e ∈ m.kept, e.dot ≠ r.e.dot := fun e he c => by
        have h2 := hdots e he
        rw [c] at h2
        omega
      have hov := right_overE hrt
      have hlov : r.e.over.length ≤ 100 := by
        unfold lightE at hl
        simp only [Bool.and_eq_true, decide_eq_true_eq] at hl
        exact hl.1
      have hself0 := sort_self h.ok.dead
      have hkl : m.kept.length < 2048 := by omega
      have hpl := Lib.hid hapl
      have hSq := Lib.hid hself
      have hNew := Lib.hid hnew
      have hMono := Lib.hid hmono
      have hrt2 := Lib.hid hrt
      clear hapl hhv hrt hdev hinc hseq hsq' hdf hfull hq hset hdots hmono hself hnew hTK HG
      go_enter Tryz.func15, Tryz.ntmps15
      go_wp2_with (first | (refine wpList_loadAll rfl 43 _ rfl be 19 A rfl oE Tryz.isAgg43 Tryz.sizeOf43 zA ?_) | (go_at_call 52; (with_reducible refine (HR _ (Below.refl _ _)).mono ?_); rintro e w2 ⟨rfl, hx2⟩; have o2 := oE.below hx2 lE; have y0 := o2.cell 0 hi0; have y1 := o2.cell 1 hi1; have y2 := o2.cell 2 hi2) | (go_at_call 32; (with_reducible refine (HH _ hx2).mono ?_); rintro e w3 ⟨rfl, hx3⟩; have hb := hx2.trans (hx3.mono hx2.size)))
      have HG := fun v (hv : Below w1.heap.size w1 v) => vGetA (h1.below hv).vec.arg dev inc hfd hfi
      rw [hG] at HG
      have hb := hb.drew
      refine wp_region_held_drew (S := fun w' => w'.cell? ⟨be, 0, none⟩ = some (.int .i64 dev) ∧ w'.cell? ⟨be, 1, none⟩ = some (.int .i64 inc) ∧ w'.cell? ⟨be, 2, none⟩ = some (.int .i64 (G + 1))) (by kernel_rfl) (hSb _ hb) (fun hHeld => ?_)
      first
        | (refine wpAnyH_take (i := 0) rfl (by kernel_rfl) (by kernel_rfl) (by kernel_rfl) (fun _ _ _ h => h) (Or.inr ⟨by rfl, rfl⟩) (by assumption) ?_)
        | (refine wpAnyH_take (i := 0) (v := ?vb18) rfl (by kernel_rfl) (by kernel_rfl) (by kernel_rfl) (fun _ _ _ h => h) (Or.inl ⟨by rfl, ?hyb18⟩) (by assumption) ?rb18; case hyb18 => (rintro w' hS; obtain ⟨hs0, hs1, hs2⟩ := hS; go_simp; try with_reducible rfl))
      try simp only [List.getElem_toArray, List.getElem_cons_zero, Act.put, List.setIfInBounds_toArray, List.set_cons_zero, List.set_cons_succ]
      first
        | (refine wpAnyH_take (i := 1) rfl (by kernel_rfl) (by kernel_rfl) (by kernel_rfl) (fun _ _ _ h => h) (Or.inr ⟨by rfl, rfl⟩) (by assumption) ?_)
        | (refine wpAnyH_take (i := 1) (v := ?vb19) rfl (by kernel_rfl) (by kernel_rfl) (by kernel_rfl) (fun _ _ _ h => h) (Or.inl ⟨by rfl, ?hyb19⟩) (by assumption) ?rb19; case hyb19 => (rintro w' hS; obtain ⟨hs0, hs1, hs2⟩ := hS; go_simp; try with_reducible rfl))
      try simp only [List.getElem_toArray, List.getElem_cons_zero, List.getElem_cons_succ, Act.put, List.setIfInBounds_toArray, List.set_cons_zero, List.set_cons_succ]
      first
        | (refine wpAnyH_take (i := 2) rfl (by kernel_rfl) (by kernel_rfl) (by kernel_rfl) (fun _ _ _ h => h) (Or.inr ⟨by rfl, rfl⟩) (by assumption) ?_)
        | (refine wpAnyH_take (i := 2) (v := ?vb20) rfl (by kernel_rfl) (by kernel_rfl) (by kernel_rfl) (fun _ _ _ h => h) (Or.inl ⟨by rfl, ?hyb20⟩) (by assumption) ?rb20; case hyb20 => (rintro w' hS; obtain ⟨hs0, hs1, hs2⟩ := hS; go_simp; try with_reducible rfl))
      try simp only [List.getElem_toArray, List.getElem_cons_zero, List.getElem_cons_succ, Act.put, List.setIfInBounds_toArray, List.set_cons_zero, List.set_cons_succ]
      first
        | (refine wpAnyH_take (i := 3) rfl (by kernel_rfl) (by kernel_rfl) (by kernel_rfl) (fun _ _ _ h => h) (Or.inr ⟨by rfl, rfl⟩) (by assumption) ?_)
        | (refine wpAnyH_take (i := 3) (v := ?vb21) rfl (by kernel_rfl) (by kernel_rfl) (by kernel_rfl) (fun _ _ _ h => h) (Or.inl ⟨by rfl, ?hyb21⟩) (by assumption) ?rb21; case hyb21 => (rintro w' hS; obtain ⟨hs0, hs1, hs2⟩ := hS; go_simp; try with_reducible rfl))
      try simp only [List.getElem_toArray, List.getElem_cons_zero, List.getElem_cons_succ, Act.put, List.setIfInBounds_toArray, List.set_cons_zero, List.set_cons_succ]
      first
        | (refine wpAnyH_take (i := 4) rfl (by kernel_rfl) (by kernel_rfl) (by kernel_rfl) (fun _ _ _ h => h) (Or.inr ⟨by rfl, rfl⟩) (by assumption) ?_)
        | (refine wpAnyH_take (i := 4) (v := ?vb22) rfl (by kernel_rfl) (by kernel_rfl) (by kernel_rfl) (fun _ _ _ h => h) (Or.inl ⟨by rfl, ?hyb22⟩) (by assumption) ?rb22; case hyb22 => (rintro w' hS; obtain ⟨hs0, hs1, hs2⟩ := hS; go_simp; try with_reducible rfl))
      try simp only [List.getElem_toArray, List.getElem_cons_zero, List.getElem_cons_succ, Act.put, List.setIfInBounds_toArray, List.set_cons_zero, List.set_cons_succ]
      first
        | (refine wpAnyH_take (i := 5) rfl (by kernel_rfl) (by kernel_rfl) (by kernel_rfl) (fun _ _ _ h => h) (Or.inr ⟨by rfl, rfl⟩) (by assumption) ?_)
        | (refine wpAnyH_take (i := 5) (v := ?vb23) rfl (by kernel_rfl) (by kernel_rfl) (by kernel_rfl) (fun _ _ _ h => h) (Or.inl ⟨by rfl, ?hyb23⟩) (by assumption) ?rb23; case hyb23 => (rintro w' hS; obtain ⟨hs0, hs1, hs2⟩ := hS; go_simp; try with_reducible rfl))
      try simp only [List.getElem_toArray, List.getElem_cons_zero, List.getElem_cons_succ, Act.put, List.setIfInBounds_toArray, List.set_cons_zero, List.set_cons_succ]
      first
        | (refine wpAnyH_take (i := 6) rfl (by kernel_rfl) (by kernel_rfl) (by kernel_rfl) (fun _ _ _ h => h) (Or.inr ⟨by rfl, rfl⟩) (by assumption) ?_)
        | (refine wpAnyH_take (i := 6) (v := ?vb24) rfl (by kernel_rfl) (by kernel_rfl) (by kernel_rfl) (fun _ _ _ h => h) (Or.inl ⟨by rfl, ?hyb24⟩) (by assumption) ?rb24; case hyb24 => (rintro w' hS; obtain ⟨hs0, hs1, hs2⟩ := hS; go_simp; try with_reducible rfl))
      try simp only [List.getElem_toArray, List.getElem_cons_zero, List.getElem_cons_succ, Act.put, List.setIfInBounds_toArray, List.set_cons_zero, List.set_cons_succ]
      first
        | (refine wpAnyH_take (i := 7) rfl (by kernel_rfl) (by kernel_rfl) (by kernel_rfl) (fun _ _ _ h => h) (Or.inr ⟨by rfl, rfl⟩) (by assumption) ?_)
        | (refine wpAnyH_take (i := 7) (v := ?vb25) rfl (by kernel_rfl) (by kernel_rfl) (by kernel_rfl) (fun _ _ _ h => h) (Or.inl ⟨by rfl, ?hyb25⟩) (by assumption) ?rb25; case hyb25 => (rintro w' hS; obtain ⟨hs0, hs1, hs2⟩ := hS; go_simp; try with_reducible rfl))
      try simp only [List.getElem_toArray, List.getElem_cons_zero, List.getElem_cons_succ, Act.put, List.setIfInBounds_toArray, List.set_cons_zero, List.set_cons_succ]
      first
        | (refine wpAnyH_take (i := 8) rfl (by kernel_rfl) (by kernel_rfl) (by kernel_rfl) (fun _ _ _ h => h) (Or.inr ⟨by rfl, rfl⟩) (by assumption) ?_)
        | (refine wpAnyH_take (i := 8) (v := ?vb26) rfl (by kernel_rfl) (by kernel_rfl) (by kernel_rfl) (fun _ _ _ h => h) (Or.inl ⟨by rfl, ?hyb26⟩) (by assumption) ?rb26; case hyb26 => (rintro w' hS; obtain ⟨hs0, hs1, hs2⟩ := hS; go_simp; try with_reducible rfl))
      try simp only [List.getElem_toArray, List.getElem_cons_zero, List.getElem_cons_succ, Act.put, List.setIfInBounds_toArray, List.set_cons_zero, List.set_cons_succ]
      refine wpAnyH_ready (rs := [9]) (by kernel_rfl) (by simp) ?_
      refine AllReadyH.cons (o := _) rfl (fun K hK => ?_) AllReadyH.nil
      go_simp
      go_at_call 53; (with_reducible refine (HG _ hb).mono ?_); rintro e w4 ⟨rfl, hx⟩; have hb := hb.trans (hx.mono hb.size); clear hx
      try dsimp only
      refine hK.out _ _ (hSb _ hb) (fun hHeld => ?_)
      clear hK K
      try simp only [List.getElem_toArray, List.getElem_cons_zero, List.getElem_cons_succ, Act.put, List.setIfInBounds_toArray, List.set_cons_zero, List.set_cons_succ]
      first
        | (refine wpAnyH_take (i := 10) rfl (by kernel_rfl) (by kernel_rfl) (by kernel_rfl) (fun _ _ _ h => h) (Or.inr ⟨by rfl, rfl⟩) (by assumption) ?_)
        | (refine wpAnyH_take (i := 10) (v := ?vb27) rfl (by kernel_rfl) (by kernel_rfl) (by kernel_rfl) (fun _ _ _ h => h) (Or.inl ⟨by rfl, ?hyb27⟩) (by assumption) ?rb27; case hyb27 => (rintro w' hS; obtain ⟨hs0, hs1, hs2⟩ := hS; go_simp; try with_reducible rfl))
      try simp only [List.getElem_toArray, List.getElem_cons_zero, List.getElem_cons_succ, Act.put, List.setIfInBounds_toArray, List.set_cons_zero, List.set_cons_succ]
      first
        | (refine wpAnyH_take (i := 11) rfl (by kernel_rfl) (by kernel_rfl) (by kernel_rfl) (fun _ _ _ h => h) (Or.inr ⟨by rfl, rfl⟩) (by assumption) ?_)
        | (refine wpAnyH_take (i := 11) (v := ?vb28) rfl (by kernel_rfl) (by kernel_rfl) (by kernel_rfl) (fun _ _ _ h => h) (Or.inl ⟨by rfl, ?hyb28⟩) (by assumption) ?rb28; case hyb28 => (rintro w' hS; obtain ⟨hs0, hs1, hs2⟩ := hS; go_simp; try with_reducible rfl))
      try simp only [List.getElem_toArray, List.getElem_cons_zero, List.getElem_cons_succ, Act.put, List.setIfInBounds_toArray, List.set_cons_zero, List.set_cons_succ]
      first
        | (refine wpAnyH_take (i := 12) rfl (by kernel_rfl) (by kernel_rfl) (by kernel_rfl) (fun _ _ _ h => h) (Or.inr ⟨by rfl, rfl⟩) (by assumption) ?_)
        | (refine wpAnyH_take (i := 12) (v := ?vb29) rfl (by kernel_rfl) (by kernel_rfl) (by kernel_rfl) (fun _ _ _ h => h) (Or.inl ⟨by rfl, ?hyb29⟩) (by assumption) ?rb29; case hyb29 => (rintro w' hS; obtain ⟨hs0, hs1, hs2⟩ := hS; go_simp; try with_reducible rfl))
      try simp only [List.getElem_toArray, List.getElem_cons_zero, List.getElem_cons_succ, Act.put, List.setIfInBounds_toArray, List.set_cons_zero, List.set_cons_succ]
      refine wpAnyH_done (by kernel_rfl) ?_ _
      go_wp2_with (go_at_call 37; (with_reducible refine (HO _ hb).mono ?_); rintro e w5 ⟨rfl, hx5⟩; have hb := hb.trans (hx5.mono hb.size); clear hx5)
      have hb' := hb.drew
      refine wp_region_held_drew (S := fun w' => w'.cell? ⟨be, 0, none⟩ = some (.int .i64 dev) ∧ w'.cell? ⟨be, 1, none⟩ = some (.int .i64 inc) ∧ w'.cell? ⟨be, 2, none⟩ = some (.int .i64 (G + 1))) (by kernel_rfl) (hSb _ hb') (fun hHeld => ?_)
      first
        | (refine wpAnyH_take (i := 0) rfl (by kernel_rfl) (by kernel_rfl) (by kernel_rfl) (fun _ _ _ h => h) (Or.inr ⟨by rfl, rfl⟩) (by assumption) ?_)
        | (refine wpAnyH_take (i := 0) (v := ?vb1) rfl (by kernel_rfl) (by kernel_rfl) (by kernel_rfl) (fun _ _ _ h => h) (Or.inl ⟨by rfl, ?hyb1⟩) (by assumption) ?rb1; case hyb1 => (rintro w' hS; obtain ⟨hs0, hs1, hs2⟩ := hS; go_simp; try with_reducible rfl))
      try simp only [List.getElem_toArray, List.getElem_cons_zero, Act.put, List.setIfInBounds_toArray, List.set_cons_zero, List.set_cons_succ]
      first
        | (refine wpAnyH_take (i := 1) rfl (by kernel_rfl) (by kernel_rfl) (by kernel_rfl) (fun _ _ _ h => h) (Or.inr ⟨by rfl, rfl⟩) (by assumption) ?_)
        | (refine wpAnyH_take (i := 1) (v := ?vb2) rfl (by kernel_rfl) (by kernel_rfl) (by kernel_rfl) (fun _ _ _ h => h) (Or.inl ⟨by rfl, ?hyb2⟩) (by assumption) ?rb2; case hyb2 => (rintro w' hS; obtain ⟨hs0, hs1, hs2⟩ := hS; go_simp; try with_reducible rfl))
      try simp only [List.getElem_toArray, List.getElem_cons_zero, List.getElem_cons_succ, Act.put, List.setIfInBounds_toArray, List.set_cons_zero, List.set_cons_succ]
      first
        | (refine wpAnyH_take (i := 2) rfl (by kernel_rfl) (by kernel_rfl) (by kernel_rfl) (fun _ _ _ h => h) (Or.inr ⟨by rfl, rfl⟩) (by assumption) ?_)
        | (refine wpAnyH_take (i := 2) (v := ?vb3) rfl (by kernel_rfl) (by kernel_rfl) (by kernel_rfl) (fun _ _ _ h => h) (Or.inl ⟨by rfl, ?hyb3⟩) (by assumption) ?rb3; case hyb3 => (rintro w' hS; obtain ⟨hs0, hs1, hs2⟩ := hS; go_simp; try with_reducible rfl))
      try simp only [List.getElem_toArray, List.getElem_cons_zero, List.getElem_cons_succ, Act.put, List.setIfInBounds_toArray, List.set_cons_zero, List.set_cons_succ]
      first
        | (refine wpAnyH_take (i := 3) rfl (by kernel_rfl) (by kernel_rfl) (by kernel_rfl) (fun _ _ _ h => h) (Or.inr ⟨by rfl, rfl⟩) (by assumption) ?_)
        | (refine wpAnyH_take (i := 3) (v := ?vb4) rfl (by kernel_rfl) (by kernel_rfl) (by kernel_rfl) (fun _ _ _ h => h) (Or.inl ⟨by rfl, ?hyb4⟩) (by assumption) ?rb4; case hyb4 => (rintro w' hS; obtain ⟨hs0, hs1, hs2⟩ := hS; go_simp; try with_reducible rfl))
      try simp only [List.getElem_toArray, List.getElem_cons_zero, List.getElem_cons_succ, Act.put, List.setIfInBounds_toArray, List.set_cons_zero, List.set_cons_succ]
      first
        | (refine wpAnyH_take (i := 4) rfl (by kernel_rfl) (by kernel_rfl) (by kernel_rfl) (fun _ _ _ h => h) (Or.inr ⟨by rfl, rfl⟩) (by assumption) ?_)
        | (refine wpAnyH_take (i := 4) (v := ?vb5) rfl (by kernel_rfl) (by kernel_rfl) (by kernel_rfl) (fun _ _ _ h => h) (Or.inl ⟨by rfl, ?hyb5⟩) (by assumption) ?rb5; case hyb5 => (rintro w' hS; obtain ⟨hs0, hs1, hs2⟩ := hS; go_simp; try with_reducible rfl))
      try simp only [List.getElem_toArray, List.getElem_cons_zero, List.getElem_cons_succ, Act.put, List.setIfInBounds_toArray, List.set_cons_zero, List.set_cons_succ]
      refine wpAnyH_ready (rs := [5]) (by kernel_rfl) (by simp) ?_
      refine AllReadyH.cons (o := _) rfl (fun K hK => ?_) AllReadyH.nil
      go_simp
      go_at_call 54; (with_reducible refine (HT _ hb').mono ?_); rintro e w6 ⟨rfl, mv, hv6, hk6, hmv⟩; have o6 := (oE.below hb' lE).keeps hk6 (fun c => c.elim (fun c => hpe c.symm) (fun c => hce c)); have s6 : w6.cell? ⟨be, 0, none⟩ = some (.int .i64 dev) ∧ w6.cell? ⟨be, 1, none⟩ = some (.int .i64 inc) ∧ w6.cell? ⟨be, 2, none⟩ = some (.int .i64 (G + 1)) := ⟨o6.cell 0 hi0, o6.cell 1 hi1, o6.cell 2 hi2⟩
      try dsimp only
      refine hK.out _ _ (s6) (fun hHeld => ?_)
      clear hK K
      try simp only [List.getElem_toArray, List.getElem_cons_zero, List.getElem_cons_succ, Act.put, List.setIfInBounds_toArray, List.set_cons_zero, List.set_cons_succ]
      refine wpAnyH_done (by kernel_rfl) ?_ _
      have hv5 := h1.below hb'
      obtain ⟨B2, st2⟩ := Real.ctx hv5 hv6 hk6 hmv hMono.out
      have st0 : Step w w6 p B rs B2 rs ⟨setV m.ctx r.e.dot, m.kept, m.dead⟩ := (Step.refl h (b1.trans (hb'.mono b1.size))).trans st2
      clear hv5 hv6 hk6 hmv st2 hb hb' hSb HT HO HH HR HG hx2 hx3 o2 y0 y1 y2 s6 hHeld
      have hE6 := over_keeps hE st0.keeps hF
      have HKp := mKeepI st0.real r A hA hE6 hl hrt2.out hNew.out hkl hSq.out
      dsimp only at HKp
      have hoff : ∀ (v : World) B' rs' m', Real v p B' rs' m' → ObjAt v be A.toList → ¬ OwnB p B' be := fun v B' rs' m' hR hO hc => by
        rcases hc with hc | ⟨i, hc⟩
        · exact hpe hc.symm
        · exact (hR.blk i be hc).not_obj hO rfl
      have oE6 := o6
      clear o6
      go_wp2_with (first | (refine wpList_loadAll rfl 43 _ rfl be 19 A rfl oE6 Tryz.isAgg43 Tryz.sizeOf43 zA ?_) | (go_at_call 55; (with_reducible refine HKp.mono ?_); rintro e w7 ⟨rfl, B3, q, hqe, st7⟩; have o7 := oE6.keeps st7.keeps (hoff _ _ _ _ st0.real oE6); have y18 := o7.cell 18 hi18))
      have st07 := st0.trans st7
      clear st0 st7 HKp oE6 hoff hMono hNew hSq o7 hTb1 hTb oE b1 h1 hE1
      go_loopw [49] (fun i wr => ∃ (k : Nat) (B4 : Slots), k ≤ r.e.over.length ∧ i = .int .i64 (k : Int) ∧ Step w wr p B rs B4 (insR rs q) ⟨setV m.ctx r.e.dot, insE m.kept r.e, sortD (m.dead ++ r.e.over.take k)⟩) (fun i _ => r.e.over.length - (intOf i).toNat)
      case atStart => exact ⟨0, B3, Nat.zero_le _, rfl, by rw [List.take_zero, List.append_nil, hself0]; exact st07⟩
      case round =>
        clear st07
        obtain ⟨k, B4, hk, rfl, st⟩ := hrel
        have hEr := over_keeps hE st.keeps hF
        have hcm := hEr.capm
        have hcl := hEr.cle
        unfold maxLen at hcm
        by_cases hlt : k < r.e.over.length
        · have hlt' : (k : Int) < (r.e.over.length : Int) := by omega
          obtain ⟨x, g, off, hxk, hra, u0, u1, u2⟩ := dot_at hEr k hlt
          have hxr := hov x (List.mem_of_getElem? hxk)
          have hbd := below_alloc wr (.cells #[.int .i64 x.dev, .int .i64 x.inc, .int .i64 x.seq] 35)
          have od := ObjAt.new wr #[.int .i64 x.dev, .int .i64 x.inc, .int .i64 x.seq] 35
          have z0 := od.cell 0 rfl; have z1 := od.cell 1 rfl; have z2 := od.cell 2 rfl
          have HKl := mKillI (st.real.below hbd) x hxr (by have := sort_len (m.dead ++ r.e.over.take k); rw [List.length_append, List.length_take] at this; dsimp only; omega)
          have st8 := st.trans (Step.refl st.real hbd)
          have htk : r.e.over.take (k + 1) = r.e.over.take k ++ [x] := take_snocI hxk
          clear hEr od
          go_wp2_with (go_at_call 56; (with_reducible refine HKl.mono ?_); rintro e w8 ⟨rfl, B5, st9⟩)
          go_roundw
          case rel =>
            refine ⟨_, _, _, _, _, _, _, _, _, ⟨k + 1, B5, by omega, by go_num, ?_⟩, (by rw [hra]; rfl)⟩
            have h9 := st8.trans st9
            rw [show killM ⟨setV m.ctx r.e.dot, insE m.kept r.e, sortD (m.dead ++ r.e.over.take k)⟩ x = ⟨setV m.ctx r.e.dot, insE m.kept r.e, sortD (m.dead ++ r.e.over.take (k + 1))⟩ from by unfold killM; rw [sort_more, ← htk]] at h9
            exact h9
          case measure => simp [intOf]; omega
        · obtain rfl : k = r.e.over.length := by omega
          go_wp2
          go_ret2
          refine ⟨?_, B4, insR rs q, ?_⟩
          · first | (rw [hpl.out]; rfl) | (rw [hpl.out])
          · rw [hpl.out]
            rw [List.take_of_length_le (Nat.le_refl _)] at st
            exact st
  · have hpl := Lib.hid (apply_gap hrt hhv (by rw [hdev, hinc, hseq, hG]; exact hsq))
    have hsn : (seq != G + 1) = true := by simp; omega
    have hsn2 : ¬ seq = G + 1 := by omega
    have hsn3 : (seq == G + 1) = false := by simp; omega
    clear hhv hrt hdev hinc hseq hq
    go_enter Tryz.func15, Tryz.ntmps15
    go_wp2_with (first | (refine wpList_loadAll rfl 43 _ rfl be 19 A rfl oE Tryz.isAgg43 Tryz.sizeOf43 zA ?_) | (go_at_call 52; (with_reducible refine (HR _ (Below.refl _ _)).mono ?_); rintro e w2 ⟨rfl, hx2⟩; have o2 := oE.below hx2 lE; have y0 := o2.cell 0 hi0; have y1 := o2.cell 1 hi1; have y2 := o2.cell 2 hi2) | (go_at_call 32; (with_reducible refine (HH _ hx2).mono ?_); rintro e w3 ⟨rfl, hx3⟩; have hb := hx2.trans (hx3.mono hx2.size)))
    have hb := hb.drew
    refine wp_region_held_drew (S := fun w' => w'.cell? ⟨be, 0, none⟩ = some (.int .i64 dev) ∧ w'.cell? ⟨be, 1, none⟩ = some (.int .i64 inc) ∧ w'.cell? ⟨be, 2, none⟩ = some (.int .i64 seq)) (by kernel_rfl) (hSb _ hb) (fun hHeld => ?_)
    first
      | (refine wpAnyH_take (i := 0) rfl (by kernel_rfl) (by kernel_rfl) (by kernel_rfl) (fun _ _ _ h => h) (Or.inr ⟨by rfl, rfl⟩) (by assumption) ?_)
      | (refine wpAnyH_take (i := 0) (v := ?vb30) rfl (by kernel_rfl) (by kernel_rfl) (by kernel_rfl) (fun _ _ _ h => h) (Or.inl ⟨by rfl, ?hyb30⟩) (by assumption) ?rb30; case hyb30 => (rintro w' hS; obtain ⟨hs0, hs1, hs2⟩ := hS; go_simp; try with_reducible rfl))
    try simp only [List.getElem_toArray, List.getElem_cons_zero, Act.put, List.setIfInBounds_toArray, List.set_cons_zero, List.set_cons_succ]
    first
      | (refine wpAnyH_take (i := 1) rfl (by kernel_rfl) (by kernel_rfl) (by kernel_rfl) (fun _ _ _ h => h) (Or.inr ⟨by rfl, rfl⟩) (by assumption) ?_)
      | (refine wpAnyH_take (i := 1) (v := ?vb31) rfl (by kernel_rfl) (by kernel_rfl) (by kernel_rfl) (fun _ _ _ h => h) (Or.inl ⟨by rfl, ?hyb31⟩) (by assumption) ?rb31; case hyb31 => (rintro w' hS; obtain ⟨hs0, hs1, hs2⟩ := hS; go_simp; try with_reducible rfl))
    try simp only [List.getElem_toArray, List.getElem_cons_zero, List.getElem_cons_succ, Act.put, List.setIfInBounds_toArray, List.set_cons_zero, List.set_cons_succ]
    first
      | (refine wpAnyH_take (i := 2) rfl (by kernel_rfl) (by kernel_rfl) (by kernel_rfl) (fun _ _ _ h => h) (Or.inr ⟨by rfl, rfl⟩) (by assumption) ?_)
      | (refine wpAnyH_take (i := 2) (v := ?vb32) rfl (by kernel_rfl) (by kernel_rfl) (by kernel_rfl) (fun _ _ _ h => h) (Or.inl ⟨by rfl, ?hyb32⟩) (by assumption) ?rb32; case hyb32 => (rintro w' hS; obtain ⟨hs0, hs1, hs2⟩ := hS; go_simp; try with_reducible rfl))
    try simp only [List.getElem_toArray, List.getElem_cons_zero, List.getElem_cons_succ, Act.put, List.setIfInBounds_toArray, List.set_cons_zero, List.set_cons_succ]
    first
      | (refine wpAnyH_take (i := 3) rfl (by kernel_rfl) (by kernel_rfl) (by kernel_rfl) (fun _ _ _ h => h) (Or.inr ⟨by rfl, rfl⟩) (by assumption) ?_)
      | (refine wpAnyH_take (i := 3) (v := ?vb33) rfl (by kernel_rfl) (by kernel_rfl) (by kernel_rfl) (fun _ _ _ h => h) (Or.inl ⟨by rfl, ?hyb33⟩) (by assumption) ?rb33; case hyb33 => (rintro w' hS; obtain ⟨hs0, hs1, hs2⟩ := hS; go_simp; try with_reducible rfl))
    try simp only [List.getElem_toArray, List.getElem_cons_zero, List.getElem_cons_succ, Act.put, List.setIfInBounds_toArray, List.set_cons_zero, List.set_cons_succ]
    first
      | (refine wpAnyH_take (i := 4) rfl (by kernel_rfl) (by kernel_rfl) (by kernel_rfl) (fun _ _ _ h => h) (Or.inr ⟨by rfl, rfl⟩) (by assumption) ?_)
      | (refine wpAnyH_take (i := 4) (v := ?vb34) rfl (by kernel_rfl) (by kernel_rfl) (by kernel_rfl) (fun _ _ _ h => h) (Or.inl ⟨by rfl, ?hyb34⟩) (by assumption) ?rb34; case hyb34 => (rintro w' hS; obtain ⟨hs0, hs1, hs2⟩ := hS; go_simp; try with_reducible rfl))
    try simp only [List.getElem_toArray, List.getElem_cons_zero, List.getElem_cons_succ, Act.put, List.setIfInBounds_toArray, List.set_cons_zero, List.set_cons_succ]
    first
      | (refine wpAnyH_take (i := 5) rfl (by kernel_rfl) (by kernel_rfl) (by kernel_rfl) (fun _ _ _ h => h) (Or.inr ⟨by rfl, rfl⟩) (by assumption) ?_)
      | (refine wpAnyH_take (i := 5) (v := ?vb35) rfl (by kernel_rfl) (by kernel_rfl) (by kernel_rfl) (fun _ _ _ h => h) (Or.inl ⟨by rfl, ?hyb35⟩) (by assumption) ?rb35; case hyb35 => (rintro w' hS; obtain ⟨hs0, hs1, hs2⟩ := hS; go_simp; try with_reducible rfl))
    try simp only [List.getElem_toArray, List.getElem_cons_zero, List.getElem_cons_succ, Act.put, List.setIfInBounds_toArray, List.set_cons_zero, List.set_cons_succ]
    first
      | (refine wpAnyH_take (i := 6) rfl (by kernel_rfl) (by kernel_rfl) (by kernel_rfl) (fun _ _ _ h => h) (Or.inr ⟨by rfl, rfl⟩) (by assumption) ?_)
      | (refine wpAnyH_take (i := 6) (v := ?vb36) rfl (by kernel_rfl) (by kernel_rfl) (by kernel_rfl) (fun _ _ _ h => h) (Or.inl ⟨by rfl, ?hyb36⟩) (by assumption) ?rb36; case hyb36 => (rintro w' hS; obtain ⟨hs0, hs1, hs2⟩ := hS; go_simp; try with_reducible rfl))
    try simp only [List.getElem_toArray, List.getElem_cons_zero, List.getElem_cons_succ, Act.put, List.setIfInBounds_toArray, List.set_cons_zero, List.set_cons_succ]
    first
      | (refine wpAnyH_take (i := 7) rfl (by kernel_rfl) (by kernel_rfl) (by kernel_rfl) (fun _ _ _ h => h) (Or.inr ⟨by rfl, rfl⟩) (by assumption) ?_)
      | (refine wpAnyH_take (i := 7) (v := ?vb37) rfl (by kernel_rfl) (by kernel_rfl) (by kernel_rfl) (fun _ _ _ h => h) (Or.inl ⟨by rfl, ?hyb37⟩) (by assumption) ?rb37; case hyb37 => (rintro w' hS; obtain ⟨hs0, hs1, hs2⟩ := hS; go_simp; try with_reducible rfl))
    try simp only [List.getElem_toArray, List.getElem_cons_zero, List.getElem_cons_succ, Act.put, List.setIfInBounds_toArray, List.set_cons_zero, List.set_cons_succ]
    first
      | (refine wpAnyH_take (i := 8) rfl (by kernel_rfl) (by kernel_rfl) (by kernel_rfl) (fun _ _ _ h => h) (Or.inr ⟨by rfl, rfl⟩) (by assumption) ?_)
      | (refine wpAnyH_take (i := 8) (v := ?vb38) rfl (by kernel_rfl) (by kernel_rfl) (by kernel_rfl) (fun _ _ _ h => h) (Or.inl ⟨by rfl, ?hyb38⟩) (by assumption) ?rb38; case hyb38 => (rintro w' hS; obtain ⟨hs0, hs1, hs2⟩ := hS; go_simp; try with_reducible rfl))
    try simp only [List.getElem_toArray, List.getElem_cons_zero, List.getElem_cons_succ, Act.put, List.setIfInBounds_toArray, List.set_cons_zero, List.set_cons_succ]
    refine wpAnyH_ready (rs := [9]) (by kernel_rfl) (by simp) ?_
    refine AllReadyH.cons (o := _) rfl (fun K hK => ?_) AllReadyH.nil
    go_simp
    go_at_call 53; (with_reducible refine (HG _ hb).mono ?_); rintro e w4 ⟨rfl, hx⟩; have hb := hb.trans (hx.mono hb.size); clear hx
    try dsimp only
    refine hK.out _ _ (hSb _ hb) (fun hHeld => ?_)
    clear hK K
    try simp only [List.getElem_toArray, List.getElem_cons_zero, List.getElem_cons_succ, Act.put, List.setIfInBounds_toArray, List.set_cons_zero, List.set_cons_succ]
    first
      | (refine wpAnyH_take (i := 10) rfl (by kernel_rfl) (by kernel_rfl) (by kernel_rfl) (fun _ _ _ h => h) (Or.inr ⟨by rfl, rfl⟩) (by assumption) ?_)
      | (refine wpAnyH_take (i := 10) (v := ?vb39) rfl (by kernel_rfl) (by kernel_rfl) (by kernel_rfl) (fun _ _ _ h => h) (Or.inl ⟨by rfl, ?hyb39⟩) (by assumption) ?rb39; case hyb39 => (rintro w' hS; obtain ⟨hs0, hs1, hs2⟩ := hS; go_simp; try with_reducible rfl))
    try simp only [List.getElem_toArray, List.getElem_cons_zero, List.getElem_cons_succ, Act.put, List.setIfInBounds_toArray, List.set_cons_zero, List.set_cons_succ]
    first
      | (refine wpAnyH_take (i := 11) rfl (by kernel_rfl) (by kernel_rfl) (by kernel_rfl) (fun _ _ _ h => h) (Or.inr ⟨by rfl, rfl⟩) (by assumption) ?_)
      | (refine wpAnyH_take (i := 11) (v := ?vb40) rfl (by kernel_rfl) (by kernel_rfl) (by kernel_rfl) (fun _ _ _ h => h) (Or.inl ⟨by rfl, ?hyb40⟩) (by assumption) ?rb40; case hyb40 => (rintro w' hS; obtain ⟨hs0, hs1, hs2⟩ := hS; go_simp; try with_reducible rfl))
    try simp only [List.getElem_toArray, List.getElem_cons_zero, List.getElem_cons_succ, Act.put, List.setIfInBounds_toArray, List.set_cons_zero, List.set_cons_succ]
    first
      | (refine wpAnyH_take (i := 12) rfl (by kernel_rfl) (by kernel_rfl) (by kernel_rfl) (fun _ _ _ h => h) (Or.inr ⟨by rfl, rfl⟩) (by assumption) ?_)
      | (refine wpAnyH_take (i := 12) (v := ?vb41) rfl (by kernel_rfl) (by kernel_rfl) (by kernel_rfl) (fun _ _ _ h => h) (Or.inl ⟨by rfl, ?hyb41⟩) (by assumption) ?rb41; case hyb41 => (rintro w' hS; obtain ⟨hs0, hs1, hs2⟩ := hS; go_simp; try with_reducible rfl))
    try simp only [List.getElem_toArray, List.getElem_cons_zero, List.getElem_cons_succ, Act.put, List.setIfInBounds_toArray, List.set_cons_zero, List.set_cons_succ]
    refine wpAnyH_done (by kernel_rfl) ?_ _
    go_wp2
    go_ret2
    refine ⟨?_, B, rs, ?_⟩
    · first | (rw [hpl.out]; rfl) | (rw [hpl.out])
    · rw [hpl.out]
      exact Step.refl h (b1.trans (hb.mono b1.size))
end Go.Proofs.YtelgaglnmcggkaaGreatDoor

/- What maps.Keys, maps.Values and slices.Values make at the program's types, and that it gives each element once. -/
namespace Go.Proofs.YtelgaglnmcggkaaGreatDoor
open Go.RowKit Go.Shelf Go.WideMaps
set_option linter.unusedVariables false
set_option linter.unusedSimpArgs false
attribute [local go_sem] Oper.semAt_some

/-- What a round over a map has met: each key once; what is left is still to come. -/
structure Came {H α : Type} (lit : α → Lit) (D : DataW H) (left : Lit → Bool) (xs : List α) : Prop where
  nodup : xs.Nodup
  mem : ∀ x, x ∈ xs ↔ Go.Maps.has D (lit x) = true ∧ left (lit x) = false
theorem Came.start {H α : Type} (lit : α → Lit) (D : DataW H) : Came lit D (Go.Maps.has D) [] :=
  ⟨List.nodup_nil, fun x => ⟨fun c => absurd c List.not_mem_nil, fun ⟨a, b⟩ => by rw [a] at b; cases b⟩⟩
theorem Came.step {H α : Type} {lit : α → Lit} {D : DataW H} {left : Lit → Bool} {xs : List α} (h : Came lit D left xs) (hinj : ∀ x y, lit x = lit y → x = y) {y : α} (hk : WideAt.IsKeyLit (lit y)) (hl : left (lit y) = true) (hh : Go.Maps.has D (lit y) = true) :
    Came lit D (fun z => left z && !z.sameKey (lit y)) (xs ++ [y]) := by
  refine ⟨List.nodup_append.2 ⟨h.nodup, by simp, fun a ha b hb => ?_⟩, fun x => ?_⟩
  · rw [List.mem_singleton] at hb
    subst hb
    rintro rfl
    have := ((h.mem a).1 ha).2
    rw [hl] at this
    cases this
  · rw [List.mem_append, h.mem, List.mem_singleton]
    constructor
    · rintro (⟨a, b⟩ | rfl)
      · exact ⟨a, by rw [b]; rfl⟩
      · refine ⟨hh, ?_⟩
        rw [WideAt.sameKey_self hk]
        simp
    · rintro ⟨a, b⟩
      by_cases q : lit x = lit y
      · exact .inr (hinj _ _ q)
      · rw [Go.Maps.sameKey_ne q] at b
        exact .inl ⟨a, by simpa using b⟩
theorem Came.all {H α : Type} {lit : α → Lit} {D : DataW H} {left : Lit → Bool} {xs : List α} (h : Came lit D left xs) (h0 : ∀ kl, left kl = false) : xs.Nodup ∧ ∀ x, x ∈ xs ↔ Go.Maps.has D (lit x) = true :=
  ⟨h.nodup, fun x => by rw [h.mem, h0]; simp⟩

/-- A round under way stays where its map and its own block do. -/
theorem ranges_stay {H : Type} {P : Program} {k : TypeId} {R : Value → Option (DataW H × List MemPlace)} {w w' : World} {b r n : Nat} {D : DataW H} {left : Lit → Bool} {cnt : Nat} (h : w.ranges P k R b r n D left cnt) {G : Nat → Prop} (hs : StaysG G w w') (hb : G b) : w'.ranges P k R b r n D left cnt := by
  obtain ⟨es, clock, since, seen, c0, h1, h2, h3, h4, h5, h6⟩ := h
  exact ⟨es, clock, since, seen, c0, hs.same b _ h1 (.inl hb), h2, h3, h4, hs.same r _ h5 (.inr rfl), h6⟩
theorem ranges_iter {H : Type} {P : Program} {k : TypeId} {R : Value → Option (DataW H × List MemPlace)} {w : World} {b r n : Nat} {D : DataW H} {left : Lit → Bool} {cnt : Nat} (h : w.ranges P k R b r n D left cnt) : ∃ o : Obj, w.heap[r]? = some o ∧ sysObj o = true := by
  obtain ⟨es, clock, since, seen, c0, h1, h2, h3, h4, h5, h6⟩ := h
  exact ⟨_, h5, rfl⟩
theorem stays_cell {G : Nat → Prop} {w w' : World} (h : StaysG G w w') {a : Addr} {v : Value} (hG : G a.block) (hc : w.cell? a = some v) : w'.cell? a = some v := by
  have hl := cell_lt hc
  exact (World.cell?_of_block ((h.same a.block _ (Array.getElem?_eq_getElem hl) (.inl hG)).trans (Array.getElem?_eq_getElem hl).symm)).trans hc

abbrev DF := { d : DotN // FitD d }
abbrev KF := { k : KeyT // fitK k }
def litD (x : DF) : Lit := keyD x.1
def litK (x : KF) : Lit := keyT x.1
theorem litD_inj (x y : DF) (h : litD x = litD y) : x = y := Subtype.ext (keyD_inj x.2 y.2 h)
theorem litK_inj (x y : KF) (h : litK x = litK y) : x = y := Subtype.ext (keyT_inj x.2 y.2 h)
def valDot (x : DotN) : Value := .agg #[.int .i64 x.dev, .int .i64 x.inc, .int .i64 x.seq]
def valKey (x : KeyT) : Value := .agg #[.string (str x.1), .string (str x.2.1), .string (str x.2.2)]
theorem is_dot {key : Value} {kl : Lit} (h : keyOf Tryz.prog 35 key = some kl) : ∃ x : DF, key = valDot x.1 ∧ kl = litD x := by
  obtain ⟨d, i, c, h1, h2, h3, e1, e2⟩ := key_dot_inv h
  exact ⟨⟨⟨d, i, c⟩, ⟨h1, h2, h3⟩⟩, e1, e2⟩
theorem is_key {key : Value} {kl : Lit} (h : keyOf Tryz.prog 39 key = some kl) : ∃ x : KF, key = valKey x.1 ∧ kl = litK x := by
  obtain ⟨a, b, c, h1, h2, h3, e1, e2⟩ := key_key_inv h
  exact ⟨⟨(a, b, c), ⟨h1, h2, h3⟩⟩, e1, e2⟩

/-! What they make. -/
theorem keysMakeE (mv : Option Nat) (w : World) : Calls Tryz.prog 73 #[.map mv] w fun e w' => e = .returned (.func (.func 110) #[] #[.pointer (some ⟨w.heap.size, 0, none⟩)]) ∧ w' = w.alloc (.cells #[.map mv] 86) := by
  go_enter Tryz.func73, Tryz.ntmps73
  go_wp2
  go_ret
  exact ⟨rfl, rfl⟩
theorem keysMakeS (mv : Option Nat) (w : World) : Calls Tryz.prog 61 #[.map mv] w fun e w' => e = .returned (.func (.func 103) #[] #[.pointer (some ⟨w.heap.size, 0, none⟩)]) ∧ w' = w.alloc (.cells #[.map mv] 87) := by
  go_enter Tryz.func61, Tryz.ntmps61
  go_wp2
  go_ret
  exact ⟨rfl, rfl⟩
theorem keysMakeK (mv : Option Nat) (w : World) : Calls Tryz.prog 76 #[.map mv] w fun e w' => e = .returned (.func (.func 112) #[] #[.pointer (some ⟨w.heap.size, 0, none⟩)]) ∧ w' = w.alloc (.cells #[.map mv] 88) := by
  go_enter Tryz.func76, Tryz.ntmps76
  go_wp2
  go_ret
  exact ⟨rfl, rfl⟩
theorem valuesMakeE (mv : Option Nat) (w : World) : Calls Tryz.prog 60 #[.map mv] w fun e w' => e = .returned (.func (.func 102) #[] #[.pointer (some ⟨w.heap.size, 0, none⟩)]) ∧ w' = w.alloc (.cells #[.map mv] 86) := by
  go_enter Tryz.func60, Tryz.ntmps60
  go_wp2
  go_ret
  exact ⟨rfl, rfl⟩
theorem sliceMakeE (a : Option Addr) (n c : Nat) (w : World) : Calls Tryz.prog 84 #[.slice a n c] w fun e w' => e = .returned (.func (.func 123) #[] #[.pointer (some ⟨w.heap.size, 0, none⟩)]) ∧ w' = w.alloc (.cells #[.slice a n c] 28) := by
  go_enter Tryz.func84, Tryz.ntmps84
  go_wp2
  go_ret
  exact ⟨rfl, rfl⟩
theorem sliceMakeD (a : Option Addr) (n c : Nat) (w : World) : Calls Tryz.prog 85 #[.slice a n c] w fun e w' => e = .returned (.func (.func 124) #[] #[.pointer (some ⟨w.heap.size, 0, none⟩)]) ∧ w' = w.alloc (.cells #[.slice a n c] 29) := by
  go_enter Tryz.func85, Tryz.ntmps85
  go_wp2
  go_ret
  exact ⟨rfl, rfl⟩

theorem valDot_inj {a b : DotN} (h : valDot a = valDot b) : a = b := by
  unfold valDot at h
  simp only [Value.agg.injEq, Array.mk.injEq, List.cons.injEq, Value.int.injEq, true_and, and_true] at h
  exact DotN.ext' h.1 h.2.1 h.2.2
theorem valKey_inj {a b : KeyT} (h : valKey a = valKey b) : a = b := by
  unfold valKey at h
  simp only [Value.agg.injEq, Array.mk.injEq, List.cons.injEq, Value.string.injEq, and_true] at h
  exact Prod.ext (str_inj h.1) (Prod.ext (str_inj h.2.1) (str_inj h.2.2))

set_option maxRecDepth 100000 in
set_option maxHeartbeats 2000000 in
/-- The dots of a set. -/
theorem keysEachS (n Bm : Nat) (mv : Option Nat) (D : DataW Unit) (w : World) (hn : 1 ≤ n) (hc : w.cell? ⟨Bm, 0, none⟩ = some (.map mv)) (hm : MapC w 35 unitElem mv D) :
    EachOf Fence.wide n Tryz.prog 103 #[.pointer (some ⟨Bm, 0, none⟩)] (fun x : DF => #[valDot x.1]) (fun k => k = Bm ∨ mv = some k) (fun xs => xs.Nodup ∧ ∀ x ∈ xs, Go.Maps.has D (litD x) = true) (fun xs => xs.Nodup ∧ ∀ x, x ∈ xs ↔ Go.Maps.has D (litD x) = true) w := by
  intro l J W hW hJ hY h0
  have hc' := (hW.cell (p := ⟨Bm, 0, none⟩) (cell_lt hc)).trans hc
  rcases hm with ⟨rfl, rfl⟩ | ⟨b, m, rfl, hown⟩
  · have hrg := run_range_nilMap (P := Tryz.prog) W 87 35 107 Tryz.underlying87
    have hnx : ∀ ty, (Instr.next (.pointer (some ⟨W.heap.size, 0, none⟩)) false ty).run Tryz.prog (W.alloc (.mapIter none 0 #[] 0)) = _ := fun ty => run_next_nilMap _ ty 0 0 #[]
    refine callsIn_of_wp Tryz.func103 rfl trivial ?_ rfl
    simp only [Tryz.ntmps103, List.size_toArray, List.length_cons, List.length_nil, Nat.reduceAdd, Nat.reduceSub, Array.replicate_succ, Array.replicate_zero, List.push_toArray, List.append_toArray, List.nil_append, List.cons_append]
    gi_wp2
    refine wpIn_loop_rounds 1 ?_
    rw [roundsIn_succ]
    gi_wp2
    go_end0
    exact ⟨⟨_, rfl⟩, [], ⟨List.nodup_nil, fun x => ⟨fun c => absurd c List.not_mem_nil, fun c => by cases c⟩⟩, hJ [] W _ (SysStep.alloc _ _ _) h0⟩
  · have hown' : W.ownsMap Tryz.prog 35 unitElem b m D := (Keeps.new (F := fun _ => False) hW).grownBy (fun h => h) hown
    clear hown hc
    have hlB := cell_lt hc'
    refine callsIn_of_wp Tryz.func103 rfl trivial ?_ rfl
    simp only [Tryz.ntmps103, List.size_toArray, List.length_cons, List.length_nil, Nat.reduceAdd, Nat.reduceSub, Array.replicate_succ, Array.replicate_zero, List.push_toArray, List.append_toArray, List.nil_append, List.cons_append]
    gi_wp2_with (first
      | (gi_at_range; refine wpListIn_range_own _ rfl _ 87 rfl 35 107 keyedDot Tryz.underlying87 _ b m _ rfl hown' ?_; intro w0 hrg0 hg0 hs0)
      | gi_in)
    try go_frame
    gi_loopw [3] (fun _ wr => ∃ (left : Lit → Bool) (cnt : Nat) (xs : List DF), wr.ranges Tryz.prog 35 unitElem b W.heap.size m D left cnt ∧ Came litD D left xs ∧ J xs wr)
      (fun _ wr => wr.rangeLeft b W.heap.size)
    case atStart => exact ⟨_, _, [], hrg0, Came.start _ D, hJ [] W w0 (SysStep.grown hg0 (fun r e => by cases e)) h0⟩
    case round =>
      clear hrg0 hg0 hs0 hc'
      obtain ⟨left, cnt, xs, hrg, hC, hJs⟩ := hrel
      gi_wp2_with (first
        | (gi_at_next; refine wpListIn_next_ranges _ rfl _ rfl 35 keyedDot unitElem (fun x : DF => valDot x.1) (fun v : Value => v) (fun key kl hk => by obtain ⟨x, hx, _⟩ := is_dot hk; exact ⟨x, hx⟩) (fun v _ _ => ⟨v, rfl⟩) b W.heap.size m _ _ _ rfl hrg ?_ ?_)
        | gi_in)
      · intro hc0 hl0
        gi_wp2
        go_end0
        exact ⟨⟨_, rfl⟩, xs, hC.all hl0, hJs⟩
      · intro x hx c kl yd yp w2 cnt2 hkey hlk hv hat hrg2 hlt hg2 hs2 hen
        obtain ⟨x', ex, rfl⟩ := is_dot hkey
        have exx : x = x'.1 := valDot_inj ex
        obtain ⟨x', hx'⟩ := x'
        dsimp only at exx
        subst exx
        have hh := Go.Maps.has_true_of_atKey hat
        have hJ2 : J xs w2 := hJ xs wr w2 (SysStep.grown hg2 (fun r e => by cases e; exact ⟨Nat.le_refl _, ranges_iter hrg⟩)) hJs
        have hC2 := hC.step litD_inj (keyedDot.key hkey) hlk hh
        dsimp only at *
        have hbk := below_alloc w2 (.cells #[.int .i64 x.dev, .int .i64 x.inc, .int .i64 x.seq] 35)
        have hrg3 := hrg2.alloc (.cells #[.int .i64 x.dev, .int .i64 x.inc, .int .i64 x.seq] 35)
        have hJ3 := hJ xs w2 _ (SysStep.alloc W.heap.size w2 (.cells #[.int .i64 x.dev, .int .i64 x.inc, .int .i64 x.seq] 35)) hJ2
        obtain ⟨w3, hw3⟩ : ∃ w3, w2.alloc (.cells #[.int .i64 x.dev, .int .i64 x.inc, .int .i64 x.seq] 35) = w3 := ⟨_, rfl⟩
        have o3 := ObjAt.new w2 #[.int .i64 x.dev, .int .i64 x.inc, .int .i64 x.seq] 35
        rw [hw3] at hrg3 hJ3 o3
        have y0 := o3.cell 0 rfl; have y1 := o3.cell 1 rfl; have y2 := o3.cell 2 rfl
        obtain ⟨fn, tmps, assign, body, hy, hR⟩ := hY xs ⟨x, hx⟩ w3 hJ3 ⟨hC2.nodup, fun y hy => ((hC2.mem y).1 hy).1⟩
        dsimp only [valDot] at hy hen
        clear hs2 hkey hv hat hC hrg2 hJ2 hbk hh ex hlk o3
        unfold valDot
        gi_wp2
        refine hR.mono ?_
        rintro e W3 ⟨rfl, hJ4, hk4⟩
        gi_wp2
        have hrg4 := ranges_stay hrg3 hk4 (.inr rfl)
        go_roundw
        case rel => exact ⟨_, cnt2, _, hrg4, hC2, hJ4⟩
        case measure => rw [hrg4.left_eq, hrg.left_eq]; exact hlt

theorem RowOf.stays {α : Type} {enc : α → List Value} {z : Nat} {w w' : World} {a : Option Addr} {n c : Nat} {L : List α} (h : RowOf enc z w a n c L) {G : Nat → Prop} (hs : StaysG G w w') (hG : ∀ k, At a k → G k) : RowOf enc z w' a n c L := by
  refine ⟨h.leq, h.cle, h.capm, h.nil0, fun i x hx => ?_⟩
  obtain ⟨g, off, e, hc⟩ := h.at_ i x hx
  exact ⟨g, off, e, fun j v hv => stays_cell hs (hG g (e ▸ at_some.2 rfl)) (hc j v hv)⟩

end Go.Proofs.YtelgaglnmcggkaaGreatDoor

/- slices.AppendSeq and slices.Collect: whatever a function gives, appended to a slice of the call's own. -/
namespace Go.Proofs.YtelgaglnmcggkaaGreatDoor
open Go.RowKit Go.Shelf
set_option linter.unusedVariables false
set_option linter.unusedSimpArgs false
attribute [local go_sem] Oper.semAt_some

def encKey (k : KeyT) : List Value := [.string (str k.1), .string (str k.2.1), .string (str k.2.2)]
theorem encKey_len (k : KeyT) : (encKey k).length = 3 := rfl
theorem encKey_one (k : KeyT) : ∀ u ∈ encKey k, u.oneCell' = true := by
  have h : (encKey k).all (·.oneCell') = true := rfl
  exact fun u hu => List.all_eq_true.1 h u hu
theorem infoKey : (Tryz.prog.info? 39).map (fun i => (i.zero, i.size, i.bytes)) = some (some (.agg #[.string ⟨#[]⟩, .string ⟨#[]⟩, .string ⟨#[]⟩]), 3, 48) := by kernel_rfl
/-- A row of the call's own lies in cells. -/
theorem own_user {α : Type} {enc : α → List Value} {z base : Nat} {e : TypeId} {a : Option Addr} {n c : Nat} {P : List α} {w : World} (h : OwnZ enc z base e a n c P w) : ∀ k, At a k → k < w.heap.size ∧ ∀ o, w.heap[k]? = some o → sysObj o = false := by
  intro k hk
  rcases h.1.2 with ⟨hv, _⟩ | ⟨g, cap, cur, hv, hb, hg, _⟩
  · cases hv
    exact absurd hk (at_none k)
  · cases hv
    have e1 : g = k := at_some.1 hk
    subst e1
    refine ⟨(Array.getElem?_eq_some_iff.1 hg).1, fun o ho => ?_⟩
    rw [hg] at ho
    cases ho
    rfl
theorem OwnZ.sys {α : Type} {enc : α → List Value} {z base B : Nat} {e : TypeId} {a : Option Addr} {n c : Nat} {P : List α} {w w' : World} (h : OwnZ enc z base e a n c P w) (hs : SysStep B w w') : OwnZ enc z base e a n c P w' :=
  h.keeps hs.keeps fun k hk ⟨_, o, ho, h1⟩ => by
    rw [(own_user h k hk).2 o ho] at h1
    cases h1
theorem ObjAt.sys {B : Nat} {w w' : World} {b : Nat} {vs : List Value} (h : ObjAt w b vs) (hs : SysStep B w w') : ObjAt w' b vs :=
  h.keeps hs.keeps fun ⟨_, o, ho, h1⟩ => by
    rw [h.user o ho] at h1
    cases h1
theorem Keeps.sys {F : Nat → Prop} {B : Nat} {w w1 w2 : World} (h : Keeps F w w1) (hs : SysStep B w1 w2) (hB : w.heap.size ≤ B) : Keeps F w w2 :=
  h.trans hs.keeps fun k hk ⟨h1, _⟩ => by omega

/-- What is appended where: the slice as it is then; which blocks are written. -/
structure AppTo {α : Type} (enc : α → List Value) (z base : Nat) (e : TypeId) (a : Option Addr) (L : List α) (w : World) (q : Option Addr) (n c : Nat) (w' : World) : Prop where
  own : OwnZ enc z base e q n c L w'
  keeps : Keeps (At a) w w'
  near : q = a ∨ ∃ g, q = some ⟨g, 0, none⟩ ∧ w.heap.size ≤ g

set_option maxRecDepth 100000 in
set_option maxHeartbeats 4000000 in
theorem appSeqD (base : Nat) (a : Option Addr) (n c : Nat) (L : List DotN) (gf : Nat) (lb : Array Value) (G : Nat → Prop) (T S : List DF → Prop) (w : World) (hown : OwnZ encD 3 base 35 a n c L w) (hbase : base ≤ w.heap.size)
    (hit : ∀ m, 1 ≤ m → EachOf Fence.wide m Tryz.prog gf lb (fun x : DF => #[valDot x.1]) G T S w) (heg : ∀ args w, (callFunc gf args).run Tryz.prog w = .ok (.enter gf args) w) (hG : ∀ k, G k → k < w.heap.size ∧ ¬ At a k) (hT : ∀ xs, T xs → n + xs.length ≤ 1000000) :
    Calls Tryz.prog 74 #[.slice a n c, .func (.func gf) #[] lb] w fun e w' => ∃ xs q k c', S xs ∧ e = .returned (.slice q k c') ∧ AppTo encD 3 base 35 a (L ++ xs.map (·.1)) w q k c' w' := by
  obtain ⟨i0, hi, hz0, hz1, hz2⟩ := info_parts infoDot
  have oS := ObjAt.new w #[.slice a n c] 29
  have b0 := below_alloc w (.cells #[.slice a n c] 29)
  have hown0 := hown.below b0 (Nat.le_refl _)
  have hal : ∀ k, At a k → k < w.heap.size := fun k hk => (own_user hown k hk).1
  have hs0 : (w.alloc (.cells #[.slice a n c] 29)).heap.size = w.heap.size + 1 := by simp
  have hln := hown.2.1
  obtain ⟨w0, hw0⟩ : ∃ w0, w.alloc (.cells #[.slice a n c] 29) = w0 := ⟨_, rfl⟩
  refine (callsIn_wide (n := 9)).1 ?_
  refine callsIn_of_wp_marks Tryz.func74 rfl trivial ?_ rfl
  simp only [Tryz.ntmps74, List.size_toArray, List.length_cons, List.length_nil, Nat.reduceAdd, Nat.reduceSub, Array.replicate_succ, Array.replicate_zero, List.push_toArray, List.append_toArray, List.nil_append, List.cons_append]
  rw [hw0] at oS b0 hown0 hs0
  gi_wp2
  clear hown hw0
  refine wpIn_forEach (α := DF) rfl (by omega) (gf := gf) (lb := lb) rfl trivial heg (hit 8 (by omega)) b0 (fun _ => rfl)
    (fun pre W => ∃ q c', ObjAt W w.heap.size [.slice q (n + pre.length) c'] ∧ OwnZ encD 3 base 35 q (n + pre.length) c' (L ++ pre.map (·.1)) W ∧ Keeps (At a) w W ∧ (q = a ∨ ∃ g, q = some ⟨g, 0, none⟩ ∧ w.heap.size < g))
    ?hI ⟨a, c, oS, by simpa using hown0, (Keeps.new b0), .inl rfl⟩
    (fun x a' W => ∃ Bx, w.heap.size < Bx ∧ ObjAt W Bx (encD x.1) ∧ a' = { tmps := #[.slice a n c, .func (.func gf) #[] lb, .pointer (some ⟨w.heap.size, 0, none⟩), undef, .slice none 0 0, .pointer (some ⟨Bx, 0, none⟩), .func (.func gf) #[] lb, valDot x.1, undef, undef, undef, undef, undef], defers := [] })
    ?hAx ?hassign ?hbody ?hdone
  case hI =>
    rintro pre X Y hs ⟨q, c', h1, h2, h3, h4⟩
    exact ⟨q, c', h1.sys hs, h2.sys hs, h3.sys hs (by omega), h4⟩
  case hAx =>
    rintro x a' X Y hs ⟨Bx, h1, h2, h3⟩
    exact ⟨Bx, h1, h2.sys hs, h3⟩
  case hassign =>
    rintro l pre ⟨x, hx⟩ W hW hI
    dsimp only [valDot]
    gi_wp2
    obtain ⟨q, c', h1, h2, h3, h4⟩ := hI
    have hb := below_alloc W (.cells #[.int .i64 x.dev, .int .i64 x.inc, .int .i64 x.seq] 35)
    exact ⟨StaysG.ofBelow hb, ⟨q, c', h1.below hb h1.lt, h2.below hb (Nat.le_refl _), h3.trans (Keeps.new (F := At a) hb) (fun _ _ h => h), h4⟩, W.heap.size, by omega, ObjAt.new W #[.int .i64 x.dev, .int .i64 x.inc, .int .i64 x.seq] 35, rfl⟩
  case hbody =>
    rintro l pre ⟨x, hx⟩ a' W hTp ⟨q, c', h1, h2, h3, h4⟩ ⟨Bx, hBx, oX, rfl⟩
    dsimp only [valDot, encD] at *
    have hlen := hT _ hTp
    rw [List.length_append, List.length_singleton] at hlen
    have cS := h1.cell 0 rfl
    have y0 := oX.cell 0 rfl; have y1 := oX.cell 1 rfl; have y2 := oX.cell 2 rfl
    have hWs := h3.size
    have hqS : ¬ At q w.heap.size := by
      rcases h4 with rfl | ⟨g, rfl, hg⟩
      · exact fun hc => absurd (hal _ hc) (Nat.lt_irrefl _)
      · exact fun hc => absurd (at_some.1 hc) (Nat.ne_of_gt hg)
    gi_wp2_with (gi_at_builtin; refine wpListIn_by (letsAll_round l) rfl (by intro c h; cases h) fun K hK => ?_; refine wp_append_row1 (enc := encD) encD_len (by decide) encD_one (.tmp 8) (.tmp 10) 29 rfl 35 i0 (.agg #[.int .i64 0, .int .i64 0, .int .i64 0]) 24 Tryz.underlying29 hi hz0 hz1 hz2 rfl h2 rfl x rfl rfl (n + pre.length + 1) rfl (by unfold maxLen; omega) (by omega) (by omega) ?_; intro q7 c7 w7 hz7 hx7 hg7 hn7; refine hK _ _ ?_; have f7 := h1.keeps (Keeps.ofGrown hx7 hg7) hqS; have g7 := f7.cell 0 rfl; have z7 := f7.free 0)
    have k7 := Keeps.ofGrown hx7 hg7
    have f8 := f7.set 0 (.slice q7 (n + pre.length + 1) c7)
    have hq7 : q7 = a ∨ ∃ g, q7 = some ⟨g, 0, none⟩ ∧ w.heap.size < g := by
      rcases hn7 with rfl | ⟨g, rfl, hg⟩
      · exact h4
      · exact .inr ⟨g, rfl, by have := h1.lt; omega⟩
    have hq7S : ¬ At q7 w.heap.size := by
      rcases hq7 with rfl | ⟨g, rfl, hg⟩
      · exact fun hc => absurd (hal _ hc) (Nat.lt_irrefl _)
      · exact fun hc => absurd (at_some.1 hc) (Nat.ne_of_gt hg)
    have kw : Keeps (fun k => At q k ∨ k = w.heap.size) W (w7.setCell ⟨w.heap.size, 0, none⟩ (.slice q7 (n + pre.length + 1) c7)) := (k7.mono (fun k _ h => .inl h)).setCell (.inr rfl) _
    refine ⟨StaysG.ofKeeps kw (fun k o hk ho => ?_) (fun k hk hc => ?_), q7, c7, ?_, ?_, ?_, hq7⟩
    · rcases hk with hk | rfl
      · exact (own_user h2 k hk).2 o ho
      · exact h1.user o ho
    · obtain ⟨g1, g2⟩ := hG k hk
      rcases hc with hc | rfl
      · rcases h4 with rfl | ⟨g, rfl, hg⟩
        · exact g2 hc
        · have := at_some.1 hc
          dsimp only at this
          omega
      · omega
    · exact f8
    · simpa [Nat.add_assoc] using hz7.setCell (p := ⟨w.heap.size, 0, none⟩) (apart_iff.2 hq7S) (.slice q7 (n + pre.length + 1) c7)
    · refine h3.trans kw fun k hk hc => ?_
      rcases hc with hc | rfl
      · rcases h4 with rfl | ⟨g, rfl, hg⟩
        · exact hc
        · have := at_some.1 hc
          dsimp only at this
          omega
      · omega
  case hdone =>
    rintro D xs W hD hS ⟨q, c', h1, h2, h3, h4⟩ hK
    have cS := h1.cell 0 rfl
    gi_wp2
    refine ⟨by simp, .inl ⟨_, _, rfl, run_takeDeferred hK, ?_⟩⟩
    have hsp : SysStep w0.heap.size W (W.putObj D (.deferred none)) := SysStep.put hD hK rfl _
    refine ⟨_, results_tmp rfl _ _ _, xs, q, _, c', hS, rfl, h2.sys hsp, h3.sys hsp (by omega), h4.imp id fun ⟨g, e, hg⟩ => ⟨g, e, Nat.le_of_lt hg⟩⟩

end Go.Proofs.YtelgaglnmcggkaaGreatDoor

/- The kept events of dots, each a clone, by the dots' order. -/
namespace Go.Proofs.YtelgaglnmcggkaaGreatDoor
open Go.RowKit
set_option linter.unusedVariables false
set_option linter.unusedSimpArgs false

/-- Events that a call gives, all in new memory. -/
def GivesN (L : List EventN) (w : World) (en : Ending) (w' : World) : Prop :=
  ∃ a n c P, en = .returned (.slice a n c) ∧ P.map (·.e) = L ∧ OwnZ encE 19 w.heap.size 43 a n c P w' ∧ OversAt w' P ∧ (∀ r ∈ P, ∀ k, At (overA r) k → w.heap.size ≤ k) ∧ Below w.heap.size w w'
/-- Those events of K whose dots are these. -/
theorem nodup_most1 {α : Type} : ∀ {l m : List α}, l.Nodup → (∀ x ∈ l, x ∈ m) → l.length ≤ m.length := by
  classical
  exact fun {l m} h hs => by
    letI : BEq α := instBEqOfDecidableEq
    exact nodup_most h hs
theorem sort_len0 (l : List DotN) : (sortD l).length ≤ l.length := nodup_most1 (sortedD_nodup (sortD_sorted l)) fun x hx => (sortD_mem l x).1 hx
theorem gather_is {rs : List EvR} (hs : SortedE (rs.map (·.e))) : ∀ {K : List EventN}, (∀ e ∈ K, e ∈ rs.map (·.e)) → (K.map (·.dot)).filterMap (fun d => (lookR rs d).map (·.e)) = K
  | [], _ => rfl
  | e :: t, h => by
    obtain ⟨r, hr, he⟩ := List.mem_map.1 (h e List.mem_cons_self)
    have h1 := lookR_mem hs hr
    rw [List.map_cons, List.filterMap_cons, show e.dot = r.e.dot from by rw [← he], h1, gather_is hs fun x hx => h x (List.mem_cons_of_mem _ hx)]
    show r.e :: t = e :: t
    rw [show r.e = e from he]

set_option maxRecDepth 100000 in
set_option maxHeartbeats 4000000 in
theorem gatherI {w : World} {p : Nat} {B : Slots} {rs : List EvR} {m : MapN} (h : Real w p B rs m) (a : Option Addr) (n c : Nat) (L : List DotN) (hL : RowOf encD 3 w a n c L) (hF : ∀ x ∈ L, FitD x) (hin : ∀ x ∈ L, ∃ r ∈ rs, r.e.dot = x) (hn : n ≤ 100000) :
    Calls Tryz.prog 68 #[.pointer (some ⟨p, 0, none⟩), .slice a n c] w (GivesN ((sortD L).filterMap fun d => (lookR rs d).map (·.e)) w) := by
  obtain ⟨i0, hi, hz0, hz1, hz2⟩ := info_parts infoEvent
  have HS := dotSortC0 a n c L w hL hF hn
  have hlen : (sortD L).length ≤ n := by
    have := sort_len0 L
    have := hL.leq
    omega
  have hin2 : ∀ x ∈ sortD L, FitD x ∧ ∃ r ∈ rs, r.e.dot = x := fun x hx => ⟨hF x ((sortD_mem L x).1 hx), hin x ((sortD_mem L x).1 hx)⟩
  have hown := h.own_lt
  have hovl := h.over_lt
  generalize sortD L = Q at *
  clear hL hF hin
  go_enter Tryz.func68, Tryz.ntmps68
  go_wp2_with (go_at_call 80; (with_reducible refine HS.mono ?_); rintro e w1 ⟨a1, c1, rfl, hz1', hx1⟩)
  have hh1 := h.below hx1
  have hq1 := hz1'.2.1
  have hq2 := hz1'.2.2.1
  have hq3 := hz1'.2.2.2
  unfold maxLen at hq3
  generalize hQn : Q.length = n1 at *
  go_loopw [5, 11] (fun s i wr => ∃ (k c0 : Nat) (a0 : Option Addr) (P : List EvR), k ≤ n1 ∧ i = .int .i64 (k : Int) ∧ s = .slice a0 k c0 ∧ OwnZ encE 19 w.heap.size 43 a0 k c0 P wr ∧ OversAt wr P ∧ Hid (P.map (·.e) = (Q.take k).filterMap fun d => (lookR rs d).map (·.e)) ∧ (∀ r ∈ P, ∀ j, At (overA r) j → w.heap.size ≤ j ∧ ¬ At a0 j) ∧ Below w.heap.size w wr ∧ OwnZ encD 3 w.heap.size 35 a1 n1 c1 Q wr ∧ ∀ j, At a0 j → ¬ At a1 j) (fun _ i _ => n1 - (intOf i).toNat)
  case atStart => exact ⟨0, 0, none, [], Nat.zero_le _, rfl, rfl, OwnZ.none _ _ _ _ _, OversAt.nil _, rfl, fun r hr => absurd hr List.not_mem_nil, hx1, hz1', fun j hj => absurd hj (at_none j)⟩
  case round =>
    clear hz1' hx1 hh1 HS
    obtain ⟨k, c0, a0, P, hk, rfl, rfl, hz, hov, hPe, hno, hb, hzd, hoff⟩ := hrel
    by_cases hlt : k < n1
    · have hlt' : (k : Int) < (n1 : Int) := by omega
      obtain ⟨x, g, off, hxk, rfl, u0, u1, u2⟩ := dot_at (hzd.row encD_len) k hlt
      obtain ⟨hxf, r, hr, hrd⟩ := hin2 x (List.mem_of_getElem? hxk)
      have hlk : lookR rs x = some r := hrd ▸ lookR_mem h.sorted hr
      have hl : lightE r.e = true := h.light r.e (h.rs ▸ List.mem_map.2 ⟨r, hr, rfl⟩)
      have hRw := h.below hb
      obtain ⟨A, hA⟩ : ∃ A, (encE r).toArray = A := ⟨_, rfl⟩
      have hLK : ∀ w', KeptIs w' (B .kept) rs → (Instr.lookup 86 (.map (B .kept)) (.agg #[.int .i64 x.dev, .int .i64 x.inc, .int .i64 x.seq]) false).run Tryz.prog w' = .ok (.agg A) w' := fun w' hk' => by
        have := (kept_look hk' hxf).1
        rw [hlk] at this
        rw [← hA]
        exact this
      have hau := own_user hz
      have hah : ∀ j, At a0 j → w.heap.size ≤ j := fun j hj => by
        rcases hz.head with ⟨e, -⟩ | ⟨g, e, hg, -⟩
        · rw [e] at hj
          exact absurd hj (at_none j)
        · rw [e] at hj
          have := at_some.1 hj
          dsimp only at this
          omega
      obtain ⟨bd, hbd⟩ : ∃ bd, wr.heap.size = bd := ⟨_, rfl⟩
      have od := ObjAt.new wr #[.int .i64 x.dev, .int .i64 x.inc, .int .i64 x.seq] 35
      have bw := below_alloc wr (.cells #[.int .i64 x.dev, .int .i64 x.inc, .int .i64 x.seq] 35)
      rw [hbd] at od
      have hRd := hRw.below bw
      have hz' := hz.below bw (Nat.le_refl _)
      have hov' := hov.below bw
      have hzd' := hzd.below bw (Nat.le_refl _)
      have hbw := hb.trans (bw.mono hb.size)
      have hws := hb.size
      have hap : ∀ j, OwnB p B j → ¬ At a0 j := fun j hj hc => by have := hown j hj; have := hah j hc; omega
      have hao : ∀ j, OverB rs j → ¬ At a0 j := fun j hj hc => by have := hovl j hj; have := hah j hc; omega
      have had : ¬ At a0 bd := fun hc => by have := (hau bd hc).1; omega
      have hstep : (Q.take (k + 1)).filterMap (fun d => (lookR rs d).map (·.e)) = (Q.take k).filterMap (fun d => (lookR rs d).map (·.e)) ++ [r.e] := by
        rw [take_snocI hxk, List.filterMap_append]
        simp [hlk]
      have HST := Lib.hid hstep
      have hzr := own_user hzd
      clear hstep hz hov hzd hb hRw hlk hrd
      generalize hwd : wr.alloc (.cells #[.int .i64 x.dev, .int .i64 x.inc, .int .i64 x.seq] 35) = wd at *
      have hz := hz'
      have ld := od.lt
      have HC := fun v (hv : Below wd.heap.size wd v) => cloneR r A hA v ((hRd.over r hr).below hv) hl
      have hSd : ∀ v, Below wd.heap.size wd v → v.cell? ⟨p, 1, none⟩ = some (.map (B .kept)) ∧ v.cell? ⟨bd, 0, none⟩ = some (.int .i64 x.dev) ∧ v.cell? ⟨bd, 1, none⟩ = some (.int .i64 x.inc) ∧ v.cell? ⟨bd, 2, none⟩ = some (.int .i64 x.seq) ∧ KeptIs v (B .kept) rs := fun v hv => ⟨(hRd.below hv).obj.cell 1 rfl, (od.below hv ld).cell 0 rfl, (od.below hv ld).cell 1 rfl, (od.below hv ld).cell 2 rfl, (hRd.below hv).kept⟩
      have hb5 : Below wd.heap.size wd wd.drew := (Below.refl _ _).drew
      go_wp2_with fail
      refine wp_region_held_drew (S := fun w' => w'.cell? ⟨p, 1, none⟩ = some (.map (B .kept)) ∧ w'.cell? ⟨bd, 0, none⟩ = some (.int .i64 x.dev) ∧ w'.cell? ⟨bd, 1, none⟩ = some (.int .i64 x.inc) ∧ w'.cell? ⟨bd, 2, none⟩ = some (.int .i64 x.seq) ∧ KeptIs w' (B .kept) rs) (by kernel_rfl) (hSd _ hb5) (fun hHeld => ?_)
      first
        | (refine wpAnyH_take (i := 0) rfl (by kernel_rfl) (by kernel_rfl) (by kernel_rfl) (fun _ _ _ h => h) (Or.inr ⟨by rfl, rfl⟩) (by assumption) ?_)
        | (refine wpAnyH_take (i := 0) (v := ?vb1) rfl (by kernel_rfl) (by kernel_rfl) (by kernel_rfl) (fun _ _ _ h => h) (Or.inl ⟨by rfl, ?hyb1⟩) (by assumption) ?rb1; case hyb1 => (rintro w' hS; obtain ⟨hs0, hs1, hs2, hs3, hs4⟩ := hS; go_simp; try with_reducible rfl))
      try simp only [List.getElem_toArray, List.getElem_cons_zero, Act.put, List.setIfInBounds_toArray, List.set_cons_zero, List.set_cons_succ]
      first
        | (refine wpAnyH_take (i := 1) rfl (by kernel_rfl) (by kernel_rfl) (by kernel_rfl) (fun _ _ _ h => h) (Or.inr ⟨by rfl, rfl⟩) (by assumption) ?_)
        | (refine wpAnyH_take (i := 1) (v := ?vb2) rfl (by kernel_rfl) (by kernel_rfl) (by kernel_rfl) (fun _ _ _ h => h) (Or.inl ⟨by rfl, ?hyb2⟩) (by assumption) ?rb2; case hyb2 => (rintro w' hS; obtain ⟨hs0, hs1, hs2, hs3, hs4⟩ := hS; go_simp; try with_reducible rfl))
      try simp only [List.getElem_toArray, List.getElem_cons_zero, List.getElem_cons_succ, Act.put, List.setIfInBounds_toArray, List.set_cons_zero, List.set_cons_succ]
      first
        | (refine wpAnyH_take (i := 2) rfl (by kernel_rfl) (by kernel_rfl) (by kernel_rfl) (fun _ _ _ h => h) (Or.inr ⟨by rfl, rfl⟩) (by assumption) ?_)
        | (refine wpAnyH_take (i := 2) (v := ?vb3) rfl (by kernel_rfl) (by kernel_rfl) (by kernel_rfl) (fun _ _ _ h => h) (Or.inl ⟨by rfl, ?hyb3⟩) (by assumption) ?rb3; case hyb3 => (rintro w' hS; obtain ⟨hs0, hs1, hs2, hs3, hs4⟩ := hS; go_simp; try with_reducible rfl))
      try simp only [List.getElem_toArray, List.getElem_cons_zero, List.getElem_cons_succ, Act.put, List.setIfInBounds_toArray, List.set_cons_zero, List.set_cons_succ]
      first
        | (refine wpAnyH_take (i := 3) rfl (by kernel_rfl) (by kernel_rfl) (by kernel_rfl) (fun _ _ _ h => h) (Or.inr ⟨by rfl, rfl⟩) (by assumption) ?_)
        | (refine wpAnyH_take (i := 3) (v := ?vb4) rfl (by kernel_rfl) (by kernel_rfl) (by kernel_rfl) (fun _ _ _ h => h) (Or.inl ⟨by rfl, ?hyb4⟩) (by assumption) ?rb4; case hyb4 => (rintro w' hS; obtain ⟨hs0, hs1, hs2, hs3, hs4⟩ := hS; go_simp; try with_reducible rfl))
      try simp only [List.getElem_toArray, List.getElem_cons_zero, List.getElem_cons_succ, Act.put, List.setIfInBounds_toArray, List.set_cons_zero, List.set_cons_succ]
      first
        | (refine wpAnyH_take (i := 4) rfl (by kernel_rfl) (by kernel_rfl) (by kernel_rfl) (fun _ _ _ h => h) (Or.inr ⟨by rfl, rfl⟩) (by assumption) ?_)
        | (refine wpAnyH_take (i := 4) (v := ?vb5) rfl (by kernel_rfl) (by kernel_rfl) (by kernel_rfl) (fun _ _ _ h => h) (Or.inl ⟨by rfl, ?hyb5⟩) (by assumption) ?rb5; case hyb5 => (rintro w' hS; obtain ⟨hs0, hs1, hs2, hs3, hs4⟩ := hS; go_simp; try with_reducible rfl))
      try simp only [List.getElem_toArray, List.getElem_cons_zero, List.getElem_cons_succ, Act.put, List.setIfInBounds_toArray, List.set_cons_zero, List.set_cons_succ]
      first
        | (refine wpAnyH_take (i := 5) rfl (by kernel_rfl) (by kernel_rfl) (by kernel_rfl) (fun _ _ _ h => h) (Or.inr ⟨by rfl, rfl⟩) (by assumption) ?_)
        | (refine wpAnyH_take (i := 5) (v := ?vb6) rfl (by kernel_rfl) (by kernel_rfl) (by kernel_rfl) (fun _ _ _ h => h) (Or.inl ⟨by rfl, ?hyb6⟩) (by assumption) ?rb6; case hyb6 => (rintro w' hS; obtain ⟨hs0, hs1, hs2, hs3, hs4⟩ := hS; go_simp; try with_reducible rfl))
      try simp only [List.getElem_toArray, List.getElem_cons_zero, List.getElem_cons_succ, Act.put, List.setIfInBounds_toArray, List.set_cons_zero, List.set_cons_succ]
      refine wpAnyH_take (i := 6) (v := .agg A) rfl (by kernel_rfl) (by kernel_rfl) (by kernel_rfl) (fun _ _ _ h => h) (Or.inl ⟨by rfl, fun w' hS => by obtain ⟨hs0, hs1, hs2, hs3, hs4⟩ := hS; exact exec_look (.tmp 19) (.tmp 20) 86 false rfl _ rfl _ rfl (hLK w' hs4)⟩) (by assumption) ?_
      try simp only [List.getElem_toArray, List.getElem_cons_zero, List.getElem_cons_succ, Act.put, List.setIfInBounds_toArray, List.set_cons_zero, List.set_cons_succ]
      refine wpAnyH_ready (rs := [7]) (by kernel_rfl) (by simp) ?_
      refine AllReadyH.cons (o := _) rfl (fun K hK => ?_) AllReadyH.nil
      go_simp
      go_at_call 98; (with_reducible refine (HC _ hb5).mono ?_); rintro e w6 ⟨q, hqe, rfl, hqo, hqn, hx6⟩; have hb6 := hb5.trans (hx6.mono hb5.size); obtain ⟨A2, hA2⟩ : ∃ A2, (encE q).toArray = A2 := ⟨_, rfl⟩; rw [hA2]; have zA2 : A2.size = 19 := (by rw [← hA2]; rfl); have lA2 : A2.toList = encE q := (by rw [← hA2]); have hfold : Array.foldl (fun cs x => cs.setIfInBounds x.snd x.fst) (#[.int .i64 0, .int .i64 0, .int .i64 0, .int .i64 0, .int .i64 0, .int .i64 0, .int .i64 0, .string ⟨#[]⟩, .string ⟨#[]⟩, .string ⟨#[]⟩, .string ⟨#[]⟩, .bool false, .bool false, .bool false, .bool false, .int .i64 0, .int .i64 0, .int .i64 0, .slice none 0 0] : Array Value) A2.zipIdx 0 19 = A2 := foldSet A2 _ 19 zA2 rfl; have hz6 := hz.below hb6 (Nat.le_refl _); have ha6 := below_alloc w6 (.cells A2 43); have hb7 := hb6.trans (ha6.mono hb6.size)
      try dsimp only
      refine hK.out _ _ (hSd _ hb6) (fun hHeld => ?_)
      clear hK K
      try simp only [List.getElem_toArray, List.getElem_cons_zero, List.getElem_cons_succ, Act.put, List.setIfInBounds_toArray, List.set_cons_zero, List.set_cons_succ]
      refine wpAnyH_ready (rs := [8]) (by kernel_rfl) (by simp) ?_
      refine AllReadyH.cons (o := _) rfl (fun K hK => ?_) AllReadyH.nil
      go_simp
      skip
      try dsimp only
      refine hK.out _ _ (hSd _ hb7) (fun hHeld => ?_)
      clear hK K
      try simp only [List.getElem_toArray, List.getElem_cons_zero, List.getElem_cons_succ, Act.put, List.setIfInBounds_toArray, List.set_cons_zero, List.set_cons_succ]
      refine wpAnyH_ready (rs := [9]) (by kernel_rfl) (by simp) ?_
      refine AllReadyH.cons (o := _) rfl (fun K hK => ?_) AllReadyH.nil
      refine step_append_row1 encE_len (by decide) encE_one (by rfl) (.tmp 15) (.tmp 23) 28 (by rfl) 43 i0 (.agg #[.int .i64 0, .int .i64 0, .int .i64 0, .int .i64 0, .int .i64 0, .int .i64 0, .int .i64 0, .string ⟨#[]⟩, .string ⟨#[]⟩, .string ⟨#[]⟩, .string ⟨#[]⟩, .bool false, .bool false, .bool false, .bool false, .int .i64 0, .int .i64 0, .int .i64 0, .slice none 0 0]) 176 Tryz.underlying28 hi hz0 hz1 hz2 rfl hz6 rfl q lA2 rfl (k + 1) rfl (by unfold maxLen; omega) (by omega) (by have := hb6.size; omega) ?_; intro a8 c8 w8 hz8 hx8 hg8 hn8; have k8 := Keeps.ofGrown hx8 hg8; have o8 := (od.below hb6 ld).keeps k8 had; have r8 := (hRd.below hb6).keeps k8 (fun c => hap _ (.inl rfl) c) (fun i b e c => hap _ (.inr ⟨i, e⟩) c) (fun r hr k hk c => hao _ ⟨r, hr, hk⟩ c)
      try dsimp only
      refine hK.out _ _ (⟨r8.obj.cell 1 rfl, o8.cell 0 rfl, o8.cell 1 rfl, o8.cell 2 rfl, r8.kept⟩) (fun hHeld => ?_)
      clear hK K
      try simp only [List.getElem_toArray, List.getElem_cons_zero, List.getElem_cons_succ, Act.put, List.setIfInBounds_toArray, List.set_cons_zero, List.set_cons_succ]
      first
        | (refine wpAnyH_take (i := 10) rfl (by kernel_rfl) (by kernel_rfl) (by kernel_rfl) (fun _ _ _ h => h) (Or.inr ⟨by rfl, rfl⟩) (by assumption) ?_)
        | (refine wpAnyH_take (i := 10) (v := ?vb7) rfl (by kernel_rfl) (by kernel_rfl) (by kernel_rfl) (fun _ _ _ h => h) (Or.inl ⟨by rfl, ?hyb7⟩) (by assumption) ?rb7; case hyb7 => (rintro w' hS; obtain ⟨hs0, hs1, hs2, hs3, hs4⟩ := hS; go_simp; try with_reducible rfl))
      try simp only [List.getElem_toArray, List.getElem_cons_zero, List.getElem_cons_succ, Act.put, List.setIfInBounds_toArray, List.set_cons_zero, List.set_cons_succ]
      refine wpAnyH_done (by kernel_rfl) ?_ _
      go_wp2
      go_roundw
      case rel =>
        have hb6s := hb6.size
        have hbf : Below w.heap.size w w8 := (hbw.trans (hb6.mono hbw.size)).trans hx8
        have hov6 : OversAt w6 P := hov'.below hb6
        have hqw : ∀ j, At (overA q) j → wd.heap.size ≤ j := fun j hj => hqn j (over_at hj)
        have hwds : bd < wd.heap.size := ld
        have hov8 : OversAt w8 (P ++ [q]) := by
          intro y hy
          rcases List.mem_append.1 hy with hy | hy
          · exact over_keeps (hov6 y hy) k8 fun j hj hc => (hno y hy j hj).2 hc
          · rw [List.mem_singleton.1 hy]
            exact over_keeps hqo k8 fun j hj hc => by have := hqw j hj; have := (hau j hc).1; omega
        have hall : ∀ y ∈ P ++ [q], ∀ j, At (overA y) j → w.heap.size ≤ j ∧ j < w6.heap.size ∧ ¬ At a0 j := by
          intro y hy j hj
          rcases List.mem_append.1 hy with hy | hy
          · exact ⟨(hno y hy j hj).1, overA_lt (hov6 y hy) j hj, (hno y hy j hj).2⟩
          · rw [List.mem_singleton.1 hy] at hj
            have h1 := hqw j hj
            exact ⟨by omega, overA_lt hqo j hj, fun hc => by have := (hau j hc).1; omega⟩
        refine ⟨k + 1, c8, a8, P ++ [q], by omega, by go_num, rfl, hz8, hov8, ?_, fun y hy j hj => ?_, hbf, (hzd'.below hb6 (Nat.le_refl _)).keeps k8 (fun j hj hc => hoff j hc hj), fun j hj => ?_⟩
        · unfold Hid
          rw [HST.out, List.map_append, hPe.out, ← hqe]
          rfl
        · obtain ⟨h1, h2, h3⟩ := hall y hy j hj
          refine ⟨h1, ?_⟩
          rcases hn8 with rfl | ⟨g8, rfl, hg9⟩
          · exact h3
          · intro hc
            have := at_some.1 hc
            dsimp only at this
            omega
        · rcases hn8 with rfl | ⟨g8, rfl, hg9⟩
          · exact hoff j hj
          · intro hc
            have := at_some.1 hj
            dsimp only at this
            have := (hzr j hc).1
            omega
      case measure => simp [intOf]; omega
    · obtain rfl : n1 = k := by omega
      go_wp2
      go_ret
      refine ⟨a0, n1, c0, P, rfl, ?_, hz, hov, fun r hr j hj => (hno r hr j hj).1, hb⟩
      rw [hPe.out, List.take_of_length_le (Nat.le_of_eq hQn)]
end Go.Proofs.YtelgaglnmcggkaaGreatDoor

/- The kept events, the dead dots, the alive Puts of a key. -/
namespace Go.Proofs.YtelgaglnmcggkaaGreatDoor
open Go.RowKit Go.Shelf
set_option linter.unusedVariables false
set_option linter.unusedSimpArgs false

end Go.Proofs.YtelgaglnmcggkaaGreatDoor
