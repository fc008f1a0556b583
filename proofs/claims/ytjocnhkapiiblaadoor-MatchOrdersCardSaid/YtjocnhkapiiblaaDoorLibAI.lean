/- Contracts and plain words that the laws' proofs stand on, put together. -/
import Derived.Test.YtjocnhkapiiblaaDoorLibAH
import Derived.Test.YtjocnhkapiiblaaDoorStab
/- The order of items in plain words. No program in it. -/
namespace Go.Proofs.YtjocnhkapiiblaaDoor
set_option linter.unusedVariables false

theorem less_irrefl : ∀ a : List UInt8, Op.bytesLess a a = false
  | [] => rfl
  | x :: l => by
    rw [Op.bytesLess, less_irrefl l, Bool.and_false, Bool.or_false]
    exact decide_eq_false (UInt8.lt_irrefl x)
theorem less_total : ∀ {a b : List UInt8}, a ≠ b → Op.bytesLess a b = !Op.bytesLess b a
  | [], [], h => absurd rfl h
  | [], _ :: _, _ => rfl
  | _ :: _, [], _ => rfl
  | x :: l, y :: m, h => by
    rw [Op.bytesLess, Op.bytesLess]
    by_cases e : x = y
    · subst e
      have h2 : l ≠ m := fun c => h (by rw [c])
      rw [less_total h2, beq_self_eq_true, decide_eq_false (UInt8.lt_irrefl x)]
      simp
    · rw [beq_eq_false_iff_ne.2 e, beq_eq_false_iff_ne.2 (Ne.symm e), Bool.false_and, Bool.false_and, Bool.or_false, Bool.or_false]
      have h1 : x.toNat ≠ y.toNat := fun c => e (UInt8.toNat.inj c)
      by_cases c : x < y
      · have c2 : ¬ y < x := by rw [UInt8.lt_iff_toNat_lt] at c ⊢; omega
        rw [decide_eq_true c, decide_eq_false c2]
        rfl
      · have c2 : y < x := by rw [UInt8.lt_iff_toNat_lt] at c ⊢; omega
        rw [decide_eq_false c, decide_eq_true c2]
        rfl
theorem less_trans : ∀ {a b c : List UInt8}, Op.bytesLess a b = true → Op.bytesLess b c = true → Op.bytesLess a c = true
  | _, [], _, h, _ => by cases h' : ‹List UInt8› <;> simp [Op.bytesLess] at h
  | _, _ :: _, [], _, h => by simp [Op.bytesLess] at h
  | [], _ :: _, _ :: _, _, _ => rfl
  | x :: l, y :: m, z :: n, h1, h2 => by
    rw [Op.bytesLess, Bool.or_eq_true, Bool.and_eq_true, decide_eq_true_iff, beq_iff_eq] at h1 h2 ⊢
    rw [UInt8.lt_iff_toNat_lt] at *
    rcases h1 with h1 | ⟨rfl, h1⟩ <;> rcases h2 with h2 | ⟨rfl, h2⟩
    · exact .inl (by omega)
    · exact .inl h1
    · exact .inl h2
    · exact .inr ⟨rfl, less_trans h1 h2⟩

/-- Is a key ahead of another one? -/
def keyLess (a b : ItemL) : Bool :=
  if a.name ≠ b.name then Op.bytesLess a.name b.name else if a.dom ≠ b.dom then Op.bytesLess a.dom b.dom else Op.bytesLess a.path b.path
def sameKey (a b : ItemL) : Bool := a.name == b.name && (a.dom == b.dom && a.path == b.path)
/-- Is an item ahead of another one? -/
def ahead (a b : ItemL) : Bool :=
  if a.path.length ≠ b.path.length then decide (b.path.length < a.path.length) else if a.made ≠ b.made then decide (a.made < b.made) else keyLess a b

theorem key_self {a b : ItemL} (h : sameKey a b = true) : keyLess a b = false ∧ a.name = b.name ∧ a.dom = b.dom ∧ a.path = b.path := by
  unfold sameKey at h
  rw [Bool.and_eq_true, Bool.and_eq_true, beq_iff_eq, beq_iff_eq, beq_iff_eq] at h
  obtain ⟨h1, h2, h3⟩ := h
  unfold keyLess
  rw [h1, h2, h3]
  simp [less_irrefl]
theorem key_total {a b : ItemL} (h : sameKey a b = false) : keyLess a b = !keyLess b a := by
  unfold keyLess
  by_cases h1 : a.name = b.name
  · by_cases h2 : a.dom = b.dom
    · have h3 : a.path ≠ b.path := fun c => by unfold sameKey at h; rw [h1, h2, c] at h; simp at h
      rw [h1, h2]
      simp [less_total h3]
    · rw [h1]
      simp [h2, Ne.symm h2, less_total h2]
  · simp [h1, Ne.symm h1, less_total h1]
theorem key_trans {a b c : ItemL} (h1 : keyLess a b = true) (h2 : keyLess b c = true) : keyLess a c = true := by
  unfold keyLess at *
  by_cases n1 : a.name = b.name
  · rw [← n1] at h2
    rw [if_neg (by simp [n1])] at h1
    by_cases n2 : a.name = c.name
    · rw [if_neg (by simp [n2])] at h2 ⊢
      by_cases d1 : a.dom = b.dom
      · rw [← d1] at h2
        rw [if_neg (by simp [d1])] at h1
        by_cases d2 : a.dom = c.dom
        · rw [if_neg (by simp [d2])] at h2 ⊢
          exact less_trans h1 h2
        · rw [if_pos d2] at h2 ⊢
          exact h2
      · rw [if_pos d1] at h1
        by_cases d2 : b.dom = c.dom
        · rw [← d2, if_pos d1]
          exact h1
        · rw [if_pos d2] at h2
          have h3 := less_trans h1 h2
          by_cases d3 : a.dom = c.dom
          · rw [d3, less_irrefl] at h3; cases h3
          · rw [if_pos d3]; exact h3
    · rw [if_pos n2] at h2 ⊢
      exact h2
  · rw [if_pos n1] at h1
    by_cases n2 : b.name = c.name
    · rw [← n2, if_pos n1]
      exact h1
    · rw [if_pos n2] at h2
      have h3 := less_trans h1 h2
      by_cases n3 : a.name = c.name
      · rw [n3, less_irrefl] at h3; cases h3
      · rw [if_pos n3]; exact h3
theorem same_key_comm (a b : ItemL) : sameKey a b = sameKey b a := by
  unfold sameKey
  rw [Bool.beq_comm (a := a.name), Bool.beq_comm (a := a.dom), Bool.beq_comm (a := a.path)]

theorem ahead_same {a b : ItemL} (h : sameKey a b = true) (hm : a.made = b.made) : ahead a b = false := by
  obtain ⟨h1, -, -, h2⟩ := key_self h
  unfold ahead
  rw [h2, hm]
  simpa using h1
/-- Of two items with unlike keys just one is ahead. -/
theorem ahead_total {a b : ItemL} (h : sameKey a b = false) : ahead a b = !ahead b a := by
  unfold ahead
  by_cases h1 : a.path.length = b.path.length
  · by_cases h2 : a.made = b.made
    · rw [h1, h2]
      simpa using key_total h
    · rw [h1]
      simp only [ne_eq, not_true_eq_false, if_false, h2, Ne.symm h2, not_false_eq_true, if_true]
      by_cases c : a.made < b.made
      · rw [decide_eq_true c, decide_eq_false (show ¬ b.made < a.made by omega)]; rfl
      · rw [decide_eq_false c, decide_eq_true (show b.made < a.made by omega)]; rfl
  · simp only [ne_eq, h1, Ne.symm h1, not_false_eq_true, if_true]
    by_cases c : b.path.length < a.path.length
    · rw [decide_eq_true c, decide_eq_false (show ¬ a.path.length < b.path.length by omega)]; rfl
    · rw [decide_eq_false c, decide_eq_true (show a.path.length < b.path.length by omega)]; rfl
theorem ahead_asymm {a b : ItemL} (h : ahead a b = true) : ahead b a = false := by
  cases hs : sameKey a b with
  | false => rw [ahead_total (by rw [same_key_comm]; exact hs), h]; rfl
  | true =>
    obtain ⟨h0, h1, h2, h3⟩ := key_self hs
    obtain ⟨h0', -⟩ := key_self (by rw [same_key_comm]; exact hs : sameKey b a = true)
    unfold ahead at h ⊢
    rw [h3] at h ⊢
    simp only [ne_eq, not_true_eq_false, if_false] at h ⊢
    by_cases c : a.made = b.made
    · rw [c] at h
      simp only [not_true_eq_false, if_false] at h
      rw [h0] at h; cases h
    · simp only [c, Ne.symm c, not_false_eq_true, if_true] at h ⊢
      have := of_decide_eq_true h
      exact decide_eq_false (by omega)
/-- What one item is ahead of, and what is not ahead of another one: the order goes on. -/
theorem ahead_on {a b c : ItemL} (h1 : ahead a b = true) (h2 : ahead c b = false) : ahead a c = true := by
  unfold ahead at h1 h2 ⊢
  by_cases p1 : a.path.length = b.path.length
  · rw [if_neg (by simp [p1])] at h1
    by_cases p2 : c.path.length = b.path.length
    · rw [if_neg (by simp [p2])] at h2
      rw [if_neg (by rw [p1, p2]; simp)]
      by_cases m1 : a.made = b.made
      · rw [if_neg (by simp [m1])] at h1
        by_cases m2 : c.made = b.made
        · rw [if_neg (by simp [m2])] at h2
          rw [if_neg (by rw [m1, m2]; simp)]
          cases hs : sameKey c b with
          | true =>
            obtain ⟨-, k1, k2, k3⟩ := key_self hs
            unfold keyLess at h1 ⊢
            rw [k1, k2, k3]
            exact h1
          | false =>
            have : keyLess b c = true := by
              have := key_total (by rw [same_key_comm]; exact hs : sameKey b c = false)
              rw [h2] at this; exact this
            exact key_trans h1 this
        · rw [if_pos m2] at h2
          have := of_decide_eq_false h2
          rw [if_pos (by omega)]
          exact decide_eq_true (by omega)
      · rw [if_pos m1] at h1
        have := of_decide_eq_true h1
        by_cases m2 : c.made = b.made
        · rw [if_pos (by omega)]
          exact decide_eq_true (by omega)
        · rw [if_pos m2] at h2
          have := of_decide_eq_false h2
          rw [if_pos (by omega)]
          exact decide_eq_true (by omega)
    · rw [if_pos p2] at h2
      have := of_decide_eq_false h2
      rw [if_pos (by omega)]
      exact decide_eq_true (by omega)
  · rw [if_pos p1] at h1
    have := of_decide_eq_true h1
    by_cases p2 : c.path.length = b.path.length
    · rw [if_pos (by omega)]
      exact decide_eq_true (by omega)
    · rw [if_pos p2] at h2
      have := of_decide_eq_false h2
      rw [if_pos (by omega)]
      exact decide_eq_true (by omega)

/-- How many of the first k stay ahead of an item, from the end. -/
def stepI (x : ItemL) (out : List ItemL) : Nat → Nat
  | 0 => 0
  | k + 1 => if ahead x (out.getD k ItemL.none) = true then stepI x out k else k + 1
def placeI (x : ItemL) (out : List ItemL) : Nat := stepI x out out.length
def insI (x : ItemL) (out : List ItemL) : List ItemL := out.take (placeI x out) ++ x :: out.drop (placeI x out)
/-- Items in order, those that are alike as they stood. -/
def sortI (l : List ItemL) : List ItemL := l.foldl (fun out x => insI x out) []
def pickI (l : List ItemL) (h p : List UInt8) (sec script : Bool) (now : Int) : List ItemL := sortI (l.filter fun x => fitsX x h p sec script now)

theorem stepI_le (x : ItemL) (out : List ItemL) : ∀ k, stepI x out k ≤ k
  | 0 => Nat.le_refl _
  | k + 1 => by
    unfold stepI
    split
    · exact Nat.le_succ_of_le (stepI_le x out k)
    · exact Nat.le_refl _
theorem stepI_behind (x : ItemL) (out : List ItemL) : ∀ k j, stepI x out k ≤ j → j < k → ahead x (out.getD j ItemL.none) = true
  | 0, _, _, h => absurd h (Nat.not_lt_zero _)
  | k + 1, j, h1, h2 => by
    unfold stepI at h1
    split at h1
    · rename_i c
      by_cases e : j = k
      · subst e; exact c
      · exact stepI_behind x out k j h1 (by omega)
    · omega
theorem stepI_stop (x : ItemL) (out : List ItemL) : ∀ k, 0 < stepI x out k → ahead x (out.getD (stepI x out k - 1) ItemL.none) = false
  | 0, h => absurd h (Nat.lt_irrefl _)
  | k + 1, h => by
    unfold stepI at h ⊢
    split at h
    · rename_i c
      rw [if_pos c]
      exact stepI_stop x out k h
    · rename_i c
      rw [if_neg c]
      exact Bool.eq_false_iff.2 c

/-- In order: none is ahead of one that stands ahead of it. -/
def Ordered (l : List ItemL) : Prop := l.Pairwise fun a b => ahead b a = false

theorem ins_perm (x : ItemL) (out : List ItemL) : (insI x out).Perm (x :: out) := by
  unfold insI
  refine List.perm_middle.trans ?_
  rw [List.take_append_drop]
theorem ins_ordered {x : ItemL} {out : List ItemL} (h : Ordered out) : Ordered (insI x out) := by
  unfold insI
  have hle : placeI x out ≤ out.length := stepI_le x out _
  have hb : ∀ y ∈ out.drop (placeI x out), ahead x y = true := fun y hy => by
    obtain ⟨i, hi, rfl⟩ := List.mem_iff_getElem.1 hy
    rw [List.length_drop] at hi
    have := stepI_behind x out out.length (placeI x out + i) (Nat.le_add_right _ _) (by omega)
    rw [List.getElem_drop]
    rw [List.getD_eq_getElem?_getD, List.getElem?_eq_getElem (by omega)] at this
    exact this
  have hs := stepI_stop x out out.length
  change 0 < placeI x out → ahead x (out.getD (placeI x out - 1) ItemL.none) = false at hs
  have ho := h
  unfold Ordered at h ⊢
  rw [← List.take_append_drop (placeI x out) out, List.pairwise_append] at h
  obtain ⟨h1, h2, h3⟩ := h
  have ha : ∀ y ∈ out.take (placeI x out), ahead x y = false := fun y hy => by
    obtain ⟨i, hi, hy2⟩ := List.mem_iff_getElem.1 hy
    rw [List.length_take] at hi
    have h0 := hs (by omega)
    rw [List.getD_eq_getElem?_getD, List.getElem?_eq_getElem (by omega)] at h0
    rw [List.getElem_take] at hy2
    by_cases e : i = placeI x out - 1
    · subst e; rw [← hy2]; exact h0
    · have hpw := List.pairwise_iff_getElem.1 ho i (placeI x out - 1) (by omega) (by omega) (by omega)
      cases c : ahead x y with
      | false => rfl
      | true =>
        rw [← hy2] at c
        have := ahead_on c hpw
        simp only [Option.getD_some] at h0
        rw [h0] at this
        cases this
  rw [List.pairwise_append, List.pairwise_cons]
  refine ⟨h1, ⟨fun y hy => ahead_asymm (hb y hy), h2⟩, fun a haT b hbm => ?_⟩
  rcases List.mem_cons.1 hbm with rfl | hbm
  · exact ha a haT
  · exact h3 a haT b hbm

theorem sort_from (l : List ItemL) : ∀ out, Ordered out → Ordered (l.foldl (fun out x => insI x out) out) ∧ (l.foldl (fun out x => insI x out) out).Perm (l ++ out) := by
  induction l with
  | nil => exact fun out h => ⟨h, List.Perm.refl _⟩
  | cons x l ih =>
    intro out h
    obtain ⟨h1, h2⟩ := ih (insI x out) (ins_ordered h)
    refine ⟨h1, h2.trans ?_⟩
    refine ((ins_perm x out).append_left l).trans ?_
    exact List.perm_middle
theorem sort_ordered (l : List ItemL) : Ordered (sortI l) := (sort_from l [] List.Pairwise.nil).1
theorem sort_perm (l : List ItemL) : (sortI l).Perm l := by
  have := (sort_from l [] List.Pairwise.nil).2
  rw [List.append_nil] at this
  exact this

/-- No two of one key. -/
def Unlike (l : List ItemL) : Prop := l.Pairwise fun a b => sameKey a b = false
theorem unlike_mem {l : List ItemL} (h : Unlike l) {a b : ItemL} (ha : a ∈ l) (hb : b ∈ l) (hs : sameKey a b = true) : a = b := by
  obtain ⟨i, hi, rfl⟩ := List.mem_iff_getElem.1 ha
  obtain ⟨j, hj, rfl⟩ := List.mem_iff_getElem.1 hb
  rcases Nat.lt_trichotomy i j with c | c | c
  · rw [List.pairwise_iff_getElem.1 h i j hi hj c] at hs; cases hs
  · subst c; rfl
  · rw [same_key_comm, List.pairwise_iff_getElem.1 h j i hj hi c] at hs; cases hs
/-- Items with unlike keys have one order, in whatever order they came. -/
theorem sort_turned {l m : List ItemL} (h : Unlike l) (hp : l.Perm m) : sortI l = sortI m := by
  refine List.Perm.eq_of_pairwise (le := fun a b => ahead b a = false) (fun a b ha hb h1 h2 => ?_) (sort_ordered l) (sort_ordered m) ((sort_perm l).trans (hp.trans (sort_perm m).symm))
  have ha' : a ∈ l := (sort_perm l).mem_iff.1 ha
  have hb' : b ∈ l := hp.symm.mem_iff.1 ((sort_perm m).mem_iff.1 hb)
  cases hs : sameKey a b with
  | true => exact unlike_mem h ha' hb' hs
  | false =>
    have := ahead_total hs
    rw [h1, h2] at this
    cases this
theorem pick_turned {l m : List ItemL} (h : Unlike l) (hp : l.Perm m) (a b : List UInt8) (sec script : Bool) (now : Int) : pickI l a b sec script now = pickI m a b sec script now := by
  unfold pickI
  exact sort_turned (List.Pairwise.filter _ h) (hp.filter _)
end Go.Proofs.YtjocnhkapiiblaaDoor

/- Items with their places: what is in order, the alike as they stood, is the reference's order. No program in it. -/
namespace Go.Proofs.YtjocnhkapiiblaaDoor
open Go.Sort
set_option linter.unusedVariables false

instance : Inhabited ItemL := ⟨ItemL.none⟩

/-- An item with the place at which it stood. -/
abbrev TagI := ItemL × Nat
def aheadT (x y : TagI) : Bool := ahead x.1 y.1
def SbT (x y : TagI) : Prop := Sb aheadT Prod.snd x y

theorem ahead_ntrans {x y z : ItemL} (h1 : ahead x y = false) (h2 : ahead y z = false) : ahead x z = false := by
  cases h : ahead x z with
  | false => rfl
  | true => rw [ahead_on h h2] at h1; cases h1
theorem ahead_trans {x y z : ItemL} (h1 : ahead x y = true) (h2 : ahead y z = true) : ahead x z = true := ahead_on h1 (ahead_asymm h2)
theorem ahead_irrefl (x : ItemL) : ahead x x = false := by
  cases h : ahead x x with
  | false => rfl
  | true => rw [ahead_asymm h] at h; cases h
theorem swoT : SWO aheadT := ⟨fun x => ahead_irrefl x.1, fun _ _ _ => ahead_trans, fun _ _ _ => ahead_ntrans⟩

def insT (x : TagI) (out : List TagI) : List TagI := out.take (placeI x.1 (out.map Prod.fst)) ++ x :: out.drop (placeI x.1 (out.map Prod.fst))
def sortT (l : List TagI) : List TagI := l.foldl (fun out x => insT x out) []

theorem insT_fst (x : TagI) (out : List TagI) : (insT x out).map Prod.fst = insI x.1 (out.map Prod.fst) := by
  unfold insT insI
  rw [List.map_append, List.map_cons, List.map_take, List.map_drop]
theorem sortT_from (l : List TagI) : ∀ out, (l.foldl (fun out x => insT x out) out).map Prod.fst = (l.map Prod.fst).foldl (fun out x => insI x out) (out.map Prod.fst) := by
  induction l with
  | nil => exact fun _ => rfl
  | cons x l ih =>
    intro out
    rw [List.foldl_cons, List.map_cons, List.foldl_cons, ih, insT_fst]
theorem sortT_fst (l : List TagI) : (sortT l).map Prod.fst = sortI (l.map Prod.fst) := sortT_from l []

theorem insT_perm (x : TagI) (out : List TagI) : (insT x out).Perm (x :: out) := by
  unfold insT
  refine List.perm_middle.trans ?_
  rw [List.take_append_drop]

theorem insT_ordered {x : TagI} {out : List TagI} (h : out.Pairwise SbT) (ht : ∀ y ∈ out, y.2 < x.2) : (insT x out).Pairwise SbT := by
  unfold insT
  have hO : Ordered (out.map Prod.fst) := by
    unfold Ordered
    rw [List.pairwise_map]
    refine h.imp fun {a b} hab => ?_
    rcases hab with hab | ⟨hab, _⟩
    · exact ahead_asymm hab
    · exact hab
  have hle : placeI x.1 (out.map Prod.fst) ≤ out.length := by have := stepI_le x.1 (out.map Prod.fst) (out.map Prod.fst).length; rw [List.length_map] at this; unfold placeI; rw [List.length_map]; exact this
  have hlen : (out.map Prod.fst).length = out.length := List.length_map ..
  have gd : ∀ i (hi : i < out.length), (out.map Prod.fst).getD i ItemL.none = (out[i]).1 := fun i hi => by
    rw [List.getD_eq_getElem?_getD, List.getElem?_map, List.getElem?_eq_getElem hi]; rfl
  have hs := stepI_stop x.1 (out.map Prod.fst) (out.map Prod.fst).length
  have hbh := stepI_behind x.1 (out.map Prod.fst) (out.map Prod.fst).length
  change 0 < placeI x.1 (out.map Prod.fst) → ahead x.1 ((out.map Prod.fst).getD (placeI x.1 (out.map Prod.fst) - 1) ItemL.none) = false at hs
  change ∀ j, placeI x.1 (out.map Prod.fst) ≤ j → j < (out.map Prod.fst).length → ahead x.1 ((out.map Prod.fst).getD j ItemL.none) = true at hbh
  generalize placeI x.1 (out.map Prod.fst) = p at *
  have hb : ∀ y ∈ out.drop p, SbT x y := fun y hy => by
    obtain ⟨i, hi, rfl⟩ := List.mem_iff_getElem.1 hy
    rw [List.length_drop] at hi
    have := hbh (p + i) (Nat.le_add_right _ _) (by omega)
    rw [gd _ (by omega)] at this
    rw [List.getElem_drop]
    exact .inl this
  have ha : ∀ y ∈ out.take p, SbT y x := fun y hy => by
    obtain ⟨i, hi, hy2⟩ := List.mem_iff_getElem.1 hy
    rw [List.length_take] at hi
    rw [List.getElem_take] at hy2
    have h0 := hs (by omega)
    rw [gd _ (by omega)] at h0
    have hm : ahead x.1 y.1 = false := by
      by_cases e : i = p - 1
      · subst e; rw [← hy2]; exact h0
      · have hpw := List.pairwise_iff_getElem.1 hO i (p - 1) (by omega) (by omega) (by omega)
        rw [List.getElem_map, List.getElem_map, hy2] at hpw
        exact ahead_ntrans h0 hpw
    exact .inr ⟨hm, ht y (by rw [← hy2]; exact List.getElem_mem _)⟩
  have ho := h
  rw [← List.take_append_drop p out, List.pairwise_append] at h
  obtain ⟨h1, h2, h3⟩ := h
  rw [List.pairwise_append, List.pairwise_cons]
  refine ⟨h1, ⟨fun y hy => hb y hy, h2⟩, fun a haT b hbm => ?_⟩
  rcases List.mem_cons.1 hbm with rfl | hbm
  · exact ha a haT
  · exact h3 a haT b hbm

theorem sortT_ordered (l : List TagI) : ∀ out, out.Pairwise SbT → (∀ y ∈ out, ∀ x ∈ l, y.2 < x.2) → l.Pairwise (fun x y => x.2 < y.2) →
    (l.foldl (fun out x => insT x out) out).Pairwise SbT ∧ (l.foldl (fun out x => insT x out) out).Perm (l ++ out) := by
  induction l with
  | nil => exact fun out h _ _ => ⟨h, List.Perm.refl _⟩
  | cons x l ih =>
    intro out h ht hl
    rw [List.pairwise_cons] at hl
    obtain ⟨h1, h2⟩ := ih (insT x out) (insT_ordered h fun y hy => ht y hy x (List.mem_cons_self ..)) (fun y hy z hz => by
      rcases List.mem_cons.1 ((insT_perm x out).mem_iff.1 hy) with rfl | hy
      · exact hl.1 z hz
      · exact ht y hy z (List.mem_cons_of_mem _ hz)) hl.2
    refine ⟨h1, h2.trans ?_⟩
    refine ((insT_perm x out).append_left l).trans ?_
    exact List.perm_middle

/-- Items with their places. -/
def tagged (L : List ItemL) : List TagI := L.zipIdx
theorem tagged_fst (L : List ItemL) : (tagged L).map Prod.fst = L := by unfold tagged; exact List.zipIdx_map_fst ..
theorem tagged_len (L : List ItemL) : (tagged L).length = L.length := by unfold tagged; exact List.length_zipIdx
theorem tagged_at (L : List ItemL) (i : Nat) (hi : i < (tagged L).length) : ((tagged L)[i]).2 = i := by
  have h : ∀ (i : Nat) (hi : i < L.zipIdx.length), (L.zipIdx[i]).2 = i := fun i hi => by rw [List.getElem_zipIdx]; simp
  exact h i hi
theorem tagged_asc (L : List ItemL) : (tagged L).Pairwise (fun x y => x.2 < y.2) := by
  rw [List.pairwise_iff_getElem]
  intro i j hi hj hij
  rw [tagged_at, tagged_at]
  exact hij

/-- Whatever has the same items with their places, and is in order, is the reference's order. -/
theorem sort_tagged {L : List ItemL} {T : List TagI} (hp : T.Perm (tagged L)) (hs : T.Pairwise SbT) : T.map Prod.fst = sortI L := by
  obtain ⟨h1, h2⟩ := sortT_ordered (tagged L) [] List.Pairwise.nil (fun y hy => by cases hy) (tagged_asc L)
  rw [List.append_nil] at h2
  have e : T = sortT (tagged L) := by
    refine List.Perm.eq_of_pairwise (le := SbT) (fun a b _ _ k1 k2 => ?_) hs h1 (hp.trans h2.symm)
    exact absurd (Sb.trans swoT k1 k2) (Sb.irrefl swoT a)
  rw [e, sortT_fst, tagged_fst]
end Go.Proofs.YtjocnhkapiiblaaDoor
