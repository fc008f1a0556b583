/- Contracts and plain words that the laws' proofs stand on, put together. -/
import Derived.Test.YtkakcdojbgnocaaDoorLibAP
import Derived.Test.YtkakcdojbgnocaaDoorLibAA
import Derived.BigQuiet
/- The order of items in plain words. No program in it. -/
namespace Go.Proofs.YtkakcdojbgnocaaDoor
set_option linter.unusedVariables false

theorem less_irrefl : ∀ a : List UInt8, Op.bytesLess a a = false
  | [] => rfl
  | x :: l => by
    rw [Op.bytesLess, less_irrefl l, Bool.and_false, Bool.or_false]
    exact decide_eq_false (UInt8.lt_irrefl x)
theorem less_total : ∀ {a b : List UInt8}, a ≠ b → Op.bytesLess a b = !Op.bytesLess b a
  | [], [], h => absurd rfl h
  | [], _ :: _, _ => rfl
  | _ :: _, [], _ => rfl
  | x :: l, y :: m, h => by
    rw [Op.bytesLess, Op.bytesLess]
    by_cases e : x = y
    · subst e
      have h2 : l ≠ m := fun c => h (by rw [c])
      rw [less_total h2, beq_self_eq_true, decide_eq_false (UInt8.lt_irrefl x)]
      simp
    · rw [beq_eq_false_iff_ne.2 e, beq_eq_false_iff_ne.2 (Ne.symm e), Bool.false_and, Bool.false_and, Bool.or_false, Bool.or_false]
      have h1 : x.toNat ≠ y.toNat := fun c => e (UInt8.toNat.inj c)
      by_cases c : x < y
      · have c2 : ¬ y < x := by rw [UInt8.lt_iff_toNat_lt] at c ⊢; omega
        rw [decide_eq_true c, decide_eq_false c2]
        rfl
      · have c2 : y < x := by rw [UInt8.lt_iff_toNat_lt] at c ⊢; omega
        rw [decide_eq_false c, decide_eq_true c2]
        rfl
theorem less_trans : ∀ {a b c : List UInt8}, Op.bytesLess a b = true → Op.bytesLess b c = true → Op.bytesLess a c = true
  | _, [], _, h, _ => by cases h' : ‹List UInt8› <;> simp [Op.bytesLess] at h
  | _, _ :: _, [], _, h => by simp [Op.bytesLess] at h
  | [], _ :: _, _ :: _, _, _ => rfl
  | x :: l, y :: m, z :: n, h1, h2 => by
    rw [Op.bytesLess, Bool.or_eq_true, Bool.and_eq_true, decide_eq_true_iff, beq_iff_eq] at h1 h2 ⊢
    rw [UInt8.lt_iff_toNat_lt] at *
    rcases h1 with h1 | ⟨rfl, h1⟩ <;> rcases h2 with h2 | ⟨rfl, h2⟩
    · exact .inl (by omega)
    · exact .inl h1
    · exact .inl h2
    · exact .inr ⟨rfl, less_trans h1 h2⟩

/-- Is a key ahead of another one? -/
def keyLess (a b : ItemL) : Bool :=
  if a.name ≠ b.name then Op.bytesLess a.name b.name else if a.dom ≠ b.dom then Op.bytesLess a.dom b.dom else Op.bytesLess a.path b.path
def sameKey (a b : ItemL) : Bool := a.name == b.name && (a.dom == b.dom && a.path == b.path)
/-- Is an item ahead of another one? -/
def ahead (a b : ItemL) : Bool :=
  if a.path.length ≠ b.path.length then decide (b.path.length < a.path.length) else if a.made ≠ b.made then decide (a.made < b.made) else keyLess a b

theorem key_self {a b : ItemL} (h : sameKey a b = true) : keyLess a b = false ∧ a.name = b.name ∧ a.dom = b.dom ∧ a.path = b.path := by
  unfold sameKey at h
  rw [Bool.and_eq_true, Bool.and_eq_true, beq_iff_eq, beq_iff_eq, beq_iff_eq] at h
  obtain ⟨h1, h2, h3⟩ := h
  unfold keyLess
  rw [h1, h2, h3]
  simp [less_irrefl]
theorem key_total {a b : ItemL} (h : sameKey a b = false) : keyLess a b = !keyLess b a := by
  unfold keyLess
  by_cases h1 : a.name = b.name
  · by_cases h2 : a.dom = b.dom
    · have h3 : a.path ≠ b.path := fun c => by unfold sameKey at h; rw [h1, h2, c] at h; simp at h
      rw [h1, h2]
      simp [less_total h3]
    · rw [h1]
      simp [h2, Ne.symm h2, less_total h2]
  · simp [h1, Ne.symm h1, less_total h1]
theorem key_trans {a b c : ItemL} (h1 : keyLess a b = true) (h2 : keyLess b c = true) : keyLess a c = true := by
  unfold keyLess at *
  by_cases n1 : a.name = b.name
  · rw [← n1] at h2
    rw [if_neg (by simp [n1])] at h1
    by_cases n2 : a.name = c.name
    · rw [if_neg (by simp [n2])] at h2 ⊢
      by_cases d1 : a.dom = b.dom
      · rw [← d1] at h2
        rw [if_neg (by simp [d1])] at h1
        by_cases d2 : a.dom = c.dom
        · rw [if_neg (by simp [d2])] at h2 ⊢
          exact less_trans h1 h2
        · rw [if_pos d2] at h2 ⊢
          exact h2
      · rw [if_pos d1] at h1
        by_cases d2 : b.dom = c.dom
        · rw [← d2, if_pos d1]
          exact h1
        · rw [if_pos d2] at h2
          have h3 := less_trans h1 h2
          by_cases d3 : a.dom = c.dom
          · rw [d3, less_irrefl] at h3; cases h3
          · rw [if_pos d3]; exact h3
    · rw [if_pos n2] at h2 ⊢
      exact h2
  · rw [if_pos n1] at h1
    by_cases n2 : b.name = c.name
    · rw [← n2, if_pos n1]
      exact h1
    · rw [if_pos n2] at h2
      have h3 := less_trans h1 h2
      by_cases n3 : a.name = c.name
      · rw [n3, less_irrefl] at h3; cases h3
      · rw [if_pos n3]; exact h3
theorem same_key_comm (a b : ItemL) : sameKey a b = sameKey b a := by
  unfold sameKey
  rw [Bool.beq_comm (a := a.name), Bool.beq_comm (a := a.dom), Bool.beq_comm (a := a.path)]

theorem ahead_same {a b : ItemL} (h : sameKey a b = true) (hm : a.made = b.made) : ahead a b = false := by
  obtain ⟨h1, -, -, h2⟩ := key_self h
  unfold ahead
  rw [h2, hm]
  simpa using h1
/-- Of two items with unlike keys just one is ahead. -/
theorem ahead_total {a b : ItemL} (h : sameKey a b = false) : ahead a b = !ahead b a := by
  unfold ahead
  by_cases h1 : a.path.length = b.path.length
  · by_cases h2 : a.made = b.made
    · rw [h1, h2]
      simpa using key_total h
    · rw [h1]
      simp only [ne_eq, not_true_eq_false, if_false, h2, Ne.symm h2, not_false_eq_true, if_true]
      by_cases c : a.made < b.made
      · rw [decide_eq_true c, decide_eq_false (show ¬ b.made < a.made by omega)]; rfl
      · rw [decide_eq_false c, decide_eq_true (show b.made < a.made by omega)]; rfl
  · simp only [ne_eq, h1, Ne.symm h1, not_false_eq_true, if_true]
    by_cases c : b.path.length < a.path.length
    · rw [decide_eq_true c, decide_eq_false (show ¬ a.path.length < b.path.length by omega)]; rfl
    · rw [decide_eq_false c, decide_eq_true (show a.path.length < b.path.length by omega)]; rfl
theorem ahead_asymm {a b : ItemL} (h : ahead a b = true) : ahead b a = false := by
  cases hs : sameKey a b with
  | false => rw [ahead_total (by rw [same_key_comm]; exact hs), h]; rfl
  | true =>
    obtain ⟨h0, h1, h2, h3⟩ := key_self hs
    obtain ⟨h0', -⟩ := key_self (by rw [same_key_comm]; exact hs : sameKey b a = true)
    unfold ahead at h ⊢
    rw [h3] at h ⊢
    simp only [ne_eq, not_true_eq_false, if_false] at h ⊢
    by_cases c : a.made = b.made
    · rw [c] at h
      simp only [not_true_eq_false, if_false] at h
      rw [h0] at h; cases h
    · simp only [c, Ne.symm c, not_false_eq_true, if_true] at h ⊢
      have := of_decide_eq_true h
      exact decide_eq_false (by omega)
/-- What one item is ahead of, and what is not ahead of another one: the order goes on. -/
theorem ahead_on {a b c : ItemL} (h1 : ahead a b = true) (h2 : ahead c b = false) : ahead a c = true := by
  unfold ahead at h1 h2 ⊢
  by_cases p1 : a.path.length = b.path.length
  · rw [if_neg (by simp [p1])] at h1
    by_cases p2 : c.path.length = b.path.length
    · rw [if_neg (by simp [p2])] at h2
      rw [if_neg (by rw [p1, p2]; simp)]
      by_cases m1 : a.made = b.made
      · rw [if_neg (by simp [m1])] at h1
        by_cases m2 : c.made = b.made
        · rw [if_neg (by simp [m2])] at h2
          rw [if_neg (by rw [m1, m2]; simp)]
          cases hs : sameKey c b with
          | true =>
            obtain ⟨-, k1, k2, k3⟩ := key_self hs
            unfold keyLess at h1 ⊢
            rw [k1, k2, k3]
            exact h1
          | false =>
            have : keyLess b c = true := by
              have := key_total (by rw [same_key_comm]; exact hs : sameKey b c = false)
              rw [h2] at this; exact this
            exact key_trans h1 this
        · rw [if_pos m2] at h2
          have := of_decide_eq_false h2
          rw [if_pos (by omega)]
          exact decide_eq_true (by omega)
      · rw [if_pos m1] at h1
        have := of_decide_eq_true h1
        by_cases m2 : c.made = b.made
        · rw [if_pos (by omega)]
          exact decide_eq_true (by omega)
        · rw [if_pos m2] at h2
          have := of_decide_eq_false h2
          rw [if_pos (by omega)]
          exact decide_eq_true (by omega)
    · rw [if_pos p2] at h2
      have := of_decide_eq_false h2
      rw [if_pos (by omega)]
      exact decide_eq_true (by omega)
  · rw [if_pos p1] at h1
    have := of_decide_eq_true h1
    by_cases p2 : c.path.length = b.path.length
    · rw [if_pos (by omega)]
      exact decide_eq_true (by omega)
    · rw [if_pos p2] at h2
      have := of_decide_eq_false h2
      rw [if_pos (by omega)]
      exact decide_eq_true (by omega)

/-- How many of the first k stay ahead of an item, from the end. -/
def stepI (x : ItemL) (out : List ItemL) : Nat → Nat
  | 0 => 0
  | k + 1 => if ahead x (out.getD k ItemL.none) = true then stepI x out k else k + 1
def placeI (x : ItemL) (out : List ItemL) : Nat := stepI x out out.length
def insI (x : ItemL) (out : List ItemL) : List ItemL := out.take (placeI x out) ++ x :: out.drop (placeI x out)
/-- Items in order, those that are alike as they stood. -/
def sortI (l : List ItemL) : List ItemL := l.foldl (fun out x => insI x out) []
def pickI (l : List ItemL) (h p : List UInt8) (sec script : Bool) (now : Int) : List ItemL := sortI (l.filter fun x => fitsX x h p sec script now)

theorem stepI_le (x : ItemL) (out : List ItemL) : ∀ k, stepI x out k ≤ k
  | 0 => Nat.le_refl _
  | k + 1 => by
    unfold stepI
    split
    · exact Nat.le_succ_of_le (stepI_le x out k)
    · exact Nat.le_refl _
theorem stepI_behind (x : ItemL) (out : List ItemL) : ∀ k j, stepI x out k ≤ j → j < k → ahead x (out.getD j ItemL.none) = true
  | 0, _, _, h => absurd h (Nat.not_lt_zero _)
  | k + 1, j, h1, h2 => by
    unfold stepI at h1
    split at h1
    · rename_i c
      by_cases e : j = k
      · subst e; exact c
      · exact stepI_behind x out k j h1 (by omega)
    · omega
theorem stepI_stop (x : ItemL) (out : List ItemL) : ∀ k, 0 < stepI x out k → ahead x (out.getD (stepI x out k - 1) ItemL.none) = false
  | 0, h => absurd h (Nat.lt_irrefl _)
  | k + 1, h => by
    unfold stepI at h ⊢
    split at h
    · rename_i c
      rw [if_pos c]
      exact stepI_stop x out k h
    · rename_i c
      rw [if_neg c]
      exact Bool.eq_false_iff.2 c

/-- In order: none is ahead of one that stands ahead of it. -/
def Ordered (l : List ItemL) : Prop := l.Pairwise fun a b => ahead b a = false

theorem ins_perm (x : ItemL) (out : List ItemL) : (insI x out).Perm (x :: out) := by
  unfold insI
  refine List.perm_middle.trans ?_
  rw [List.take_append_drop]
theorem ins_ordered {x : ItemL} {out : List ItemL} (h : Ordered out) : Ordered (insI x out) := by
  unfold insI
  have hle : placeI x out ≤ out.length := stepI_le x out _
  have hb : ∀ y ∈ out.drop (placeI x out), ahead x y = true := fun y hy => by
    obtain ⟨i, hi, rfl⟩ := List.mem_iff_getElem.1 hy
    rw [List.length_drop] at hi
    have := stepI_behind x out out.length (placeI x out + i) (Nat.le_add_right _ _) (by omega)
    rw [List.getElem_drop]
    rw [List.getD_eq_getElem?_getD, List.getElem?_eq_getElem (by omega)] at this
    exact this
  have hs := stepI_stop x out out.length
  change 0 < placeI x out → ahead x (out.getD (placeI x out - 1) ItemL.none) = false at hs
  have ho := h
  unfold Ordered at h ⊢
  rw [← List.take_append_drop (placeI x out) out, List.pairwise_append] at h
  obtain ⟨h1, h2, h3⟩ := h
  have ha : ∀ y ∈ out.take (placeI x out), ahead x y = false := fun y hy => by
    obtain ⟨i, hi, hy2⟩ := List.mem_iff_getElem.1 hy
    rw [List.length_take] at hi
    have h0 := hs (by omega)
    rw [List.getD_eq_getElem?_getD, List.getElem?_eq_getElem (by omega)] at h0
    rw [List.getElem_take] at hy2
    by_cases e : i = placeI x out - 1
    · subst e; rw [← hy2]; exact h0
    · have hpw := List.pairwise_iff_getElem.1 ho i (placeI x out - 1) (by omega) (by omega) (by omega)
      cases c : ahead x y with
      | false => rfl
      | true =>
        rw [← hy2] at c
        have := ahead_on c hpw
        simp only [Option.getD_some] at h0
        rw [h0] at this
        cases this
  rw [List.pairwise_append, List.pairwise_cons]
  refine ⟨h1, ⟨fun y hy => ahead_asymm (hb y hy), h2⟩, fun a haT b hbm => ?_⟩
  rcases List.mem_cons.1 hbm with rfl | hbm
  · exact ha a haT
  · exact h3 a haT b hbm

theorem sort_from (l : List ItemL) : ∀ out, Ordered out → Ordered (l.foldl (fun out x => insI x out) out) ∧ (l.foldl (fun out x => insI x out) out).Perm (l ++ out) := by
  induction l with
  | nil => exact fun out h => ⟨h, List.Perm.refl _⟩
  | cons x l ih =>
    intro out h
    obtain ⟨h1, h2⟩ := ih (insI x out) (ins_ordered h)
    refine ⟨h1, h2.trans ?_⟩
    refine ((ins_perm x out).append_left l).trans ?_
    exact List.perm_middle
theorem sort_ordered (l : List ItemL) : Ordered (sortI l) := (sort_from l [] List.Pairwise.nil).1
theorem sort_perm (l : List ItemL) : (sortI l).Perm l := by
  have := (sort_from l [] List.Pairwise.nil).2
  rw [List.append_nil] at this
  exact this

/-- No two of one key. -/
def Unlike (l : List ItemL) : Prop := l.Pairwise fun a b => sameKey a b = false
theorem unlike_mem {l : List ItemL} (h : Unlike l) {a b : ItemL} (ha : a ∈ l) (hb : b ∈ l) (hs : sameKey a b = true) : a = b := by
  obtain ⟨i, hi, rfl⟩ := List.mem_iff_getElem.1 ha
  obtain ⟨j, hj, rfl⟩ := List.mem_iff_getElem.1 hb
  rcases Nat.lt_trichotomy i j with c | c | c
  · rw [List.pairwise_iff_getElem.1 h i j hi hj c] at hs; cases hs
  · subst c; rfl
  · rw [same_key_comm, List.pairwise_iff_getElem.1 h j i hj hi c] at hs; cases hs
/-- Items with unlike keys have one order, in whatever order they came. -/
theorem sort_turned {l m : List ItemL} (h : Unlike l) (hp : l.Perm m) : sortI l = sortI m := by
  refine List.Perm.eq_of_pairwise (le := fun a b => ahead b a = false) (fun a b ha hb h1 h2 => ?_) (sort_ordered l) (sort_ordered m) ((sort_perm l).trans (hp.trans (sort_perm m).symm))
  have ha' : a ∈ l := (sort_perm l).mem_iff.1 ha
  have hb' : b ∈ l := hp.symm.mem_iff.1 ((sort_perm m).mem_iff.1 hb)
  cases hs : sameKey a b with
  | true => exact unlike_mem h ha' hb' hs
  | false =>
    have := ahead_total hs
    rw [h1, h2] at this
    cases this
theorem pick_turned {l m : List ItemL} (h : Unlike l) (hp : l.Perm m) (a b : List UInt8) (sec script : Bool) (now : Int) : pickI l a b sec script now = pickI m a b sec script now := by
  unfold pickI
  exact sort_turned (List.Pairwise.filter _ h) (hp.filter _)
end Go.Proofs.YtkakcdojbgnocaaDoor

/- Contracts of the reference of layer 15: which items are ahead, and the same. -/
namespace Go.Proofs.YtkakcdojbgnocaaDoor
open Go.RowKit
set_option linter.unusedVariables false

def sameI (x y : ItemL) : Bool := x.name == y.name && (x.dom == y.dom && (x.path == y.path && (x.val == y.val && (x.host == y.host && (x.sec == y.sec && (x.http == y.http && (x.pers == y.pers && (x.exp == y.exp && (x.made == y.made && (x.used == y.used))))))))))
theorem sameI_iff {x y : ItemL} : sameI x y = true ↔ x = y := by
  unfold sameI
  simp only [Bool.and_eq_true, beq_iff_eq]
  constructor
  · rintro ⟨h1, h2, h3, h4, h5, h6, h7, h8, h9, h10, h11⟩
    cases x; cases y
    simp only at h1 h2 h3 h4 h5 h6 h7 h8 h9 h10 h11
    subst h1 h2 h3 h4 h5 h6 h7 h8 h9 h10 h11
    rfl
  · rintro rfl
    exact ⟨rfl, rfl, rfl, rfl, rfl, rfl, rfl, rfl, rfl, rfl, rfl⟩
def sameL : List ItemL → List ItemL → Bool
  | [], [] => true
  | x :: l, y :: m => sameI x y && sameL l m
  | _, _ => false
theorem sameL_iff : ∀ {l m : List ItemL}, sameL l m = true ↔ l = m
  | [], [] => by simp [sameL]
  | [], _ :: _ => by simp [sameL]
  | _ :: _, [] => by simp [sameL]
  | x :: l, y :: m => by rw [sameL, Bool.and_eq_true, sameI_iff, sameL_iff, List.cons.injEq]

set_option maxHeartbeats 4000000 in
theorem eqItem2 (x y : ItemL) (w : World) :
    Sem.run Tryd.prog (Op.equalIn 10000 47 (.agg #[.string (str x.name), .string (str x.dom), .string (str x.path), .string (str x.val), .bool x.host, .bool x.sec, .bool x.http, .bool x.pers, .int .i64 x.exp, .int .i64 x.made, .int .i64 x.used]) (.agg #[.string (str y.name), .string (str y.dom), .string (str y.path), .string (str y.val), .bool y.host, .bool y.sec, .bool y.http, .bool y.pers, .int .i64 y.exp, .int .i64 y.made, .int .i64 y.used])) w = Result.ok (sameI x y) w := by
  have hk := str_toList
  unfold sameI
  cases h0 : (x.name == y.name) with
  | false => simp [go_sem, hk, h0]
  | true =>
  cases h1 : (x.dom == y.dom) with
  | false => simp [go_sem, hk, h0, h1]
  | true =>
  cases h2 : (x.path == y.path) with
  | false => simp [go_sem, hk, h0, h1, h2]
  | true =>
  cases h3 : (x.val == y.val) with
  | false => simp [go_sem, hk, h0, h1, h2, h3]
  | true =>
  cases h4 : (x.host == y.host) with
  | false => simp [go_sem, hk, h0, h1, h2, h3, h4]
  | true =>
  cases h5 : (x.sec == y.sec) with
  | false => simp [go_sem, hk, h0, h1, h2, h3, h4, h5]
  | true =>
  cases h6 : (x.http == y.http) with
  | false => simp [go_sem, hk, h0, h1, h2, h3, h4, h5, h6]
  | true =>
  cases h7 : (x.pers == y.pers) with
  | false => simp [go_sem, hk, h0, h1, h2, h3, h4, h5, h6, h7]
  | true =>
  cases h8 : (x.exp == y.exp) with
  | false => simp [go_sem, hk, h0, h1, h2, h3, h4, h5, h6, h7, h8]
  | true =>
  cases h9 : (x.made == y.made) with
  | false => simp [go_sem, hk, h0, h1, h2, h3, h4, h5, h6, h7, h8, h9]
  | true =>
  cases h10 : (x.used == y.used) with
  | false => simp [go_sem, hk, h0, h1, h2, h3, h4, h5, h6, h7, h8, h9, h10]
  | true =>
  simp [go_sem, hk, h0, h1, h2, h3, h4, h5, h6, h7, h8, h9, h10]

end Go.Proofs.YtkakcdojbgnocaaDoor
