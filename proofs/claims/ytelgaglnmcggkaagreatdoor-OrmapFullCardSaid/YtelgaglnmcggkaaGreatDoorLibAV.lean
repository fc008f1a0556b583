/- Contracts and plain words that the laws' proofs stand on, put together. -/
import Derived.Test.YtelgaglnmcggkaaGreatDoorLibAP
import Derived.Test.YtelgaglnmcggkaaGreatDoorLibAR
import Derived.Test.YtelgaglnmcggkaaGreatDoorLibAQ
import Derived.Test.YtelgaglnmcggkaaGreatDoorLibAH
import Derived.Test.YtelgaglnmcggkaaGreatDoorLibAA
import Derived.Test.YtelgaglnmcggkaaGreatDoorEventRef
import Derived.Deep.RegionHeld3
import Derived.BigQuiet
import Derived.Test.YtelgaglnmcggkaaGreatDoorDotRef2
import Derived.Test.YtelgaglnmcggkaaGreatDoorLibAJ
import Derived.Test.YtelgaglnmcggkaaGreatDoorVecTake
import Derived.Test.YtelgaglnmcggkaaGreatDoorLibAI
import Derived.Test.YtelgaglnmcggkaaGreatDoorLibAK
import Derived.Test.YtelgaglnmcggkaaGreatDoorLibAT
import Derived.Test.YtelgaglnmcggkaaGreatDoorShelf
import Derived.Lib.IndexMore
import Derived.Lib.Strings
/- Maps of events in plain words. No program in it. -/
namespace Go.Proofs.YtelgaglnmcggkaaGreatDoor
open Go.RowKit
set_option linter.unusedVariables false
set_option linter.unusedSimpArgs false

structure MapN where
  ctx : List DotN
  kept : List EventN
  dead : List DotN
def MapN.none : MapN := ⟨[], [], []⟩
def EventN.none : EventN := ⟨⟨0, 0, 0⟩, ⟨0, 0, 0⟩, 0, ItemL.none, []⟩

/-- The place of a kept event. -/
def findE (l : List EventN) (d : DotN) : Nat := l.findIdx fun e => sameD e.dot d
/-- Events by dots, with one more. -/
def frontE (l : List EventN) (d : DotN) : Nat := l.findIdx fun y => !lessD y.dot d
def insE (l : List EventN) (e : EventN) : List EventN := l.take (frontE l e.dot) ++ e :: l.drop (frontE l e.dot)

/-- An event applied: the map behind it, the answer, why not (1 form, 6 order, 9 full). -/
def applyM (m : MapN) (e : EventN) : MapN × Bool × Int :=
  if rightE e = false then (m, false, 1)
  else if hasV m.ctx e.dot = true then (m, false, 0)
  else if ¬ getV m.ctx e.dot.dev e.dot.inc + 1 = e.dot.seq then (m, false, 6)
  else if 2048 ≤ m.kept.length then (m, false, 9)
  else (⟨setV m.ctx e.dot, insE m.kept e, sortD (m.dead ++ e.over)⟩, true, 0)
def aliveM (m : MapN) : List EventN := m.kept.filter fun e => e.kind == 1 && !hasD m.dead e.dot
def keyM (m : MapN) (k : ItemL) : List EventN := (aliveM m).filter fun e => sameKey e.item k
def bestM (b : Option EventN) (e : EventN) : Option EventN :=
  match b with
  | none => some e
  | some x => if lessT e.stamp x.stamp = true then some x else some e
def winnerM (m : MapN) (k : ItemL) : Option EventN := (keyM m k).foldl bestM none
def frontK (l : List EventN) (e : EventN) : Nat := l.findIdx fun y => !keyLess y.item e.item
def insK (l : List EventN) (e : EventN) : List EventN := l.take (frontK l e) ++ e :: l.drop (frontK l e)
def winStep (m : MapN) (out : List EventN) (x : EventN) : List EventN :=
  match winnerM m x.item with
  | none => out
  | some e => if sameD e.dot x.dot = true then insK out e else out
def winnersM (m : MapN) : List EventN := (aliveM m).foldl (winStep m) []
def forgetM (m : MapN) (d : DotN) : MapN × Bool :=
  match m.kept[findE m.kept d]? with
  | none => (m, false)
  | some e => if (e.kind == 1 && !hasD m.dead d) = true then (m, false) else (⟨m.ctx, m.kept.eraseIdx (findE m.kept d), m.dead⟩, true)
def bareM (m : MapN) (d : DotN) : MapN × Bool :=
  match m.kept[findE m.kept d]? with
  | none => (m, false)
  | some e => if e.kind = 1 ∧ 0 < e.over.length then (⟨m.ctx, m.kept.set (findE m.kept d) { e with over := [] }, m.dead⟩, true) else (m, false)
def clearM (m : MapN) (d : DotN) : MapN × Bool :=
  if hasD m.dead d = true ∧ hasV m.ctx d = true ∧ m.kept.length ≤ findE m.kept d then (⟨m.ctx, m.kept, m.dead.filter fun y => !sameD y d⟩, true) else (m, false)
def foldM (l : List EventN) : MapN := l.foldl (fun m e => (applyM m e).1) MapN.none
def sameAllE : List EventN → List EventN → Bool
  | [], [] => true
  | x :: l, y :: m => sameE x y && sameAllE l m
  | _, _ => false
theorem sameAllE_iff : ∀ {l m : List EventN}, sameAllE l m = true ↔ l = m
  | [], [] => by simp [sameAllE]
  | [], y :: m => by simp [sameAllE]
  | x :: l, [] => by simp [sameAllE]
  | x :: l, y :: m => by
    unfold sameAllE
    rw [Bool.and_eq_true, sameE_iff, sameAllE_iff, List.cons.injEq]
theorem sameAll_step {l m : List EventN} {k : Nat} {x y : EventN} (hx : l[k]? = some x) (hy : m[k]? = some y) (ht : l.take k = m.take k) : (sameE x y = true → l.take (k + 1) = m.take (k + 1)) ∧ (sameE x y = false → ¬ l = m) := by
  obtain ⟨h1, rfl⟩ := List.getElem?_eq_some_iff.1 hx
  obtain ⟨h2, rfl⟩ := List.getElem?_eq_some_iff.1 hy
  constructor
  · intro h
    rw [List.take_succ_eq_append_getElem h1, List.take_succ_eq_append_getElem h2, ht, sameE_iff.1 h]
  · intro h c
    subst c
    rw [sameE_iff.2 rfl] at h
    cases h
end Go.Proofs.YtelgaglnmcggkaaGreatDoor

/- Events applied in another order, each actor's in its own: the same map. No program in it. -/
namespace Go.Proofs.YtelgaglnmcggkaaGreatDoor
open Go.RowKit
set_option linter.unusedVariables false
set_option linter.unusedSimpArgs false

theorem right_dotE {e : EventN} (h : rightE e = true) : rightD e.dot = true := by
  unfold rightE headE at h
  simp only [Bool.and_eq_true] at h
  exact h.1.1

/-- Events by their dots, each dot once. -/
def SortedE (l : List EventN) : Prop := l.Pairwise fun x y => lessD x.dot y.dot = true
theorem sortedE_unique : ∀ {a b : List EventN}, SortedE a → SortedE b → (∀ x, x ∈ a ↔ x ∈ b) → a = b
  | [], [], _, _, _ => rfl
  | [], y :: b, _, _, h => absurd ((h y).2 (List.mem_cons_self ..)) (by simp)
  | x :: a, [], _, _, h => absurd ((h x).1 (List.mem_cons_self ..)) (by simp)
  | x :: a, y :: b, ha, hb, h => by
    obtain ⟨ha1, ha2⟩ := List.pairwise_cons.1 ha
    obtain ⟨hb1, hb2⟩ := List.pairwise_cons.1 hb
    have hxy : x = y := by
      rcases List.mem_cons.1 ((h x).1 (List.mem_cons_self ..)) with e | e
      · exact e
      · rcases List.mem_cons.1 ((h y).2 (List.mem_cons_self ..)) with e2 | e2
        · exact e2.symm
        · have := lessD_asymm (hb1 x e)
          rw [ha1 y e2] at this
          cases this
    subst hxy
    have no : ∀ {t : List EventN}, (∀ z ∈ t, lessD x.dot z.dot = true) → x ∉ t := fun ht hx => by
      have := ht x hx
      rw [lessD_irrefl] at this
      cases this
    rw [sortedE_unique ha2 hb2 fun z => ?_]
    constructor
    · intro hz
      rcases List.mem_cons.1 ((h z).1 (List.mem_cons_of_mem _ hz)) with e | e
      · subst e
        exact absurd hz (no ha1)
      · exact e
    · intro hz
      rcases List.mem_cons.1 ((h z).2 (List.mem_cons_of_mem _ hz)) with e | e
      · subst e
        exact absurd hz (no hb1)
      · exact e

theorem insE_nil (e : EventN) : insE [] e = [e] := rfl
theorem insE_cons (y : EventN) (t : List EventN) (e : EventN) : insE (y :: t) e = if lessD y.dot e.dot = true then y :: insE t e else e :: y :: t := by
  unfold insE frontE
  rw [List.findIdx_cons]
  cases h : lessD y.dot e.dot with
  | true => simp
  | false => simp
theorem insE_mem (l : List EventN) (e x : EventN) : x ∈ insE l e ↔ x = e ∨ x ∈ l := by
  have h : x ∈ l ↔ x ∈ l.take (frontE l e.dot) ∨ x ∈ l.drop (frontE l e.dot) := by
    rw [← List.mem_append, List.take_append_drop]
  unfold insE
  rw [List.mem_append, List.mem_cons, h]
  constructor
  · rintro (h | h | h)
    · exact .inr (.inl h)
    · exact .inl h
    · exact .inr (.inr h)
  · rintro (h | h | h)
    · exact .inr (.inl h)
    · exact .inl h
    · exact .inr (.inr h)
theorem insE_length (l : List EventN) (e : EventN) : (insE l e).length = l.length + 1 := by
  have h : l.length = (l.take (frontE l e.dot)).length + (l.drop (frontE l e.dot)).length := by
    rw [← List.length_append, List.take_append_drop]
  unfold insE
  rw [List.length_append, List.length_cons]
  omega
theorem insE_sorted : ∀ {l : List EventN} {e : EventN}, SortedE l → (∀ y ∈ l, y.dot ≠ e.dot) → SortedE (insE l e)
  | [], e, _, _ => List.pairwise_singleton _ _
  | y :: t, e, h, hn => by
    obtain ⟨h1, h2⟩ := List.pairwise_cons.1 h
    rw [insE_cons]
    split
    · rename_i hl
      refine List.pairwise_cons.2 ⟨fun z hz => ?_, insE_sorted h2 fun z hz => hn z (List.mem_cons_of_mem _ hz)⟩
      rcases (insE_mem _ _ _).1 hz with rfl | hz
      · exact hl
      · exact h1 z hz
    · rename_i hl
      have hl2 : lessD e.dot y.dot = true := by
        rw [lessD_total (fun c => hn y (List.mem_cons_self ..) c.symm), Bool.not_eq_true'] 
        simpa using hl
      refine List.pairwise_cons.2 ⟨fun z hz => ?_, h⟩
      rcases List.mem_cons.1 hz with rfl | hz
      · exact hl2
      · exact lessD_trans hl2 (h1 z hz)

/-- A map as events make it. -/
structure OkMp (m : MapN) : Prop where
  ctx : OkV m.ctx
  kept : SortedE m.kept
  dots : ∀ e ∈ m.kept, e.dot.seq ≤ getV m.ctx e.dot.dev e.dot.inc
theorem okMp_none : OkMp MapN.none := ⟨nil_ok, List.Pairwise.nil, fun e h => by cases h⟩

/-- Is an event the next one of its actor? -/
def takesM (m : MapN) (e : EventN) : Prop := rightE e = true ∧ getV m.ctx e.dot.dev e.dot.inc + 1 = e.dot.seq
instance (m : MapN) (e : EventN) : Decidable (takesM m e) := by unfold takesM; infer_instance
def putMp (m : MapN) (e : EventN) : MapN := ⟨setV m.ctx e.dot, insE m.kept e, sortD (m.dead ++ e.over)⟩
theorem apply_is {m : MapN} (e : EventN) (h : m.kept.length < 2048) : (applyM m e).1 = if takesM m e then putMp m e else m := by
  by_cases ht : takesM m e
  · rw [if_pos ht]
    obtain ⟨h1, h2⟩ := ht
    have h3 : ¬ hasV m.ctx e.dot = true := by
      unfold hasV
      rw [Bool.and_eq_true, decide_eq_true_iff]
      omega
    unfold applyM
    rw [if_neg (by rw [h1]; exact Bool.noConfusion), if_neg h3, if_neg (fun c => c h2), if_neg (by omega)]
    rfl
  · rw [if_neg ht]
    unfold applyM
    split
    · rfl
    · rename_i h1
      split
      · rfl
      · split
        · rfl
        · rename_i h2
          exact absurd ⟨by simpa using h1, Classical.not_not.1 h2⟩ ht
theorem apply_len {m : MapN} (e : EventN) : (applyM m e).1.kept.length ≤ m.kept.length + 1 := by
  unfold applyM
  repeat' split
  · exact Nat.le_succ _
  · exact Nat.le_succ _
  · exact Nat.le_succ _
  · exact Nat.le_succ _
  · exact Nat.le_of_eq (insE_length _ _)
theorem put_ok {m : MapN} {e : EventN} (h : OkMp m) (ht : takesM m e) : OkMp (putMp m e) := by
  have hd := right_dotE ht.1
  refine ⟨set_ok h.ctx hd, insE_sorted h.kept fun y hy c => ?_, fun y hy => ?_⟩
  · have := h.dots y hy
    rw [c] at this
    have := ht.2
    omega
  · rw [show (putMp m e).ctx = setV m.ctx e.dot from rfl, getV_set h.ctx.ord]
    rcases (insE_mem _ _ _).1 hy with rfl | hy
    · rw [if_pos ⟨rfl, rfl⟩]
      exact Int.le_refl _
    · have h1 := h.dots y hy
      split
      · rename_i c
        rw [← c.1, ← c.2] at h1
        have := ht.2
        omega
      · exact h1
theorem apply_ok {m : MapN} (e : EventN) (h : OkMp m) (hn : m.kept.length < 2048) : OkMp (applyM m e).1 := by
  rw [apply_is e hn]
  split
  · rename_i ht
    exact put_ok h ht
  · exact h
theorem takes_put {m : MapN} {e f : EventN} (h : OkMp m) (hd : e.dot.dev ≠ f.dot.dev) : takesM (putMp m e) f ↔ takesM m f := by
  unfold takesM
  rw [show (putMp m e).ctx = setV m.ctx e.dot from rfl, getV_set h.ctx.ord, if_neg (fun c => hd c.1)]

/-- Two events of unlike devices, in either order. -/
theorem apply_swap {m : MapN} {e f : EventN} (h : OkMp m) (hn : m.kept.length + 2 ≤ 2048) (hd : e.dot.dev ≠ f.dot.dev) : (applyM (applyM m e).1 f).1 = (applyM (applyM m f).1 e).1 := by
  have l1 := apply_len (m := m) e
  have l2 := apply_len (m := m) f
  rw [apply_is f (by omega), apply_is e (m := (applyM m f).1) (by omega), apply_is e (by omega), apply_is f (m := m) (by omega)]
  by_cases h1 : takesM m e
  · by_cases h2 : takesM m f
    · rw [if_pos h1, if_pos h2, if_pos ((takes_put h hd).2 h2), if_pos ((takes_put h hd.symm).2 h1)]
      have o1 := put_ok (put_ok h h1) ((takes_put h hd).2 h2)
      have o2 := put_ok (put_ok h h2) ((takes_put h hd.symm).2 h1)
      have p1 : OkV (setV m.ctx e.dot) := (put_ok h h1).ctx
      have p2 : OkV (setV m.ctx f.dot) := (put_ok h h2).ctx
      have e1 : (putMp (putMp m e) f).ctx = (putMp (putMp m f) e).ctx := okV_ext o1.ctx o2.ctx fun d i => by
        rw [show (putMp (putMp m e) f).ctx = setV (setV m.ctx e.dot) f.dot from rfl, show (putMp (putMp m f) e).ctx = setV (setV m.ctx f.dot) e.dot from rfl,
          getV_set p1.ord, getV_set p2.ord, getV_set h.ctx.ord, getV_set h.ctx.ord]
        by_cases c : e.dot.dev = d ∧ e.dot.inc = i
        · rw [if_pos c, if_neg (fun c2 => hd (c.1.trans c2.1.symm)), if_pos c]
        · rw [if_neg c, if_neg c]
      have e2 : (putMp (putMp m e) f).kept = (putMp (putMp m f) e).kept := sortedE_unique o1.kept o2.kept fun x => by
        rw [show (putMp (putMp m e) f).kept = insE (insE m.kept e) f from rfl, show (putMp (putMp m f) e).kept = insE (insE m.kept f) e from rfl, insE_mem, insE_mem, insE_mem, insE_mem]
        constructor
        · rintro (h | h | h)
          · exact .inr (.inl h)
          · exact .inl h
          · exact .inr (.inr h)
        · rintro (h | h | h)
          · exact .inr (.inl h)
          · exact .inl h
          · exact .inr (.inr h)
      have e3 : (putMp (putMp m e) f).dead = (putMp (putMp m f) e).dead := by
        refine sorted_unique (sortD_sorted _) (sortD_sorted _) fun x => ?_
        show x ∈ sortD (sortD (m.dead ++ e.over) ++ f.over) ↔ x ∈ sortD (sortD (m.dead ++ f.over) ++ e.over)
        rw [sortD_mem, sortD_mem, List.mem_append, List.mem_append, sortD_mem, sortD_mem, List.mem_append, List.mem_append]
        constructor
        · rintro ((h | h) | h)
          · exact .inl (.inl h)
          · exact .inr h
          · exact .inl (.inr h)
        · rintro ((h | h) | h)
          · exact .inl (.inl h)
          · exact .inr h
          · exact .inl (.inr h)
      have mk : ∀ a b : MapN, a.ctx = b.ctx → a.kept = b.kept → a.dead = b.dead → a = b := fun a b h1 h2 h3 => by cases a; cases b; cases h1; cases h2; cases h3; rfl
      exact mk _ _ e1 e2 e3
    · rw [if_pos h1, if_neg h2, if_neg (fun c => h2 ((takes_put h hd).1 c)), if_pos h1]
  · by_cases h2 : takesM m f
    · rw [if_neg h1, if_pos h2, if_neg (fun c => h1 ((takes_put h hd.symm).1 c))]
    · rw [if_neg h1, if_neg h2, if_neg h1]

def runM (m : MapN) (l : List EventN) : MapN := l.foldl (fun m e => (applyM m e).1) m
theorem run_move (x : EventN) : ∀ (A B : List EventN) (m : MapN), OkMp m → m.kept.length + A.length + 1 ≤ 2048 → (∀ a ∈ A, a.dot.dev ≠ x.dot.dev) → runM m (A ++ x :: B) = runM m (x :: A ++ B)
  | [], B, m, _, _, _ => rfl
  | a :: A, B, m, h, hn, hd => by
    rw [List.length_cons] at hn
    have l1 := apply_len (m := m) a
    have ih := run_move x A B (applyM m a).1 (apply_ok a h (by omega)) (by omega) fun y hy => hd y (List.mem_cons_of_mem _ hy)
    have sw := apply_swap (e := a) (f := x) h (by omega) (hd a (List.mem_cons_self ..))
    show runM (applyM m a).1 (A ++ x :: B) = runM (applyM (applyM m x).1 a).1 (A ++ B)
    rw [ih, ← sw]
    rfl
/-- One device's events ahead of all others, or behind them. -/
theorem run_split (p : EventN → Bool) (hp : ∀ a b, p a ≠ p b → a.dot.dev ≠ b.dot.dev) : ∀ (l : List EventN) (m : MapN), OkMp m → m.kept.length + l.length ≤ 2048 → runM m (l.filter p ++ l.filter fun e => !p e) = runM m l
  | [], m, _, _ => rfl
  | x :: t, m, h, hn => by
    rw [List.length_cons] at hn
    have l1 := apply_len (m := m) x
    have ih := run_split p hp t (applyM m x).1 (apply_ok x h (by omega)) (by omega)
    cases hx : p x with
    | true =>
      rw [List.filter_cons_of_pos hx, List.filter_cons_of_neg (by rw [hx]; exact Bool.noConfusion)]
      exact ih
    | false =>
      rw [List.filter_cons_of_neg (by rw [hx]; exact Bool.noConfusion), List.filter_cons_of_pos (by rw [hx]; rfl)]
      rw [run_move x _ _ m h (by have := List.length_filter_le p t; omega) fun a ha => hp a x (by rw [(List.mem_filter.1 ha).2, hx]; exact Bool.noConfusion)]
      exact ih
theorem fold_split (p : EventN → Bool) (hp : ∀ a b, p a ≠ p b → a.dot.dev ≠ b.dot.dev) (l : List EventN) (hn : l.length ≤ 2048) : foldM (l.filter p ++ l.filter fun e => !p e) = foldM l :=
  run_split p hp l MapN.none okMp_none (by simpa [MapN.none] using hn)
end Go.Proofs.YtelgaglnmcggkaaGreatDoor

/- Rows of events: of each its cells, and where its dots lie. No program in it. -/
namespace Go.Proofs.YtelgaglnmcggkaaGreatDoor
open Go.RowKit
set_option linter.unusedVariables false
set_option linter.unusedSimpArgs false

/-- An event in memory: where its dots lie. -/
structure EvR where
  e : EventN
  a : Option Addr
  c : Nat
instance : Inhabited EvR := ⟨⟨⟨⟨0, 0, 0⟩, ⟨0, 0, 0⟩, 0, ItemL.none, []⟩, none, 0⟩⟩
def encE (r : EvR) : List Value := [.int .i64 r.e.dot.dev, .int .i64 r.e.dot.inc, .int .i64 r.e.dot.seq, .int .i64 r.e.stamp.wall, .int .i64 r.e.stamp.count, .int .i64 r.e.stamp.dev, .int .i64 r.e.kind, .string (str r.e.item.name), .string (str r.e.item.dom), .string (str r.e.item.path), .string (str r.e.item.val), .bool r.e.item.host, .bool r.e.item.sec, .bool r.e.item.http, .bool r.e.item.pers, .int .i64 r.e.item.exp, .int .i64 r.e.item.made, .int .i64 r.e.item.used, .slice r.a r.e.over.length r.c]
theorem encE_len (r : EvR) : (encE r).length = 19 := rfl
theorem encE_one (r : EvR) : ∀ u ∈ encE r, u.oneCell' = true := by
  have h : (encE r).all (·.oneCell') = true := rfl
  exact fun u hu => List.all_eq_true.1 h u hu

/-- Each event's dots lie where its cells say. -/
def OversAt (w : World) (P : List EvR) : Prop := ∀ r ∈ P, RowOf encD 3 w r.a r.e.over.length r.c r.e.over
theorem OversAt.below {w w' : World} {P : List EvR} (h : OversAt w P) (hb : Below w.heap.size w w') : OversAt w' P := fun r hr => (h r hr).below hb
theorem OversAt.nil (w : World) : OversAt w [] := fun r hr => absurd hr List.not_mem_nil
theorem OversAt.app {w : World} {P Q : List EvR} (h : OversAt w P) (k : OversAt w Q) : OversAt w (P ++ Q) := fun r hr => (List.mem_append.1 hr).elim (h r) (k r)

/-- A slice of events that is read. -/
structure RowE (w : World) (a : Option Addr) (n c : Nat) (L : List EventN) : Prop where
  ex : ∃ P : List EvR, P.map (·.e) = L ∧ RowOf encE 19 w a n c P ∧ OversAt w P
theorem RowE.below {w w' : World} {a : Option Addr} {n c : Nat} {L : List EventN} (h : RowE w a n c L) (hb : Below w.heap.size w w') : RowE w' a n c L := by
  obtain ⟨P, h1, h2, h3⟩ := h
  exact ⟨P, h1, h2.below hb, h3.below hb⟩
theorem RowE.leq {w : World} {a : Option Addr} {n c : Nat} {L : List EventN} (h : RowE w a n c L) : L.length = n := by
  obtain ⟨P, h1, h2, h3⟩ := h
  rw [← h1, List.length_map]
  exact h2.leq
/-- The k-th event: its cells, its dots. -/
theorem ev_at0 {w : World} {a : Option Addr} {n c : Nat} {L : List EventN} (h : RowE w a n c L) (k : Nat) (hk : k < n) :
    ∃ (r : EvR) (g off : Nat), L[k]? = some r.e ∧ a = some ⟨g, off, none⟩ ∧ (∀ (j : Nat) (v : Value), (encE r)[j]? = some v → w.cell? ⟨g, off + k * 19 + j, none⟩ = some v) ∧ RowOf encD 3 w r.a r.e.over.length r.c r.e.over := by
  obtain ⟨P, h1, h2, h3⟩ := h
  obtain ⟨x, g, off, e1, e2, e3⟩ := h2.at k hk
  refine ⟨x, g, off, ?_, e2, e3, h3 x (List.mem_of_getElem? e1)⟩
  rw [← h1, List.getElem?_map, e1]
  rfl
/-- The same, the event's cells as one letter. -/
theorem ev_at {w : World} {a : Option Addr} {n c : Nat} {L : List EventN} (h : RowE w a n c L) (k : Nat) (hk : k < n) :
    ∃ (r : EvR) (g off : Nat) (A : Array Value), L[k]? = some r.e ∧ a = some ⟨g, off, none⟩ ∧ (encE r).toArray = A ∧ CellsAt w g (off + k * 19) A.toList ∧ RowOf encD 3 w r.a r.e.over.length r.c r.e.over ∧
      ∀ w', Below w.heap.size w w' → CellsAt w' g (off + k * 19) A.toList := by
  obtain ⟨r, g, off, h1, h2, h3, h4⟩ := ev_at0 h k hk
  refine ⟨r, g, off, _, h1, h2, rfl, fun j v hv => h3 j v (by simpa using hv), h4, fun w' hb j v hv => ?_⟩
  have hc := h3 j v (by simpa using hv)
  exact (hb.cell (p := ⟨g, off + k * 19 + j, none⟩) (cell_lt hc)).trans hc
theorem encE_size (r : EvR) : (encE r).toArray.size = 19 := rfl

end Go.Proofs.YtelgaglnmcggkaaGreatDoor

/- Contracts of the reference of layer 20 over lists of events: the same, short enough. -/
namespace Go.Proofs.YtelgaglnmcggkaaGreatDoor
open Go.RowKit
set_option linter.unusedVariables false
set_option linter.unusedSimpArgs false

end Go.Proofs.YtelgaglnmcggkaaGreatDoor

/- Contracts of the reference of layer 21: the place of a kept event. -/
namespace Go.Proofs.YtelgaglnmcggkaaGreatDoor
open Go.RowKit
set_option linter.unusedVariables false
set_option linter.unusedSimpArgs false

end Go.Proofs.YtelgaglnmcggkaaGreatDoor

/- Contracts of the reference of layer 21: the alive Puts. -/
namespace Go.Proofs.YtelgaglnmcggkaaGreatDoor
open Go.RowKit
set_option linter.unusedVariables false
set_option linter.unusedSimpArgs false

theorem infoEvent : (Tryz.prog.info? 43).map (fun i => (i.zero, i.size, i.bytes)) = some (some (.agg #[.int .i64 0, .int .i64 0, .int .i64 0, .int .i64 0, .int .i64 0, .int .i64 0, .int .i64 0, .string ⟨#[]⟩, .string ⟨#[]⟩, .string ⟨#[]⟩, .string ⟨#[]⟩, .bool false, .bool false, .bool false, .bool false, .int .i64 0, .int .i64 0, .int .i64 0, .slice none 0 0]), 19, 176) := by kernel_rfl

/-- A map whose events are told with where their dots lie. -/
structure MapR where
  ctx : List DotN
  kept : List EvR
  dead : List DotN
def MapR.plain (m : MapR) : MapN := ⟨m.ctx, m.kept.map (·.e), m.dead⟩
def aliveR (m : MapR) : List EvR := m.kept.filter fun r => r.e.kind == 1 && !hasD m.dead r.e.dot
theorem alive_map (m : MapR) : (aliveR m).map (·.e) = aliveM m.plain := by
  unfold aliveR aliveM MapR.plain
  rw [List.filter_map]
  rfl
theorem alive_few (m : MapR) : (aliveR m).length ≤ m.kept.length := List.length_filter_le _ _

/-- Where a map's lists lie. -/
structure RowM (w : World) (ac : Option Addr) (nc cc : Nat) (ak : Option Addr) (nk ck : Nat) (ad : Option Addr) (nd cd : Nat) (m : MapR) : Prop where
  ctx : RowOf encD 3 w ac nc cc m.ctx
  kept : RowOf encE 19 w ak nk ck m.kept
  dead : RowOf encD 3 w ad nd cd m.dead
theorem RowM.below {w w' : World} {ac ak ad : Option Addr} {nc cc nk ck nd cd : Nat} {m : MapR} (h : RowM w ac nc cc ak nk ck ad nd cd m) (hb : Below w.heap.size w w') : RowM w' ac nc cc ak nk ck ad nd cd m :=
  ⟨h.ctx.below hb, h.kept.below hb, h.dead.below hb⟩

end Go.Proofs.YtelgaglnmcggkaaGreatDoor

/- Contracts of the reference of layer 21: the alive Puts of a key. -/
namespace Go.Proofs.YtelgaglnmcggkaaGreatDoor
open Go.RowKit
set_option linter.unusedVariables false
set_option linter.unusedSimpArgs false

def keyR (m : MapR) (x : ItemL) : List EvR := (aliveR m).filter fun r => sameKey r.e.item x
theorem key_map (m : MapR) (x : ItemL) : (keyR m x).map (·.e) = keyM m.plain x := by
  unfold keyR keyM
  rw [← alive_map, List.filter_map]
  rfl

end Go.Proofs.YtelgaglnmcggkaaGreatDoor

/- Contracts of the reference of layer 21: an event more, by dots. -/
namespace Go.Proofs.YtelgaglnmcggkaaGreatDoor
open Go.RowKit
set_option linter.unusedVariables false
set_option linter.unusedSimpArgs false

def frontR (l : List EvR) (d : DotN) : Nat := l.findIdx fun y => !lessD y.e.dot d
def insR (l : List EvR) (r : EvR) : List EvR := l.take (frontR l r.e.dot) ++ r :: l.drop (frontR l r.e.dot)
theorem ins_map (l : List EvR) (r : EvR) : (insR l r).map (·.e) = insE (l.map (·.e)) r.e := by
  have h : frontE (l.map (·.e)) r.e.dot = frontR l r.e.dot := by unfold frontE frontR; rw [List.findIdx_map]; rfl
  unfold insR insE
  rw [h, List.map_append, List.map_cons, List.map_take, List.map_drop]
theorem frontR_is {l : List EvR} {d : DotN} {K : Nat} (h : ∀ (j : Nat) (y : EvR), j < K → l[j]? = some y → lessD y.e.dot d = true) (hK : K ≤ l.length) (hs : K = l.length ∨ ∃ y, l[K]? = some y ∧ lessD y.e.dot d = false) : frontR l d = K := by
  unfold frontR
  rcases hs with rfl | ⟨y, hy, hl⟩
  · rw [List.findIdx_eq_length]
    intro x hx
    obtain ⟨j, hj, e⟩ := List.getElem_of_mem hx
    have := h j x hj (by rw [List.getElem?_eq_getElem hj, e])
    simp [this]
  · obtain ⟨hlt, e⟩ := List.getElem?_eq_some_iff.1 hy
    rw [List.findIdx_eq hlt]
    refine ⟨by rw [e]; simp [hl], fun j hj => ?_⟩
    have := h j _ hj (List.getElem?_eq_getElem (by omega))
    simp [this]

end Go.Proofs.YtelgaglnmcggkaaGreatDoor

/- Contracts of the reference of layer 21: an event forgotten. -/
namespace Go.Proofs.YtelgaglnmcggkaaGreatDoor
open Go.RowKit
set_option linter.unusedVariables false
set_option linter.unusedSimpArgs false

/-- The rows of a map lie where those of another one lay, or in new blocks. -/
def LieIn (bc bk bd : Option Addr) (w w' : World) (ac ak ad : Option Addr) : Prop := ∀ k, (At ac k ∨ At ak k ∨ At ad k) → (At bc k ∨ At bk k ∨ At bd k) ∨ (w.heap.size ≤ k ∧ k < w'.heap.size)
theorem LieIn.same {w w' : World} {ac ak ad : Option Addr} : LieIn ac ak ad w w' ac ak ad := fun k h => .inl h
theorem LieIn.kept {w w' : World} {ac ak ad q : Option Addr} (h : ∀ k, At q k → w.heap.size ≤ k ∧ k < w'.heap.size) : LieIn ac ak ad w w' ac q ad := fun k hk => hk.elim (fun h1 => .inl (.inl h1)) fun hk => hk.elim (fun h1 => .inr (h k h1)) (fun h1 => .inl (.inr (.inr h1)))
theorem LieIn.dead {w w' : World} {ac ak ad q : Option Addr} (h : ∀ k, At q k → w.heap.size ≤ k ∧ k < w'.heap.size) : LieIn ac ak ad w w' ac ak q := fun k hk => hk.elim (fun h1 => .inl (.inl h1)) fun hk => hk.elim (fun h1 => .inl (.inr (.inl h1))) (fun h1 => .inr (h k h1))
theorem LieIn.news {w w' : World} {bc bk bd ac ak ad : Option Addr} (h1 : ∀ k, At ac k → w.heap.size ≤ k ∧ k < w'.heap.size) (h2 : ∀ k, At ak k → w.heap.size ≤ k ∧ k < w'.heap.size) (h3 : ∀ k, At ad k → w.heap.size ≤ k ∧ k < w'.heap.size) : LieIn bc bk bd w w' ac ak ad := fun k hk => .inr (hk.elim (h1 k) fun hk => hk.elim (h2 k) (h3 k))

end Go.Proofs.YtelgaglnmcggkaaGreatDoor

/- Contracts of the reference of layer 21: an event's Over left out. -/
namespace Go.Proofs.YtelgaglnmcggkaaGreatDoor
open Go.RowKit
set_option linter.unusedVariables false
set_option linter.unusedSimpArgs false

end Go.Proofs.YtelgaglnmcggkaaGreatDoor

/- Contracts of the reference of layer 21: a dead dot cleared. -/
namespace Go.Proofs.YtelgaglnmcggkaaGreatDoor
open Go.RowKit
set_option linter.unusedVariables false
set_option linter.unusedSimpArgs false

end Go.Proofs.YtelgaglnmcggkaaGreatDoor

/- Rows of steps: of each its kind and its event's cells. No program in it. -/
namespace Go.Proofs.YtelgaglnmcggkaaGreatDoor
open Go.RowKit
set_option linter.unusedVariables false
set_option linter.unusedSimpArgs false

/-- A step in memory. -/
structure StepR where
  kind : Int
  r : EvR
instance : Inhabited StepR := ⟨⟨0, default⟩⟩
def encS (s : StepR) : List Value := .int .i64 s.kind :: encE s.r
theorem encS_len (s : StepR) : (encS s).length = 20 := rfl
theorem encS_one (s : StepR) : ∀ u ∈ encS s, u.oneCell' = true := by
  have h : (encS s).all (·.oneCell') = true := rfl
  exact fun u hu => List.all_eq_true.1 h u hu

end Go.Proofs.YtelgaglnmcggkaaGreatDoor

/- What layer 21's program puts into its maps. -/
namespace Go.Proofs.YtelgaglnmcggkaaGreatDoor
open Go.RowKit
set_option linter.unusedVariables false
set_option linter.unusedSimpArgs false

/-- A map, nil or not. -/
def MapC {H : Type} (w : World) (K : TypeId) (R : Value → Option (DataW H × List MemPlace)) (mv : Option Nat) (D : DataW H) : Prop :=
  (mv = none ∧ D = .map []) ∨ ∃ b n, mv = some b ∧ w.ownsMap Tryz.prog K R b n D
/-- Behind a put: the map stands at its place, it holds D'. -/
def PutTo {H : Type} (p j : Nat) (vs : List Value) (mv : Option Nat) (K : TypeId) (R : Value → Option (DataW H × List MemPlace)) (D' : DataW H) (w w' : World) : Prop :=
  ∃ b n, ObjAt w' p (vs.set j (.map (some b))) ∧ w'.ownsMap Tryz.prog K R b n D' ∧ Keeps (fun k => k = p ∨ mv = some k) w w' ∧ (mv = some b ∨ (mv = none ∧ w.heap.size ≤ b))

set_option maxRecDepth 100000 in
set_option maxHeartbeats 2000000 in
/-- An event put to its dot. -/
theorem putEvC (p j : Nat) (vs : List Value) (mv : Option Nat) (D : DataW Value) (x : DotN) (A : Array Value) (w : World) (hx : FitD x) (zA : A.size = 19) (ho : ObjAt w p vs) (hj : vs[j]? = some (.map mv)) (hm : MapC w 35 heldElem mv D) (hn : Go.Maps.size D < 100000000) :
    Calls Tryz.prog 97 #[.pointer (some ⟨p, j, none⟩), .agg #[.int .i64 x.dev, .int .i64 x.inc, .int .i64 x.seq], .agg A] w fun e w' => e = .returned (.tuple #[]) ∧ PutTo p j vs mv 35 heldElem (D.put (keyD x) (.held (.agg A))) w w' := by
  have hkey := key_dot hx
  have hjl := (List.getElem?_eq_some_iff.1 hj).1
  have hpl := ho.lt
  obtain ⟨o1, oA, b0⟩ := two_objs w #[.int .i64 x.dev, .int .i64 x.inc, .int .i64 x.seq] A 35 43
  have ho2 := ho.below b0 ho.lt
  have hs2 : w.heap.size + 2 = ((w.alloc (.cells #[.int .i64 x.dev, .int .i64 x.inc, .int .i64 x.seq] 35)).alloc (.cells A 43)).heap.size := by simp
  generalize hw2 : (w.alloc (.cells #[.int .i64 x.dev, .int .i64 x.inc, .int .i64 x.seq] 35)).alloc (.cells A 43) = w2 at *
  have hmm := @run_makeMap Tryz.prog
  have kn := fun w r => Go.run_eql_map_nil (P := Tryz.prog) w 86 35 43 r Tryz.underlying86
  have c0 := ho2.cell j hj
  rcases hm with ⟨rfl, rfl⟩ | ⟨b0', n0, rfl, hm⟩
  · have b4 := below_alloc w2 (.map #[] 0)
    have q4 := ho2.below b4 ho2.lt
    have o4 := o1.below b4 o1.lt
    have hl4 := q4.lt
    have oA4 := oA.below b4 oA.lt
    have y4 := q4.cell j hj
    have g4 := q4.free j
    go_enter Tryz.func97, Tryz.ntmps97
    go_wp2
    have q5 := q4.set j (.map (some w2.heap.size))
    have o5 := o4.other (p := ⟨p, j, none⟩) (by show p ≠ w.heap.size; omega) (.map (some w2.heap.size))
    have oA5 := oA4.other (p := ⟨p, j, none⟩) (by show p ≠ w.heap.size + 1; omega) (.map (some w2.heap.size))
    have hM := (World.ownsMap_made (H := Value) w2 Tryz.prog 35 heldElem).setCell (a := ⟨p, j, none⟩) (fun e => by have := ho2.lt; have e2 : w2.heap.size = p := e; omega) (.map (some w2.heap.size))
    have k5 : Keeps (fun k => k = p ∨ (none : Option Nat) = some k) w ((w2.alloc (.map #[] 0)).setCell ⟨p, j, none⟩ (.map (some w2.heap.size))) := (Keeps.new (b0.trans (b4.mono b0.size))).setCell (.inl rfl) _
    have hj5 : (vs.set j (.map (some w2.heap.size)))[j]? = some (.map (some w2.heap.size)) := List.getElem?_set_self hjl
    have hnb : w2.heap.size ≠ p := by omega
    have hnk : w2.heap.size ≠ w.heap.size := by omega
    have hnA : w2.heap.size ≠ w.heap.size + 1 := by omega
    clear q4 o4 y4 g4 ho2 o1 c0 b4 oA4 oA ho
    generalize (w2.alloc (.map #[] 0)).setCell ⟨p, j, none⟩ (.map (some w2.heap.size)) = w5 at *
    refine wp_region_held_drew (S := fun w' => w'.cell? ⟨p, j, none⟩ = some (.map (some w2.heap.size)) ∧ w'.cell? ⟨w.heap.size, 0, none⟩ = some (.int .i64 x.dev) ∧ w'.cell? ⟨w.heap.size, 1, none⟩ = some (.int .i64 x.inc) ∧ w'.cell? ⟨w.heap.size, 2, none⟩ = some (.int .i64 x.seq) ∧ ObjAt w' (w.heap.size + 1) A.toList) (by kernel_rfl) (⟨q5.drew.cell j hj5, o5.drew.cell 0 rfl, o5.drew.cell 1 rfl, o5.drew.cell 2 rfl, oA5.drew⟩) (fun hHeld => ?_)
    first
      | (refine wpAnyH_take (i := 0) rfl (by kernel_rfl) (by kernel_rfl) (by kernel_rfl) (fun _ _ _ h => h) (Or.inr ⟨by rfl, rfl⟩) (by assumption) ?_)
      | (refine wpAnyH_take (i := 0) (v := ?vb1) rfl (by kernel_rfl) (by kernel_rfl) (by kernel_rfl) (fun _ _ _ h => h) (Or.inl ⟨by rfl, ?hyb1⟩) (by assumption) ?rb1; case hyb1 => (rintro w' hS; obtain ⟨hs0, hs1, hs2, hs3, hs4⟩ := hS; go_simp; try with_reducible rfl))
    try simp only [List.getElem_toArray, List.getElem_cons_zero, Act.put, List.setIfInBounds_toArray, List.set_cons_zero, List.set_cons_succ]
    first
      | (refine wpAnyH_take (i := 1) rfl (by kernel_rfl) (by kernel_rfl) (by kernel_rfl) (fun _ _ _ h => h) (Or.inr ⟨by rfl, rfl⟩) (by assumption) ?_)
      | (refine wpAnyH_take (i := 1) (v := ?vb2) rfl (by kernel_rfl) (by kernel_rfl) (by kernel_rfl) (fun _ _ _ h => h) (Or.inl ⟨by rfl, ?hyb2⟩) (by assumption) ?rb2; case hyb2 => (rintro w' hS; obtain ⟨hs0, hs1, hs2, hs3, hs4⟩ := hS; go_simp; try with_reducible rfl))
    try simp only [List.getElem_toArray, List.getElem_cons_zero, List.getElem_cons_succ, Act.put, List.setIfInBounds_toArray, List.set_cons_zero, List.set_cons_succ]
    first
      | (refine wpAnyH_take (i := 2) rfl (by kernel_rfl) (by kernel_rfl) (by kernel_rfl) (fun _ _ _ h => h) (Or.inr ⟨by rfl, rfl⟩) (by assumption) ?_)
      | (refine wpAnyH_take (i := 2) (v := ?vb3) rfl (by kernel_rfl) (by kernel_rfl) (by kernel_rfl) (fun _ _ _ h => h) (Or.inl ⟨by rfl, ?hyb3⟩) (by assumption) ?rb3; case hyb3 => (rintro w' hS; obtain ⟨hs0, hs1, hs2, hs3, hs4⟩ := hS; go_simp; try with_reducible rfl))
    try simp only [List.getElem_toArray, List.getElem_cons_zero, List.getElem_cons_succ, Act.put, List.setIfInBounds_toArray, List.set_cons_zero, List.set_cons_succ]
    first
      | (refine wpAnyH_take (i := 3) rfl (by kernel_rfl) (by kernel_rfl) (by kernel_rfl) (fun _ _ _ h => h) (Or.inr ⟨by rfl, rfl⟩) (by assumption) ?_)
      | (refine wpAnyH_take (i := 3) (v := ?vb4) rfl (by kernel_rfl) (by kernel_rfl) (by kernel_rfl) (fun _ _ _ h => h) (Or.inl ⟨by rfl, ?hyb4⟩) (by assumption) ?rb4; case hyb4 => (rintro w' hS; obtain ⟨hs0, hs1, hs2, hs3, hs4⟩ := hS; go_simp; try with_reducible rfl))
    try simp only [List.getElem_toArray, List.getElem_cons_zero, List.getElem_cons_succ, Act.put, List.setIfInBounds_toArray, List.set_cons_zero, List.set_cons_succ]
    refine wpAnyH_take (i := 4) rfl (by kernel_rfl) (by kernel_rfl) (by kernel_rfl) (fun _ _ _ h => h) (Or.inl ⟨by rfl, fun w' hS => (by obtain ⟨hs0, hs1, hs2, hs3, hs4⟩ := hS; exact execLoadAll 43 _ rfl (w.heap.size + 1) 19 A rfl hs4 Tryz.isAgg43 Tryz.sizeOf43 zA)⟩) (by assumption) ?_
    try simp only [List.getElem_toArray, List.getElem_cons_zero, List.getElem_cons_succ, Act.put, List.setIfInBounds_toArray, List.set_cons_zero, List.set_cons_succ]
    refine wpAnyH_ready (rs := [5]) (by kernel_rfl) (by simp) ?_
    refine AllReadyH.cons (o := _) rfl (fun K hK => ?_) AllReadyH.nil
    refine step_mapUpdate (by rfl) (.tmp 15) (.tmp 16) (.tmp 17) 86 (by rfl) 35 43 keyedDot Tryz.underlying86 heldElem w2.heap.size _ _ rfl hM.drew (by have := ownsMap_tight hM; first | omega | (unfold maxLen; omega)) _ _ _ rfl rfl hkey _ _ held_store ?_; intro w9 hM9 hk9; have q9 := q5.drew.keeps hk9 (fun e => hnb e.symm); have k9 := o5.drew.keeps hk9 (fun e => hnk e.symm); have oA9 := oA5.drew.keeps hk9 (fun e => hnA e.symm)
    try dsimp only
    refine hK.out _ _ (⟨q9.cell j hj5, k9.cell 0 rfl, k9.cell 1 rfl, k9.cell 2 rfl, oA9⟩) (fun hHeld => ?_)
    clear hK K
    try simp only [List.getElem_toArray, List.getElem_cons_zero, List.getElem_cons_succ, Act.put, List.setIfInBounds_toArray, List.set_cons_zero, List.set_cons_succ]
    refine wpAnyH_done (by kernel_rfl) ?_ _
    go_wp2
    go_end0
    have kd : Keeps (fun k => k = p ∨ (none : Option Nat) = some k) w5 w5.drew := Keeps.new (Below.refl _ _).drew
    exact ⟨rfl, _, _, q9, hM9, (k5.trans kd (fun _ _ h => h)).trans hk9 (fun k hk e => by subst e; omega), .inr ⟨rfl, by omega⟩⟩
  · have hne := obj_not_map ho hm
    have hM0 := (Keeps.new (F := fun _ => False) b0).grownBy (b := b0') (fun h => h) hm
    have hlb := hm.lt
    have hsz := hM0.size_le
    go_enter Tryz.func97, Tryz.ntmps97
    go_wp2_with fail
    have q5 := ho2
    have o5 := o1
    have oA5 := oA
    have hM := ownsMap_tight hM0
    have hj5 := hj
    have hnb : b0' ≠ p := hne
    have hnk : b0' ≠ w.heap.size := by omega
    have hnA : b0' ≠ w.heap.size + 1 := by omega
    refine wp_region_held_drew (S := fun w' => w'.cell? ⟨p, j, none⟩ = some (.map (some b0')) ∧ w'.cell? ⟨w.heap.size, 0, none⟩ = some (.int .i64 x.dev) ∧ w'.cell? ⟨w.heap.size, 1, none⟩ = some (.int .i64 x.inc) ∧ w'.cell? ⟨w.heap.size, 2, none⟩ = some (.int .i64 x.seq) ∧ ObjAt w' (w.heap.size + 1) A.toList) (by kernel_rfl) (⟨q5.drew.cell j hj5, o5.drew.cell 0 rfl, o5.drew.cell 1 rfl, o5.drew.cell 2 rfl, oA5.drew⟩) (fun hHeld => ?_)
    first
      | (refine wpAnyH_take (i := 0) rfl (by kernel_rfl) (by kernel_rfl) (by kernel_rfl) (fun _ _ _ h => h) (Or.inr ⟨by rfl, rfl⟩) (by assumption) ?_)
      | (refine wpAnyH_take (i := 0) (v := ?vb5) rfl (by kernel_rfl) (by kernel_rfl) (by kernel_rfl) (fun _ _ _ h => h) (Or.inl ⟨by rfl, ?hyb5⟩) (by assumption) ?rb5; case hyb5 => (rintro w' hS; obtain ⟨hs0, hs1, hs2, hs3, hs4⟩ := hS; go_simp; try with_reducible rfl))
    try simp only [List.getElem_toArray, List.getElem_cons_zero, Act.put, List.setIfInBounds_toArray, List.set_cons_zero, List.set_cons_succ]
    first
      | (refine wpAnyH_take (i := 1) rfl (by kernel_rfl) (by kernel_rfl) (by kernel_rfl) (fun _ _ _ h => h) (Or.inr ⟨by rfl, rfl⟩) (by assumption) ?_)
      | (refine wpAnyH_take (i := 1) (v := ?vb6) rfl (by kernel_rfl) (by kernel_rfl) (by kernel_rfl) (fun _ _ _ h => h) (Or.inl ⟨by rfl, ?hyb6⟩) (by assumption) ?rb6; case hyb6 => (rintro w' hS; obtain ⟨hs0, hs1, hs2, hs3, hs4⟩ := hS; go_simp; try with_reducible rfl))
    try simp only [List.getElem_toArray, List.getElem_cons_zero, List.getElem_cons_succ, Act.put, List.setIfInBounds_toArray, List.set_cons_zero, List.set_cons_succ]
    first
      | (refine wpAnyH_take (i := 2) rfl (by kernel_rfl) (by kernel_rfl) (by kernel_rfl) (fun _ _ _ h => h) (Or.inr ⟨by rfl, rfl⟩) (by assumption) ?_)
      | (refine wpAnyH_take (i := 2) (v := ?vb7) rfl (by kernel_rfl) (by kernel_rfl) (by kernel_rfl) (fun _ _ _ h => h) (Or.inl ⟨by rfl, ?hyb7⟩) (by assumption) ?rb7; case hyb7 => (rintro w' hS; obtain ⟨hs0, hs1, hs2, hs3, hs4⟩ := hS; go_simp; try with_reducible rfl))
    try simp only [List.getElem_toArray, List.getElem_cons_zero, List.getElem_cons_succ, Act.put, List.setIfInBounds_toArray, List.set_cons_zero, List.set_cons_succ]
    first
      | (refine wpAnyH_take (i := 3) rfl (by kernel_rfl) (by kernel_rfl) (by kernel_rfl) (fun _ _ _ h => h) (Or.inr ⟨by rfl, rfl⟩) (by assumption) ?_)
      | (refine wpAnyH_take (i := 3) (v := ?vb8) rfl (by kernel_rfl) (by kernel_rfl) (by kernel_rfl) (fun _ _ _ h => h) (Or.inl ⟨by rfl, ?hyb8⟩) (by assumption) ?rb8; case hyb8 => (rintro w' hS; obtain ⟨hs0, hs1, hs2, hs3, hs4⟩ := hS; go_simp; try with_reducible rfl))
    try simp only [List.getElem_toArray, List.getElem_cons_zero, List.getElem_cons_succ, Act.put, List.setIfInBounds_toArray, List.set_cons_zero, List.set_cons_succ]
    refine wpAnyH_take (i := 4) rfl (by kernel_rfl) (by kernel_rfl) (by kernel_rfl) (fun _ _ _ h => h) (Or.inl ⟨by rfl, fun w' hS => (by obtain ⟨hs0, hs1, hs2, hs3, hs4⟩ := hS; exact execLoadAll 43 _ rfl (w.heap.size + 1) 19 A rfl hs4 Tryz.isAgg43 Tryz.sizeOf43 zA)⟩) (by assumption) ?_
    try simp only [List.getElem_toArray, List.getElem_cons_zero, List.getElem_cons_succ, Act.put, List.setIfInBounds_toArray, List.set_cons_zero, List.set_cons_succ]
    refine wpAnyH_ready (rs := [5]) (by kernel_rfl) (by simp) ?_
    refine AllReadyH.cons (o := _) rfl (fun K hK => ?_) AllReadyH.nil
    refine step_mapUpdate (by rfl) (.tmp 15) (.tmp 16) (.tmp 17) 86 (by rfl) 35 43 keyedDot Tryz.underlying86 heldElem b0' _ _ rfl hM.drew (by have := ownsMap_tight hM; first | omega | (unfold maxLen; omega)) _ _ _ rfl rfl hkey _ _ held_store ?_; intro w9 hM9 hk9; have q9 := q5.drew.keeps hk9 (fun e => hnb e.symm); have k9 := o5.drew.keeps hk9 (fun e => hnk e.symm); have oA9 := oA5.drew.keeps hk9 (fun e => hnA e.symm)
    try dsimp only
    refine hK.out _ _ (⟨q9.cell j hj5, k9.cell 0 rfl, k9.cell 1 rfl, k9.cell 2 rfl, oA9⟩) (fun hHeld => ?_)
    clear hK K
    try simp only [List.getElem_toArray, List.getElem_cons_zero, List.getElem_cons_succ, Act.put, List.setIfInBounds_toArray, List.set_cons_zero, List.set_cons_succ]
    refine wpAnyH_done (by kernel_rfl) ?_ _
    go_wp2
    go_end0
    have kd : Keeps (fun k => k = p ∨ some b0' = some k) w2 w2.drew := Keeps.new (Below.refl _ _).drew
    exact ⟨rfl, b0', _, by rw [set_as hj]; exact q9, hM9, ((Keeps.new b0).trans kd (fun _ _ h => h)).trans hk9 (fun k hk e => .inr (by rw [e])), .inl rfl⟩

set_option maxRecDepth 100000 in
set_option maxHeartbeats 2000000 in
/-- A dot put into a set. -/
theorem putSetC (p j : Nat) (vs : List Value) (mv : Option Nat) (D : DataW Unit) (x : DotN) (w : World) (hx : FitD x) (ho : ObjAt w p vs) (hj : vs[j]? = some (.map mv)) (hm : MapC w 35 unitElem mv D) (hn : Go.Maps.size D < 100000000) :
    Calls Tryz.prog 99 #[.pointer (some ⟨p, j, none⟩), .agg #[.int .i64 x.dev, .int .i64 x.inc, .int .i64 x.seq], .agg #[]] w fun e w' => e = .returned (.tuple #[]) ∧ PutTo p j vs mv 35 unitElem (D.put (keyD x) (.agg [])) w w' := by
  have hkey := key_dot hx
  have hjl := (List.getElem?_eq_some_iff.1 hj).1
  have hpl := ho.lt
  obtain ⟨o1, oA, b0⟩ := two_objs w #[.int .i64 x.dev, .int .i64 x.inc, .int .i64 x.seq] #[] 35 107
  have ho2 := ho.below b0 ho.lt
  have hs2 : w.heap.size + 2 = ((w.alloc (.cells #[.int .i64 x.dev, .int .i64 x.inc, .int .i64 x.seq] 35)).alloc (.cells #[] 107)).heap.size := by simp
  generalize hw2 : (w.alloc (.cells #[.int .i64 x.dev, .int .i64 x.inc, .int .i64 x.seq] 35)).alloc (.cells #[] 107) = w2 at *
  have hmm := @run_makeMap Tryz.prog
  have kn := fun w r => Go.run_eql_map_nil (P := Tryz.prog) w 87 35 107 r Tryz.underlying87
  have c0 := ho2.cell j hj
  rcases hm with ⟨rfl, rfl⟩ | ⟨b0', n0, rfl, hm⟩
  · have b4 := below_alloc w2 (.map #[] 0)
    have q4 := ho2.below b4 ho2.lt
    have o4 := o1.below b4 o1.lt
    have hl4 := q4.lt
    have oA4 := oA.below b4 oA.lt
    have y4 := q4.cell j hj
    have g4 := q4.free j
    go_enter Tryz.func99, Tryz.ntmps99
    go_wp2
    have q5 := q4.set j (.map (some w2.heap.size))
    have o5 := o4.other (p := ⟨p, j, none⟩) (by show p ≠ w.heap.size; omega) (.map (some w2.heap.size))
    have hM := (World.ownsMap_made (H := Unit) w2 Tryz.prog 35 unitElem).setCell (a := ⟨p, j, none⟩) (fun e => by have := ho2.lt; have e2 : w2.heap.size = p := e; omega) (.map (some w2.heap.size))
    have k5 : Keeps (fun k => k = p ∨ (none : Option Nat) = some k) w ((w2.alloc (.map #[] 0)).setCell ⟨p, j, none⟩ (.map (some w2.heap.size))) := (Keeps.new (b0.trans (b4.mono b0.size))).setCell (.inl rfl) _
    have hj5 : (vs.set j (.map (some w2.heap.size)))[j]? = some (.map (some w2.heap.size)) := List.getElem?_set_self hjl
    have hnb : w2.heap.size ≠ p := by omega
    have hnk : w2.heap.size ≠ w.heap.size := by omega
    clear q4 o4 y4 g4 ho2 o1 c0 b4 oA4 oA ho
    generalize (w2.alloc (.map #[] 0)).setCell ⟨p, j, none⟩ (.map (some w2.heap.size)) = w5 at *
    refine wp_region_held_drew (S := fun w' => w'.cell? ⟨p, j, none⟩ = some (.map (some w2.heap.size)) ∧ w'.cell? ⟨w.heap.size, 0, none⟩ = some (.int .i64 x.dev) ∧ w'.cell? ⟨w.heap.size, 1, none⟩ = some (.int .i64 x.inc) ∧ w'.cell? ⟨w.heap.size, 2, none⟩ = some (.int .i64 x.seq)) (by kernel_rfl) (⟨q5.drew.cell j hj5, o5.drew.cell 0 rfl, o5.drew.cell 1 rfl, o5.drew.cell 2 rfl⟩) (fun hHeld => ?_)
    first
      | (refine wpAnyH_take (i := 0) rfl (by kernel_rfl) (by kernel_rfl) (by kernel_rfl) (fun _ _ _ h => h) (Or.inr ⟨by rfl, rfl⟩) (by assumption) ?_)
      | (refine wpAnyH_take (i := 0) (v := ?vb9) rfl (by kernel_rfl) (by kernel_rfl) (by kernel_rfl) (fun _ _ _ h => h) (Or.inl ⟨by rfl, ?hyb9⟩) (by assumption) ?rb9; case hyb9 => (rintro w' hS; obtain ⟨hs0, hs1, hs2, hs3⟩ := hS; go_simp; try with_reducible rfl))
    try simp only [List.getElem_toArray, List.getElem_cons_zero, Act.put, List.setIfInBounds_toArray, List.set_cons_zero, List.set_cons_succ]
    first
      | (refine wpAnyH_take (i := 1) rfl (by kernel_rfl) (by kernel_rfl) (by kernel_rfl) (fun _ _ _ h => h) (Or.inr ⟨by rfl, rfl⟩) (by assumption) ?_)
      | (refine wpAnyH_take (i := 1) (v := ?vb10) rfl (by kernel_rfl) (by kernel_rfl) (by kernel_rfl) (fun _ _ _ h => h) (Or.inl ⟨by rfl, ?hyb10⟩) (by assumption) ?rb10; case hyb10 => (rintro w' hS; obtain ⟨hs0, hs1, hs2, hs3⟩ := hS; go_simp; try with_reducible rfl))
    try simp only [List.getElem_toArray, List.getElem_cons_zero, List.getElem_cons_succ, Act.put, List.setIfInBounds_toArray, List.set_cons_zero, List.set_cons_succ]
    first
      | (refine wpAnyH_take (i := 2) rfl (by kernel_rfl) (by kernel_rfl) (by kernel_rfl) (fun _ _ _ h => h) (Or.inr ⟨by rfl, rfl⟩) (by assumption) ?_)
      | (refine wpAnyH_take (i := 2) (v := ?vb11) rfl (by kernel_rfl) (by kernel_rfl) (by kernel_rfl) (fun _ _ _ h => h) (Or.inl ⟨by rfl, ?hyb11⟩) (by assumption) ?rb11; case hyb11 => (rintro w' hS; obtain ⟨hs0, hs1, hs2, hs3⟩ := hS; go_simp; try with_reducible rfl))
    try simp only [List.getElem_toArray, List.getElem_cons_zero, List.getElem_cons_succ, Act.put, List.setIfInBounds_toArray, List.set_cons_zero, List.set_cons_succ]
    first
      | (refine wpAnyH_take (i := 3) rfl (by kernel_rfl) (by kernel_rfl) (by kernel_rfl) (fun _ _ _ h => h) (Or.inr ⟨by rfl, rfl⟩) (by assumption) ?_)
      | (refine wpAnyH_take (i := 3) (v := ?vb12) rfl (by kernel_rfl) (by kernel_rfl) (by kernel_rfl) (fun _ _ _ h => h) (Or.inl ⟨by rfl, ?hyb12⟩) (by assumption) ?rb12; case hyb12 => (rintro w' hS; obtain ⟨hs0, hs1, hs2, hs3⟩ := hS; go_simp; try with_reducible rfl))
    try simp only [List.getElem_toArray, List.getElem_cons_zero, List.getElem_cons_succ, Act.put, List.setIfInBounds_toArray, List.set_cons_zero, List.set_cons_succ]
    first
      | (refine wpAnyH_take (i := 4) rfl (by kernel_rfl) (by kernel_rfl) (by kernel_rfl) (fun _ _ _ h => h) (Or.inr ⟨by rfl, rfl⟩) (by assumption) ?_)
      | (refine wpAnyH_take (i := 4) (v := ?vb13) rfl (by kernel_rfl) (by kernel_rfl) (by kernel_rfl) (fun _ _ _ h => h) (Or.inl ⟨by rfl, ?hyb13⟩) (by assumption) ?rb13; case hyb13 => (rintro w' hS; obtain ⟨hs0, hs1, hs2, hs3⟩ := hS; go_simp; try with_reducible rfl))
    try simp only [List.getElem_toArray, List.getElem_cons_zero, List.getElem_cons_succ, Act.put, List.setIfInBounds_toArray, List.set_cons_zero, List.set_cons_succ]
    refine wpAnyH_ready (rs := [5]) (by kernel_rfl) (by simp) ?_
    refine AllReadyH.cons (o := _) rfl (fun K hK => ?_) AllReadyH.nil
    refine step_mapUpdate (by rfl) (.tmp 15) (.tmp 16) (.tmp 17) 87 (by rfl) 35 107 keyedDot Tryz.underlying87 unitElem w2.heap.size _ _ rfl hM.drew (by have := ownsMap_tight hM; first | omega | (unfold maxLen; omega)) _ _ _ rfl rfl hkey _ _ unitElem_mk ?_; intro w9 hM9 hk9; have q9 := q5.drew.keeps hk9 (fun e => hnb e.symm); have k9 := o5.drew.keeps hk9 (fun e => hnk e.symm)
    try dsimp only
    refine hK.out _ _ (⟨q9.cell j hj5, k9.cell 0 rfl, k9.cell 1 rfl, k9.cell 2 rfl⟩) (fun hHeld => ?_)
    clear hK K
    try simp only [List.getElem_toArray, List.getElem_cons_zero, List.getElem_cons_succ, Act.put, List.setIfInBounds_toArray, List.set_cons_zero, List.set_cons_succ]
    refine wpAnyH_done (by kernel_rfl) ?_ _
    go_wp2
    go_end0
    have kd : Keeps (fun k => k = p ∨ (none : Option Nat) = some k) w5 w5.drew := Keeps.new (Below.refl _ _).drew
    exact ⟨rfl, _, _, q9, hM9, (k5.trans kd (fun _ _ h => h)).trans hk9 (fun k hk e => by subst e; omega), .inr ⟨rfl, by omega⟩⟩
  · have hne := obj_not_map ho hm
    have hM0 := (Keeps.new (F := fun _ => False) b0).grownBy (b := b0') (fun h => h) hm
    have hlb := hm.lt
    have hsz := hM0.size_le
    go_enter Tryz.func99, Tryz.ntmps99
    go_wp2_with fail
    have q5 := ho2
    have o5 := o1
    have hM := ownsMap_tight hM0
    have hj5 := hj
    have hnb : b0' ≠ p := hne
    have hnk : b0' ≠ w.heap.size := by omega
    refine wp_region_held_drew (S := fun w' => w'.cell? ⟨p, j, none⟩ = some (.map (some b0')) ∧ w'.cell? ⟨w.heap.size, 0, none⟩ = some (.int .i64 x.dev) ∧ w'.cell? ⟨w.heap.size, 1, none⟩ = some (.int .i64 x.inc) ∧ w'.cell? ⟨w.heap.size, 2, none⟩ = some (.int .i64 x.seq)) (by kernel_rfl) (⟨q5.drew.cell j hj5, o5.drew.cell 0 rfl, o5.drew.cell 1 rfl, o5.drew.cell 2 rfl⟩) (fun hHeld => ?_)
    first
      | (refine wpAnyH_take (i := 0) rfl (by kernel_rfl) (by kernel_rfl) (by kernel_rfl) (fun _ _ _ h => h) (Or.inr ⟨by rfl, rfl⟩) (by assumption) ?_)
      | (refine wpAnyH_take (i := 0) (v := ?vb14) rfl (by kernel_rfl) (by kernel_rfl) (by kernel_rfl) (fun _ _ _ h => h) (Or.inl ⟨by rfl, ?hyb14⟩) (by assumption) ?rb14; case hyb14 => (rintro w' hS; obtain ⟨hs0, hs1, hs2, hs3⟩ := hS; go_simp; try with_reducible rfl))
    try simp only [List.getElem_toArray, List.getElem_cons_zero, Act.put, List.setIfInBounds_toArray, List.set_cons_zero, List.set_cons_succ]
    first
      | (refine wpAnyH_take (i := 1) rfl (by kernel_rfl) (by kernel_rfl) (by kernel_rfl) (fun _ _ _ h => h) (Or.inr ⟨by rfl, rfl⟩) (by assumption) ?_)
      | (refine wpAnyH_take (i := 1) (v := ?vb15) rfl (by kernel_rfl) (by kernel_rfl) (by kernel_rfl) (fun _ _ _ h => h) (Or.inl ⟨by rfl, ?hyb15⟩) (by assumption) ?rb15; case hyb15 => (rintro w' hS; obtain ⟨hs0, hs1, hs2, hs3⟩ := hS; go_simp; try with_reducible rfl))
    try simp only [List.getElem_toArray, List.getElem_cons_zero, List.getElem_cons_succ, Act.put, List.setIfInBounds_toArray, List.set_cons_zero, List.set_cons_succ]
    first
      | (refine wpAnyH_take (i := 2) rfl (by kernel_rfl) (by kernel_rfl) (by kernel_rfl) (fun _ _ _ h => h) (Or.inr ⟨by rfl, rfl⟩) (by assumption) ?_)
      | (refine wpAnyH_take (i := 2) (v := ?vb16) rfl (by kernel_rfl) (by kernel_rfl) (by kernel_rfl) (fun _ _ _ h => h) (Or.inl ⟨by rfl, ?hyb16⟩) (by assumption) ?rb16; case hyb16 => (rintro w' hS; obtain ⟨hs0, hs1, hs2, hs3⟩ := hS; go_simp; try with_reducible rfl))
    try simp only [List.getElem_toArray, List.getElem_cons_zero, List.getElem_cons_succ, Act.put, List.setIfInBounds_toArray, List.set_cons_zero, List.set_cons_succ]
    first
      | (refine wpAnyH_take (i := 3) rfl (by kernel_rfl) (by kernel_rfl) (by kernel_rfl) (fun _ _ _ h => h) (Or.inr ⟨by rfl, rfl⟩) (by assumption) ?_)
      | (refine wpAnyH_take (i := 3) (v := ?vb17) rfl (by kernel_rfl) (by kernel_rfl) (by kernel_rfl) (fun _ _ _ h => h) (Or.inl ⟨by rfl, ?hyb17⟩) (by assumption) ?rb17; case hyb17 => (rintro w' hS; obtain ⟨hs0, hs1, hs2, hs3⟩ := hS; go_simp; try with_reducible rfl))
    try simp only [List.getElem_toArray, List.getElem_cons_zero, List.getElem_cons_succ, Act.put, List.setIfInBounds_toArray, List.set_cons_zero, List.set_cons_succ]
    first
      | (refine wpAnyH_take (i := 4) rfl (by kernel_rfl) (by kernel_rfl) (by kernel_rfl) (fun _ _ _ h => h) (Or.inr ⟨by rfl, rfl⟩) (by assumption) ?_)
      | (refine wpAnyH_take (i := 4) (v := ?vb18) rfl (by kernel_rfl) (by kernel_rfl) (by kernel_rfl) (fun _ _ _ h => h) (Or.inl ⟨by rfl, ?hyb18⟩) (by assumption) ?rb18; case hyb18 => (rintro w' hS; obtain ⟨hs0, hs1, hs2, hs3⟩ := hS; go_simp; try with_reducible rfl))
    try simp only [List.getElem_toArray, List.getElem_cons_zero, List.getElem_cons_succ, Act.put, List.setIfInBounds_toArray, List.set_cons_zero, List.set_cons_succ]
    refine wpAnyH_ready (rs := [5]) (by kernel_rfl) (by simp) ?_
    refine AllReadyH.cons (o := _) rfl (fun K hK => ?_) AllReadyH.nil
    refine step_mapUpdate (by rfl) (.tmp 15) (.tmp 16) (.tmp 17) 87 (by rfl) 35 107 keyedDot Tryz.underlying87 unitElem b0' _ _ rfl hM.drew (by have := ownsMap_tight hM; first | omega | (unfold maxLen; omega)) _ _ _ rfl rfl hkey _ _ unitElem_mk ?_; intro w9 hM9 hk9; have q9 := q5.drew.keeps hk9 (fun e => hnb e.symm); have k9 := o5.drew.keeps hk9 (fun e => hnk e.symm)
    try dsimp only
    refine hK.out _ _ (⟨q9.cell j hj5, k9.cell 0 rfl, k9.cell 1 rfl, k9.cell 2 rfl⟩) (fun hHeld => ?_)
    clear hK K
    try simp only [List.getElem_toArray, List.getElem_cons_zero, List.getElem_cons_succ, Act.put, List.setIfInBounds_toArray, List.set_cons_zero, List.set_cons_succ]
    refine wpAnyH_done (by kernel_rfl) ?_ _
    go_wp2
    go_end0
    have kd : Keeps (fun k => k = p ∨ some b0' = some k) w2 w2.drew := Keeps.new (Below.refl _ _).drew
    exact ⟨rfl, b0', _, by rw [set_as hj]; exact q9, hM9, ((Keeps.new b0).trans kd (fun _ _ h => h)).trans hk9 (fun k hk e => .inr (by rw [e])), .inl rfl⟩

set_option maxRecDepth 100000 in
set_option maxHeartbeats 2000000 in
/-- A key's dots put to it. -/
theorem putKeyC (p j : Nat) (vs : List Value) (mv : Option Nat) (D : DataW Value) (a b c : List UInt8) (u : Option Nat) (w : World) (ha : a.length ≤ maxLen) (hb : b.length ≤ maxLen) (hc : c.length ≤ maxLen) (ho : ObjAt w p vs) (hj : vs[j]? = some (.map mv)) (hm : MapC w 39 heldElem mv D) (hn : Go.Maps.size D < 100000000) :
    Calls Tryz.prog 100 #[.pointer (some ⟨p, j, none⟩), .agg #[.string (str a), .string (str b), .string (str c)], .map u] w fun e w' => e = .returned (.tuple #[]) ∧ PutTo p j vs mv 39 heldElem (D.put (keyK a b c) (.held (.map u))) w w' := by
  have hkey := key_key ha hb hc
  have hjl := (List.getElem?_eq_some_iff.1 hj).1
  have hpl := ho.lt
  have o1 := ObjAt.new w #[.string (str a), .string (str b), .string (str c)] 39
  have b0 := below_alloc w (.cells #[.string (str a), .string (str b), .string (str c)] 39)
  have ho2 := ho.below b0 ho.lt
  have hs2 : w.heap.size + 1 = (w.alloc (.cells #[.string (str a), .string (str b), .string (str c)] 39)).heap.size := by simp
  generalize hw2 : w.alloc (.cells #[.string (str a), .string (str b), .string (str c)] 39) = w2 at *
  have hmm := @run_makeMap Tryz.prog
  have kn := fun w r => Go.run_eql_map_nil (P := Tryz.prog) w 88 39 87 r Tryz.underlying88
  have c0 := ho2.cell j hj
  rcases hm with ⟨rfl, rfl⟩ | ⟨b0', n0, rfl, hm⟩
  · have b4 := below_alloc w2 (.map #[] 0)
    have q4 := ho2.below b4 ho2.lt
    have o4 := o1.below b4 o1.lt
    have hl4 := q4.lt
    have y4 := q4.cell j hj
    have g4 := q4.free j
    go_enter Tryz.func100, Tryz.ntmps100
    go_wp2
    have q5 := q4.set j (.map (some w2.heap.size))
    have o5 := o4.other (p := ⟨p, j, none⟩) (by show p ≠ w.heap.size; omega) (.map (some w2.heap.size))
    have hM := (World.ownsMap_made (H := Value) w2 Tryz.prog 39 heldElem).setCell (a := ⟨p, j, none⟩) (fun e => by have := ho2.lt; have e2 : w2.heap.size = p := e; omega) (.map (some w2.heap.size))
    have k5 : Keeps (fun k => k = p ∨ (none : Option Nat) = some k) w ((w2.alloc (.map #[] 0)).setCell ⟨p, j, none⟩ (.map (some w2.heap.size))) := (Keeps.new (b0.trans (b4.mono b0.size))).setCell (.inl rfl) _
    have hj5 : (vs.set j (.map (some w2.heap.size)))[j]? = some (.map (some w2.heap.size)) := List.getElem?_set_self hjl
    have hnb : w2.heap.size ≠ p := by omega
    have hnk : w2.heap.size ≠ w.heap.size := by omega
    clear q4 o4 y4 g4 ho2 o1 c0 b4  ho
    generalize (w2.alloc (.map #[] 0)).setCell ⟨p, j, none⟩ (.map (some w2.heap.size)) = w5 at *
    refine wp_region_held_drew (S := fun w' => w'.cell? ⟨p, j, none⟩ = some (.map (some w2.heap.size)) ∧ w'.cell? ⟨w.heap.size, 0, none⟩ = some (.string (str a)) ∧ w'.cell? ⟨w.heap.size, 1, none⟩ = some (.string (str b)) ∧ w'.cell? ⟨w.heap.size, 2, none⟩ = some (.string (str c))) (by kernel_rfl) (⟨q5.drew.cell j hj5, o5.drew.cell 0 rfl, o5.drew.cell 1 rfl, o5.drew.cell 2 rfl⟩) (fun hHeld => ?_)
    first
      | (refine wpAnyH_take (i := 0) rfl (by kernel_rfl) (by kernel_rfl) (by kernel_rfl) (fun _ _ _ h => h) (Or.inr ⟨by rfl, rfl⟩) (by assumption) ?_)
      | (refine wpAnyH_take (i := 0) (v := ?vb19) rfl (by kernel_rfl) (by kernel_rfl) (by kernel_rfl) (fun _ _ _ h => h) (Or.inl ⟨by rfl, ?hyb19⟩) (by assumption) ?rb19; case hyb19 => (rintro w' hS; obtain ⟨hs0, hs1, hs2, hs3⟩ := hS; go_simp; try with_reducible rfl))
    try simp only [List.getElem_toArray, List.getElem_cons_zero, Act.put, List.setIfInBounds_toArray, List.set_cons_zero, List.set_cons_succ]
    first
      | (refine wpAnyH_take (i := 1) rfl (by kernel_rfl) (by kernel_rfl) (by kernel_rfl) (fun _ _ _ h => h) (Or.inr ⟨by rfl, rfl⟩) (by assumption) ?_)
      | (refine wpAnyH_take (i := 1) (v := ?vb20) rfl (by kernel_rfl) (by kernel_rfl) (by kernel_rfl) (fun _ _ _ h => h) (Or.inl ⟨by rfl, ?hyb20⟩) (by assumption) ?rb20; case hyb20 => (rintro w' hS; obtain ⟨hs0, hs1, hs2, hs3⟩ := hS; go_simp; try with_reducible rfl))
    try simp only [List.getElem_toArray, List.getElem_cons_zero, List.getElem_cons_succ, Act.put, List.setIfInBounds_toArray, List.set_cons_zero, List.set_cons_succ]
    first
      | (refine wpAnyH_take (i := 2) rfl (by kernel_rfl) (by kernel_rfl) (by kernel_rfl) (fun _ _ _ h => h) (Or.inr ⟨by rfl, rfl⟩) (by assumption) ?_)
      | (refine wpAnyH_take (i := 2) (v := ?vb21) rfl (by kernel_rfl) (by kernel_rfl) (by kernel_rfl) (fun _ _ _ h => h) (Or.inl ⟨by rfl, ?hyb21⟩) (by assumption) ?rb21; case hyb21 => (rintro w' hS; obtain ⟨hs0, hs1, hs2, hs3⟩ := hS; go_simp; try with_reducible rfl))
    try simp only [List.getElem_toArray, List.getElem_cons_zero, List.getElem_cons_succ, Act.put, List.setIfInBounds_toArray, List.set_cons_zero, List.set_cons_succ]
    first
      | (refine wpAnyH_take (i := 3) rfl (by kernel_rfl) (by kernel_rfl) (by kernel_rfl) (fun _ _ _ h => h) (Or.inr ⟨by rfl, rfl⟩) (by assumption) ?_)
      | (refine wpAnyH_take (i := 3) (v := ?vb22) rfl (by kernel_rfl) (by kernel_rfl) (by kernel_rfl) (fun _ _ _ h => h) (Or.inl ⟨by rfl, ?hyb22⟩) (by assumption) ?rb22; case hyb22 => (rintro w' hS; obtain ⟨hs0, hs1, hs2, hs3⟩ := hS; go_simp; try with_reducible rfl))
    try simp only [List.getElem_toArray, List.getElem_cons_zero, List.getElem_cons_succ, Act.put, List.setIfInBounds_toArray, List.set_cons_zero, List.set_cons_succ]
    first
      | (refine wpAnyH_take (i := 4) rfl (by kernel_rfl) (by kernel_rfl) (by kernel_rfl) (fun _ _ _ h => h) (Or.inr ⟨by rfl, rfl⟩) (by assumption) ?_)
      | (refine wpAnyH_take (i := 4) (v := ?vb23) rfl (by kernel_rfl) (by kernel_rfl) (by kernel_rfl) (fun _ _ _ h => h) (Or.inl ⟨by rfl, ?hyb23⟩) (by assumption) ?rb23; case hyb23 => (rintro w' hS; obtain ⟨hs0, hs1, hs2, hs3⟩ := hS; go_simp; try with_reducible rfl))
    try simp only [List.getElem_toArray, List.getElem_cons_zero, List.getElem_cons_succ, Act.put, List.setIfInBounds_toArray, List.set_cons_zero, List.set_cons_succ]
    refine wpAnyH_ready (rs := [5]) (by kernel_rfl) (by simp) ?_
    refine AllReadyH.cons (o := _) rfl (fun K hK => ?_) AllReadyH.nil
    refine step_mapUpdate (by rfl) (.tmp 15) (.tmp 16) (.tmp 17) 88 (by rfl) 39 87 keyedKey Tryz.underlying88 heldElem w2.heap.size _ _ rfl hM.drew (by have := ownsMap_tight hM; first | omega | (unfold maxLen; omega)) _ _ _ rfl rfl hkey _ _ held_store ?_; intro w9 hM9 hk9; have q9 := q5.drew.keeps hk9 (fun e => hnb e.symm); have k9 := o5.drew.keeps hk9 (fun e => hnk e.symm)
    try dsimp only
    refine hK.out _ _ (⟨q9.cell j hj5, k9.cell 0 rfl, k9.cell 1 rfl, k9.cell 2 rfl⟩) (fun hHeld => ?_)
    clear hK K
    try simp only [List.getElem_toArray, List.getElem_cons_zero, List.getElem_cons_succ, Act.put, List.setIfInBounds_toArray, List.set_cons_zero, List.set_cons_succ]
    refine wpAnyH_done (by kernel_rfl) ?_ _
    go_wp2
    go_end0
    have kd : Keeps (fun k => k = p ∨ (none : Option Nat) = some k) w5 w5.drew := Keeps.new (Below.refl _ _).drew
    exact ⟨rfl, _, _, q9, hM9, (k5.trans kd (fun _ _ h => h)).trans hk9 (fun k hk e => by subst e; omega), .inr ⟨rfl, by omega⟩⟩
  · have hne := obj_not_map ho hm
    have hM0 := (Keeps.new (F := fun _ => False) b0).grownBy (b := b0') (fun h => h) hm
    have hlb := hm.lt
    have hsz := hM0.size_le
    go_enter Tryz.func100, Tryz.ntmps100
    go_wp2_with fail
    have q5 := ho2
    have o5 := o1
    have hM := ownsMap_tight hM0
    have hj5 := hj
    have hnb : b0' ≠ p := hne
    have hnk : b0' ≠ w.heap.size := by omega
    refine wp_region_held_drew (S := fun w' => w'.cell? ⟨p, j, none⟩ = some (.map (some b0')) ∧ w'.cell? ⟨w.heap.size, 0, none⟩ = some (.string (str a)) ∧ w'.cell? ⟨w.heap.size, 1, none⟩ = some (.string (str b)) ∧ w'.cell? ⟨w.heap.size, 2, none⟩ = some (.string (str c))) (by kernel_rfl) (⟨q5.drew.cell j hj5, o5.drew.cell 0 rfl, o5.drew.cell 1 rfl, o5.drew.cell 2 rfl⟩) (fun hHeld => ?_)
    first
      | (refine wpAnyH_take (i := 0) rfl (by kernel_rfl) (by kernel_rfl) (by kernel_rfl) (fun _ _ _ h => h) (Or.inr ⟨by rfl, rfl⟩) (by assumption) ?_)
      | (refine wpAnyH_take (i := 0) (v := ?vb24) rfl (by kernel_rfl) (by kernel_rfl) (by kernel_rfl) (fun _ _ _ h => h) (Or.inl ⟨by rfl, ?hyb24⟩) (by assumption) ?rb24; case hyb24 => (rintro w' hS; obtain ⟨hs0, hs1, hs2, hs3⟩ := hS; go_simp; try with_reducible rfl))
    try simp only [List.getElem_toArray, List.getElem_cons_zero, Act.put, List.setIfInBounds_toArray, List.set_cons_zero, List.set_cons_succ]
    first
      | (refine wpAnyH_take (i := 1) rfl (by kernel_rfl) (by kernel_rfl) (by kernel_rfl) (fun _ _ _ h => h) (Or.inr ⟨by rfl, rfl⟩) (by assumption) ?_)
      | (refine wpAnyH_take (i := 1) (v := ?vb25) rfl (by kernel_rfl) (by kernel_rfl) (by kernel_rfl) (fun _ _ _ h => h) (Or.inl ⟨by rfl, ?hyb25⟩) (by assumption) ?rb25; case hyb25 => (rintro w' hS; obtain ⟨hs0, hs1, hs2, hs3⟩ := hS; go_simp; try with_reducible rfl))
    try simp only [List.getElem_toArray, List.getElem_cons_zero, List.getElem_cons_succ, Act.put, List.setIfInBounds_toArray, List.set_cons_zero, List.set_cons_succ]
    first
      | (refine wpAnyH_take (i := 2) rfl (by kernel_rfl) (by kernel_rfl) (by kernel_rfl) (fun _ _ _ h => h) (Or.inr ⟨by rfl, rfl⟩) (by assumption) ?_)
      | (refine wpAnyH_take (i := 2) (v := ?vb26) rfl (by kernel_rfl) (by kernel_rfl) (by kernel_rfl) (fun _ _ _ h => h) (Or.inl ⟨by rfl, ?hyb26⟩) (by assumption) ?rb26; case hyb26 => (rintro w' hS; obtain ⟨hs0, hs1, hs2, hs3⟩ := hS; go_simp; try with_reducible rfl))
    try simp only [List.getElem_toArray, List.getElem_cons_zero, List.getElem_cons_succ, Act.put, List.setIfInBounds_toArray, List.set_cons_zero, List.set_cons_succ]
    first
      | (refine wpAnyH_take (i := 3) rfl (by kernel_rfl) (by kernel_rfl) (by kernel_rfl) (fun _ _ _ h => h) (Or.inr ⟨by rfl, rfl⟩) (by assumption) ?_)
      | (refine wpAnyH_take (i := 3) (v := ?vb27) rfl (by kernel_rfl) (by kernel_rfl) (by kernel_rfl) (fun _ _ _ h => h) (Or.inl ⟨by rfl, ?hyb27⟩) (by assumption) ?rb27; case hyb27 => (rintro w' hS; obtain ⟨hs0, hs1, hs2, hs3⟩ := hS; go_simp; try with_reducible rfl))
    try simp only [List.getElem_toArray, List.getElem_cons_zero, List.getElem_cons_succ, Act.put, List.setIfInBounds_toArray, List.set_cons_zero, List.set_cons_succ]
    first
      | (refine wpAnyH_take (i := 4) rfl (by kernel_rfl) (by kernel_rfl) (by kernel_rfl) (fun _ _ _ h => h) (Or.inr ⟨by rfl, rfl⟩) (by assumption) ?_)
      | (refine wpAnyH_take (i := 4) (v := ?vb28) rfl (by kernel_rfl) (by kernel_rfl) (by kernel_rfl) (fun _ _ _ h => h) (Or.inl ⟨by rfl, ?hyb28⟩) (by assumption) ?rb28; case hyb28 => (rintro w' hS; obtain ⟨hs0, hs1, hs2, hs3⟩ := hS; go_simp; try with_reducible rfl))
    try simp only [List.getElem_toArray, List.getElem_cons_zero, List.getElem_cons_succ, Act.put, List.setIfInBounds_toArray, List.set_cons_zero, List.set_cons_succ]
    refine wpAnyH_ready (rs := [5]) (by kernel_rfl) (by simp) ?_
    refine AllReadyH.cons (o := _) rfl (fun K hK => ?_) AllReadyH.nil
    refine step_mapUpdate (by rfl) (.tmp 15) (.tmp 16) (.tmp 17) 88 (by rfl) 39 87 keyedKey Tryz.underlying88 heldElem b0' _ _ rfl hM.drew (by have := ownsMap_tight hM; first | omega | (unfold maxLen; omega)) _ _ _ rfl rfl hkey _ _ held_store ?_; intro w9 hM9 hk9; have q9 := q5.drew.keeps hk9 (fun e => hnb e.symm); have k9 := o5.drew.keeps hk9 (fun e => hnk e.symm)
    try dsimp only
    refine hK.out _ _ (⟨q9.cell j hj5, k9.cell 0 rfl, k9.cell 1 rfl, k9.cell 2 rfl⟩) (fun hHeld => ?_)
    clear hK K
    try simp only [List.getElem_toArray, List.getElem_cons_zero, List.getElem_cons_succ, Act.put, List.setIfInBounds_toArray, List.set_cons_zero, List.set_cons_succ]
    refine wpAnyH_done (by kernel_rfl) ?_ _
    go_wp2
    go_end0
    have kd : Keeps (fun k => k = p ∨ some b0' = some k) w2 w2.drew := Keeps.new (Below.refl _ _).drew
    exact ⟨rfl, b0', _, by rw [set_as hj]; exact q9, hM9, ((Keeps.new b0).trans kd (fun _ _ h => h)).trans hk9 (fun k hk e => .inr (by rw [e])), .inl rfl⟩
end Go.Proofs.YtelgaglnmcggkaaGreatDoor

/- Contracts of the reference of layer 21: a key's winner. -/
namespace Go.Proofs.YtelgaglnmcggkaaGreatDoor
open Go.RowKit
set_option linter.unusedVariables false
set_option linter.unusedSimpArgs false

def bestR (b : Option EvR) (r : EvR) : Option EvR :=
  match b with
  | none => some r
  | some x => if lessT r.e.stamp x.e.stamp = true then some x else some r
def winnerR (m : MapR) (x : ItemL) : Option EvR := (keyR m x).foldl bestR none
theorem best_map (l : List EvR) : ∀ b : Option EvR, (l.foldl bestR b).map (·.e) = (l.map (·.e)).foldl bestM (b.map (·.e)) := by
  induction l with
  | nil => exact fun b => rfl
  | cons r t ih =>
    intro b
    rw [List.foldl_cons, List.map_cons, List.foldl_cons, ih]
    congr 1
    rcases b with _ | y
    · rfl
    · unfold bestR bestM
      dsimp only [Option.map_some]
      split <;> rfl
theorem winner_map (m : MapR) (x : ItemL) : (winnerR m x).map (·.e) = winnerM m.plain x := by
  unfold winnerR winnerM
  rw [best_map, key_map]
  rfl
theorem best_some (l : List EvR) : ∀ r : EvR, ∃ y, l.foldl bestR (some r) = some y := by
  induction l with
  | nil => exact fun r => ⟨r, rfl⟩
  | cons z t ih =>
    intro r
    rw [List.foldl_cons]
    unfold bestR
    dsimp only
    split
    · exact ih r
    · exact ih z
def zeroE : List Value := [.int .i64 0, .int .i64 0, .int .i64 0, .int .i64 0, .int .i64 0, .int .i64 0, .int .i64 0, .string ⟨#[]⟩, .string ⟨#[]⟩, .string ⟨#[]⟩, .string ⟨#[]⟩, .bool false, .bool false, .bool false, .bool false, .int .i64 0, .int .i64 0, .int .i64 0, .slice none 0 0]
/-- An event's cells, or the zero one's. -/
def encO (b : Option EvR) : List Value := match b with | none => zeroE | some r => encE r
theorem encO_size (b : Option EvR) : (encO b).toArray.size = 19 := by rcases b with _ | r <;> rfl
theorem encO_one (b : Option EvR) : (encO b).toArray.all (·.oneCell') = true := by
  rw [← Array.all_toList]
  rcases b with _ | r <;> rfl

end Go.Proofs.YtelgaglnmcggkaaGreatDoor

/- Contracts of the library's functions at one sign, in plain words: a byte's place, what a text begins with; a host that is canonical is so itself. -/
namespace Go.Proofs.YtelgaglnmcggkaaGreatDoor
open Go.RowKit
set_option linter.unusedVariables false
set_option linter.unusedSimpArgs false

theorem byteC (l : List UInt8) (c : UInt8) (w : World) :
    Calls Tryz.prog 209 #[.string (str l), .int .u8 (c.toNat : Int)] w fun e w' => e = .returned (.int .i64 (Lib.indexByte l c)) ∧ w = w' := by
  refine (Tryz.strings_IndexByte (str l) (c.toNat : Int) w).mono ?_
  rintro e w' ⟨rfl, rfl⟩
  rw [str_data]
  have : (c.toNat : Int).toNat.toUInt8 = c := by simp
  rw [this]
  exact ⟨rfl, rfl⟩

theorem canon_self (h : List UInt8) : ∃ (X : List UInt8) (E : Int),
    (if 256 < h.length then (Value.tuple #[.string (str []), .int .i64 3]) else if canonB (h.map low) = true then .tuple #[.string (str (h.map low)), .int .i64 0] else .tuple #[.string (str []), .int .i64 1]) = .tuple #[.string (str X), .int .i64 E] ∧
    ((E = 0 ∧ X = h ∧ canonB h = true) ∨ (E = 0 ∧ (X == h) = false ∧ canonB h = false) ∨ ((E == 0) = false ∧ canonB h = false)) := by
  by_cases c1 : 256 < h.length
  · rw [if_pos c1]
    refine ⟨_, _, rfl, .inr (.inr ⟨rfl, ?_⟩)⟩
    cases hc : canonB h with
    | false => rfl
    | true => exact absurd (canon_len hc) (by omega)
  · rw [if_neg c1]
    cases hc : canonB h with
    | true =>
      rw [map_low_host hc, if_pos hc]
      exact ⟨_, _, rfl, .inl ⟨rfl, rfl, rfl⟩⟩
    | false =>
      cases hc2 : canonB (h.map low) with
      | false => exact ⟨_, _, if_neg Bool.false_ne_true, .inr (.inr ⟨rfl, rfl⟩)⟩
      | true =>
        refine ⟨_, _, if_pos rfl, .inr (.inl ⟨rfl, ?_, rfl⟩)⟩
        rw [beq_eq_false_iff_ne]
        intro e
        rw [e, hc] at hc2
        cases hc2

theorem slash_head (l : List UInt8) : Lib.hasPrefix l [47] = decide (l.getD 0 0 = 47) := by
  cases l with
  | nil => rfl
  | cons x t =>
    show ((47 : UInt8) == x && true) = decide (x = 47)
    rw [Bool.and_true, Bool.eq_iff_iff, decide_eq_true_iff, beq_iff_eq]
    exact eq_comm

theorem headSlashC (l : List UInt8) (w : World) :
    Calls Tryz.prog 192 #[.string (str l), .string ⟨#[47]⟩] w fun e w' => e = .returned (.bool (decide (l.getD 0 0 = 47))) ∧ w = w' := by
  refine (Tryz.strings_HasPrefix (str l) ⟨#[47]⟩ w).mono ?_
  rintro e w' ⟨rfl, rfl⟩
  rw [str_data, ← slash_head]
  exact ⟨rfl, rfl⟩

end Go.Proofs.YtelgaglnmcggkaaGreatDoor

/- A full map (OrmapFull), in plain words. No program in it. -/
namespace Go.Proofs.YtelgaglnmcggkaaGreatDoor
open Go.RowKit
set_option linter.unusedVariables false
set_option linter.unusedSimpArgs false

def evF (i : Int) : EventN := ⟨⟨0, 1, i⟩, ⟨0, 0, 0⟩, 2, ItemL.none, [⟨1, 1, 1⟩]⟩
theorem right_evF {i : Int} (h1 : 1 ≤ i) (h2 : i ≤ 4294967296) : rightE (evF i) = true := by
  have e1 : rightD (evF i).dot = true := by
    unfold rightD evF
    rw [decide_eq_true h1, decide_eq_true h2]
    rfl
  have e2 : (List.range (evF i).over.length).all (okO (evF i).over (evF i).dot) = true := by
    show (List.range 1).all (okO [⟨1, 1, 1⟩] ⟨0, 1, i⟩) = true
    have e3 : okO [⟨1, 1, 1⟩] ⟨0, 1, i⟩ 0 = true := rfl
    rw [show List.range 1 = [0] from rfl, List.all_cons, e3]
    rfl
  unfold rightE headE
  rw [e1, e2]
  rfl
theorem light_evF (i : Int) : lightE (evF i) = true := rfl
theorem insE_last : ∀ {l : List EventN} {e : EventN}, (∀ y ∈ l, lessD y.dot e.dot = true) → insE l e = l ++ [e]
  | [], e, _ => rfl
  | y :: t, e, h => by
    rw [insE_cons, if_pos (h y (List.mem_cons_self ..)), insE_last fun z hz => h z (List.mem_cons_of_mem _ hz)]
    rfl
def fullM (n : Nat) : MapN := ⟨if n = 0 then [] else [⟨0, 1, (n : Int)⟩], (List.range n).map (fun k : Nat => evF ((k : Int) + 1)), if n = 0 then [] else [⟨1, 1, 1⟩]⟩
theorem full_zero : fullM 0 = MapN.none := rfl
theorem full_len (n : Nat) : (fullM n).kept.length = n := by unfold fullM; rw [List.length_map, List.length_range]
theorem full_get (n : Nat) : getV (fullM n).ctx 0 1 = (n : Int) := by
  unfold fullM
  by_cases h : n = 0
  · subst h; rfl
  · rw [if_neg h]
    simp [getV]
theorem full_in {n : Nat} {e : EventN} (h : e ∈ (fullM n).kept) : ∃ k : Nat, k < n ∧ e = evF ((k : Int) + 1) := by
  unfold fullM at h
  obtain ⟨k, hk, rfl⟩ := List.mem_map.1 h
  exact ⟨k, List.mem_range.1 hk, rfl⟩
theorem full_step {n : Nat} (h : n < 2048) : applyM (fullM n) (evF ((n : Int) + 1)) = (fullM (n + 1), true, 0) := by
  have hg := full_get n
  have h3 : hasV (fullM n).ctx (evF ((n : Int) + 1)).dot = false := by
    unfold hasV
    rw [show getV (fullM n).ctx (evF ((n : Int) + 1)).dot.dev (evF ((n : Int) + 1)).dot.inc = (n : Int) from hg, show (evF ((n : Int) + 1)).dot.seq = (n : Int) + 1 from rfl, decide_eq_false (by omega), Bool.and_false]
  unfold applyM
  rw [if_neg (by rw [right_evF (by omega) (by omega)]; exact Bool.noConfusion), if_neg (by rw [h3]; exact Bool.noConfusion), if_neg (fun c => c (by rw [show getV (fullM n).ctx (evF ((n : Int) + 1)).dot.dev (evF ((n : Int) + 1)).dot.inc = (n : Int) from hg]; rfl)), full_len, if_neg (by omega)]
  have e1 : setV (fullM n).ctx (evF ((n : Int) + 1)).dot = (fullM (n + 1)).ctx := by
    unfold fullM
    by_cases h0 : n = 0
    · subst h0; rfl
    · rw [if_neg h0, if_neg (Nat.succ_ne_zero n), Int.natCast_succ, set_is (List.pairwise_singleton _ _)]
      rfl
  have e2 : insE (fullM n).kept (evF ((n : Int) + 1)) = (fullM (n + 1)).kept := by
    rw [insE_last fun y hy => ?_]
    · unfold fullM
      rw [List.range_succ, List.map_append]
      rfl
    · obtain ⟨k, hk, rfl⟩ := full_in hy
      rw [lessD_iff]
      exact .inr ⟨rfl, .inr ⟨rfl, by show (k : Int) + 1 < (n : Int) + 1; omega⟩⟩
  have e3 : sortD ((fullM n).dead ++ (evF ((n : Int) + 1)).over) = (fullM (n + 1)).dead := by
    show sortD ((if n = 0 then [] else [⟨1, 1, 1⟩]) ++ [⟨1, 1, 1⟩]) = if n + 1 = 0 then [] else [⟨1, 1, 1⟩]
    by_cases h0 : n = 0
    · subst h0; rfl
    · rw [if_neg h0, if_neg (Nat.succ_ne_zero n)]
      rfl
  rw [e1, e2, e3]
theorem full_mem {n k : Nat} (h : k < n) : evF ((k : Int) + 1) ∈ (fullM n).kept := by
  unfold fullM
  exact List.mem_map.2 ⟨k, List.mem_range.2 h, rfl⟩
theorem full_no {n : Nat} (hn : n = 2048) : applyM (fullM n) (evF 2049) = (fullM n, false, 9) := by
  have hg := full_get n
  have h3 : hasV (fullM n).ctx (evF 2049).dot = false := by
    unfold hasV
    rw [show getV (fullM n).ctx (evF 2049).dot.dev (evF 2049).dot.inc = (n : Int) from hg, show (evF 2049).dot.seq = 2049 from rfl, decide_eq_false (by omega), Bool.and_false]
  unfold applyM
  rw [if_neg (by rw [right_evF (by omega) (by omega)]; exact Bool.noConfusion), if_neg (by rw [h3]; exact Bool.noConfusion), if_neg (fun c => c (by rw [show getV (fullM n).ctx (evF 2049).dot.dev (evF 2049).dot.inc = (n : Int) from hg, hn]; rfl)), full_len, if_pos (by omega)]
theorem full_old {n : Nat} (hn : n = 2048) {i : Int} (h1 : 1 ≤ i) (h2 : i ≤ 2048) : applyM (fullM n) (evF i) = (fullM n, false, 0) := by
  have hg := full_get n
  have h3 : hasV (fullM n).ctx (evF i).dot = true := by
    unfold hasV
    rw [show getV (fullM n).ctx (evF i).dot.dev (evF i).dot.inc = (n : Int) from hg, show (evF i).dot.seq = i from rfl, decide_eq_true (by omega), Bool.and_true]
    exact right_dotE (right_evF h1 (by omega))
  unfold applyM
  rw [if_neg (by rw [right_evF h1 (by omega)]; exact Bool.noConfusion), if_pos h3]
theorem full_forget {n : Nat} (hn : n = 2048) {i : Int} (h1 : 1 ≤ i) (h2 : i ≤ 2048) : ∃ m, forgetM (fullM n) ⟨0, 1, i⟩ = (m, true) ∧ m.ctx = (fullM n).ctx ∧ m.kept.length = 2047 := by
  have hex : ∃ e ∈ (fullM n).kept, sameD e.dot ⟨0, 1, i⟩ = true := by
    have := full_mem (n := n) (k := (i - 1).toNat) (by omega)
    rw [show (((i - 1).toNat : Nat) : Int) + 1 = i from by omega] at this
    exact ⟨evF i, this, sameD_iff.2 rfl⟩
  have hall : ∀ e ∈ (fullM n).kept, e.kind = 2 := fun e he => by
    obtain ⟨k, hk, rfl⟩ := full_in he
    rfl
  have hl := full_len n
  generalize fullM n = m at *
  have hlt : findE m.kept ⟨0, 1, i⟩ < m.kept.length := List.findIdx_lt_length_of_exists hex
  have hk := hall _ (List.getElem_mem hlt)
  refine ⟨⟨m.ctx, m.kept.eraseIdx (findE m.kept ⟨0, 1, i⟩), m.dead⟩, ?_, rfl, ?_⟩
  · unfold forgetM
    rw [List.getElem?_eq_getElem hlt]
    show (if (m.kept[findE m.kept ⟨0, 1, i⟩].kind == 1 && !hasD m.dead ⟨0, 1, i⟩) = true then (m, false) else (⟨m.ctx, m.kept.eraseIdx (findE m.kept ⟨0, 1, i⟩), m.dead⟩, true)) = _
    rw [hk, show ((2 : Int) == 1) = false from rfl, Bool.false_and, if_neg Bool.noConfusion]
  · show (m.kept.eraseIdx _).length = 2047
    rw [List.length_eraseIdx_of_lt hlt]
    omega
theorem full_again {n : Nat} (hn : n = 2048) {m : MapN} (h1 : m.ctx = (fullM n).ctx) (h2 : m.kept.length = 2047) : (applyM m (evF 2049)).2 = (true, 0) ∧ (applyM m (evF 2049)).1.kept.length = 2048 := by
  have hg := full_get n
  rw [← h1] at hg
  have h3 : hasV m.ctx (evF 2049).dot = false := by
    unfold hasV
    rw [show getV m.ctx (evF 2049).dot.dev (evF 2049).dot.inc = (n : Int) from hg, show (evF 2049).dot.seq = 2049 from rfl, decide_eq_false (by omega), Bool.and_false]
  unfold applyM
  rw [if_neg (by rw [right_evF (by omega) (by omega)]; exact Bool.noConfusion), if_neg (by rw [h3]; exact Bool.noConfusion), if_neg (fun c => c (by rw [show getV m.ctx (evF 2049).dot.dev (evF 2049).dot.inc = (n : Int) from hg, hn]; rfl)), h2, if_neg (by omega)]
  exact ⟨rfl, by show (insE m.kept _).length = 2048; rw [insE_length, h2]⟩
end Go.Proofs.YtelgaglnmcggkaaGreatDoor

/- How rows of events, rows of steps, keys and maps as arguments are opened. -/
namespace Go.Proofs.YtelgaglnmcggkaaGreatDoor
open Go.ChangeShapes Go.WideShapes Go.ChangeAt Go.RowKit
set_option linter.unusedVariables false
set_option linter.unusedSimpArgs false

end Go.Proofs.YtelgaglnmcggkaaGreatDoor
