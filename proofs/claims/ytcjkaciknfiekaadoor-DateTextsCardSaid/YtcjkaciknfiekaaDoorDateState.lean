/- Contracts of layer 7: the memory in which what the tokens tell is put. -/
import Derived.Test.YtcjkaciknfiekaaDoorDateMonth
import Derived.Laws.EntriesVeiled
namespace Go.Proofs.YtcjkaciknfiekaaDoor
open Go.RowKit
set_option linter.unusedVariables false

def St.vy (s : St) : Int := match s.year with | some y => (yearUp y : Int) | Option.none => 0
def St.vm (s : St) : Int := match s.month with | some m => (m : Int) | Option.none => 0
def St.vd (s : St) : Int := match s.day with | some d => (d : Int) | Option.none => 0
def St.vh (s : St) : Int := match s.time with | some (h, _, _) => (h : Int) | Option.none => 0
def St.vi (s : St) : Int := match s.time with | some (_, i, _) => (i : Int) | Option.none => 0
def St.vs (s : St) : Int := match s.time with | some (_, _, x) => (x : Int) | Option.none => 0

/-- Which of the four were met lies in block M. -/
structure MAt (M : Nat) (a b c d : Bool) (w : World) : Prop where
  c0 : w.cell? ⟨M, 0, none⟩ = some (.bool a)
  c1 : w.cell? ⟨M, 1, none⟩ = some (.bool b)
  c2 : w.cell? ⟨M, 2, none⟩ = some (.bool c)
  c3 : w.cell? ⟨M, 3, none⟩ = some (.bool d)
  f : ∀ i, i < 4 → w.frozen? ⟨M, i, none⟩ = false
theorem MAt.lt {M : Nat} {a b c d : Bool} {w : World} (p : MAt M a b c d w) : M < w.heap.size := cell_lt (x := ⟨M, 0, none⟩) p.c0
theorem MAt.same {M : Nat} {a b c d : Bool} {w w' : World} (p : MAt M a b c d w) (hb : w'.heap[M]? = w.heap[M]?) : MAt M a b c d w' := by
  have hc : ∀ i, w'.cell? ⟨M, i, none⟩ = w.cell? ⟨M, i, none⟩ := fun i => World.cell?_of_block hb
  have hf : ∀ i, w'.frozen? ⟨M, i, none⟩ = w.frozen? ⟨M, i, none⟩ := fun i => World.frozen?_of_block hb
  exact ⟨by rw [hc]; exact p.c0, by rw [hc]; exact p.c1, by rw [hc]; exact p.c2, by rw [hc]; exact p.c3, fun i hi => by rw [hf]; exact p.f i hi⟩
theorem MAt.set0 {M : Nat} {a b c d : Bool} {w : World} (p : MAt M a b c d w) : MAt M true b c d (w.setCell ⟨M, 0, none⟩ (.bool true)) :=
  ⟨World.cell?_setCell_same w _ _ p.c0, (World.cell?_setCell_other w _ _ _ (show (⟨M, 0, none⟩ : Addr) ≠ ⟨M, 1, none⟩ by simp)).trans p.c1, (World.cell?_setCell_other w _ _ _ (show (⟨M, 0, none⟩ : Addr) ≠ ⟨M, 2, none⟩ by simp)).trans p.c2, (World.cell?_setCell_other w _ _ _ (show (⟨M, 0, none⟩ : Addr) ≠ ⟨M, 3, none⟩ by simp)).trans p.c3, fun i hi => by rw [World.frozen?_setCell]; exact p.f i hi⟩
theorem MAt.set1 {M : Nat} {a b c d : Bool} {w : World} (p : MAt M a b c d w) : MAt M a true c d (w.setCell ⟨M, 1, none⟩ (.bool true)) :=
  ⟨(World.cell?_setCell_other w _ _ _ (show (⟨M, 1, none⟩ : Addr) ≠ ⟨M, 0, none⟩ by simp)).trans p.c0, World.cell?_setCell_same w _ _ p.c1, (World.cell?_setCell_other w _ _ _ (show (⟨M, 1, none⟩ : Addr) ≠ ⟨M, 2, none⟩ by simp)).trans p.c2, (World.cell?_setCell_other w _ _ _ (show (⟨M, 1, none⟩ : Addr) ≠ ⟨M, 3, none⟩ by simp)).trans p.c3, fun i hi => by rw [World.frozen?_setCell]; exact p.f i hi⟩
theorem MAt.set2 {M : Nat} {a b c d : Bool} {w : World} (p : MAt M a b c d w) : MAt M a b true d (w.setCell ⟨M, 2, none⟩ (.bool true)) :=
  ⟨(World.cell?_setCell_other w _ _ _ (show (⟨M, 2, none⟩ : Addr) ≠ ⟨M, 0, none⟩ by simp)).trans p.c0, (World.cell?_setCell_other w _ _ _ (show (⟨M, 2, none⟩ : Addr) ≠ ⟨M, 1, none⟩ by simp)).trans p.c1, World.cell?_setCell_same w _ _ p.c2, (World.cell?_setCell_other w _ _ _ (show (⟨M, 2, none⟩ : Addr) ≠ ⟨M, 3, none⟩ by simp)).trans p.c3, fun i hi => by rw [World.frozen?_setCell]; exact p.f i hi⟩
theorem MAt.set3 {M : Nat} {a b c d : Bool} {w : World} (p : MAt M a b c d w) : MAt M a b c true (w.setCell ⟨M, 3, none⟩ (.bool true)) :=
  ⟨(World.cell?_setCell_other w _ _ _ (show (⟨M, 3, none⟩ : Addr) ≠ ⟨M, 0, none⟩ by simp)).trans p.c0, (World.cell?_setCell_other w _ _ _ (show (⟨M, 3, none⟩ : Addr) ≠ ⟨M, 1, none⟩ by simp)).trans p.c1, (World.cell?_setCell_other w _ _ _ (show (⟨M, 3, none⟩ : Addr) ≠ ⟨M, 2, none⟩ by simp)).trans p.c2, World.cell?_setCell_same w _ _ p.c3, fun i hi => by rw [World.frozen?_setCell]; exact p.f i hi⟩

/-- The list of matchers lies in block F. -/
structure FAt (F : Nat) (w : World) : Prop where
  c0 : w.cell? ⟨F, 0, none⟩ = some (.func (.func 31) #[] #[])
  c1 : w.cell? ⟨F, 1, none⟩ = some (.func (.func 32) #[] #[])
  c2 : w.cell? ⟨F, 2, none⟩ = some (.func (.func 33) #[] #[])
  c3 : w.cell? ⟨F, 3, none⟩ = some (.func (.func 34) #[] #[])
theorem FAt.lt {F : Nat} {w : World} (p : FAt F w) : F < w.heap.size := cell_lt (x := ⟨F, 0, none⟩) p.c0
theorem FAt.same {F : Nat} {w w' : World} (p : FAt F w) (hb : w'.heap[F]? = w.heap[F]?) : FAt F w' := by
  have hc : ∀ i, w'.cell? ⟨F, i, none⟩ = w.cell? ⟨F, i, none⟩ := fun i => World.cell?_of_block hb
  exact ⟨by rw [hc]; exact p.c0, by rw [hc]; exact p.c1, by rw [hc]; exact p.c2, by rw [hc]; exact p.c3⟩

/-- The state s, as it lies in memory behind what the world w0 had. -/
structure ReadAt (b : Nat) (s : St) (w0 w : World) : Prop where
  p : PAt (b + 1) s.vy s.vm s.vd s.vh s.vi s.vs w
  m : MAt (b + 1 + 1 + 1) s.time.isSome s.day.isSome s.month.isSome s.year.isSome w
  f : FAt (b + 1 + 1) w
  r : PAt b 0 0 0 0 0 0 w
  below : Below b w0 w
theorem ReadAt.of {b : Nat} {s : St} {w0 w w' : World} (h : ReadAt b s w0 w) (hb : Below w.heap.size w w') : ReadAt b s w0 w' :=
  ⟨h.p.below hb, h.m.same (hb.block _ h.m.lt), h.f.same (hb.block _ h.f.lt), h.r.below hb, h.below.trans (hb.mono (Nat.le_of_lt h.r.lt))⟩
/-- A matcher that says no. -/
theorem ReadAt.no {b : Nat} {s : St} {w0 w w' : World} (h : ReadAt b s w0 w) (hp : PAt (b + 1) s.vy s.vm s.vd s.vh s.vi s.vs w') (hk : Kept (b + 1) none w w') : ReadAt b s w0 w' :=
  ⟨hp, h.m.same (hk.block _ h.m.lt (by omega) (Apart.none _)), h.f.same (hk.block _ h.f.lt (by omega) (Apart.none _)), h.r.same (hk.block _ h.r.lt (by omega) (Apart.none _)), h.below.trans (hk.below (by omega) (fun x hx => by cases hx) (Nat.le_of_lt h.r.lt))⟩
/-- A matcher that says yes: the state that lies there then. -/
theorem ReadAt.yes {b : Nat} {s s2 : St} {w0 w w' : World} (h : ReadAt b s w0 w) (hp : PAt (b + 1) s2.vy s2.vm s2.vd s2.vh s2.vi s2.vs w') (hk : Kept (b + 1) none w w') (k : Nat)
    (hm : MAt (b + 1 + 1 + 1) s.time.isSome s.day.isSome s.month.isSome s.year.isSome w' → MAt (b + 1 + 1 + 1) s2.time.isSome s2.day.isSome s2.month.isSome s2.year.isSome (w'.setCell ⟨b + 1 + 1 + 1, k, none⟩ (.bool true))) :
    ReadAt b s2 w0 (w'.setCell ⟨b + 1 + 1 + 1, k, none⟩ (.bool true)) := by
  have hs : ∀ c, c ≠ b + 1 + 1 + 1 → (w'.setCell ⟨b + 1 + 1 + 1, k, none⟩ (.bool true)).heap[c]? = w'.heap[c]? := fun c hc => Below.heap_setCell w' ⟨b + 1 + 1 + 1, k, none⟩ (.bool true) c hc
  have hm0 := h.m.same (hk.block _ h.m.lt (by omega) (Apart.none _))
  refine ⟨hp.same (hs _ (by omega)), hm hm0, (h.f.same (hk.block _ h.f.lt (by omega) (Apart.none _))).same (hs _ (by omega)), (h.r.same (hk.block _ h.r.lt (by omega) (Apart.none _))).same (hs _ (by omega)), ?_⟩
  exact (h.below.trans (hk.below (by omega) (fun x hx => by cases hx) (Nat.le_of_lt h.r.lt))).setCell (by show b ≤ b + 1 + 1 + 1; omega) _

def takesD (s : St) (t : List UInt8) (k : Nat) : Bool :=
  if k = 0 then s.time.isNone && isTimeB t else if k = 1 then s.day.isNone && dig 1 2 t else if k = 2 then s.month.isNone && decide (0 < monL t) else s.year.isNone && dig 2 4 t

theorem step_no (s : St) (t : List UInt8) (h : ∀ k, k < 4 → takesD s t k = false) : stepD s t = s := by
  have h0 := h 0 (by omega)
  have h1 := h 1 (by omega)
  have h2 := h 2 (by omega)
  have h3 := h 3 (by omega)
  change (s.time.isNone && isTimeB t) = false at h0
  change (s.day.isNone && dig 1 2 t) = false at h1
  change (s.month.isNone && decide (0 < monL t)) = false at h2
  change (s.year.isNone && dig 2 4 t) = false at h3
  unfold stepD
  rw [h0, h1, h2, h3]
  rfl
theorem step_0 (s : St) (t : List UInt8) (h : s.time.isSome = false) (ht : isTimeB t = true) : stepD s t = { s with time := some (valL t, valL (timeB t), valL (timeB (timeB t))) } := by
  have e : s.time.isNone = true := by cases c : s.time with
    | none => rfl
    | some x => rw [c] at h; cases h
  unfold stepD
  rw [e, ht]
  rfl
theorem step_1 (s : St) (t : List UInt8) (h0 : takesD s t 0 = false) (h : s.day.isSome = false) (ht : dig 1 2 t = true) : stepD s t = { s with day := some (valL t) } := by
  have e : s.day.isNone = true := by cases c : s.day with
    | none => rfl
    | some x => rw [c] at h; cases h
  change (s.time.isNone && isTimeB t) = false at h0
  unfold stepD
  rw [h0, e, ht]
  rfl
theorem step_2 (s : St) (t : List UInt8) (h0 : takesD s t 0 = false) (h1 : takesD s t 1 = false) (h : s.month.isSome = false) (ht : decide (0 < monL t) = true) : stepD s t = { s with month := some (monL t) } := by
  have e : s.month.isNone = true := by cases c : s.month with
    | none => rfl
    | some x => rw [c] at h; cases h
  change (s.time.isNone && isTimeB t) = false at h0
  change (s.day.isNone && dig 1 2 t) = false at h1
  unfold stepD
  rw [h0, h1, e, ht]
  rfl
theorem step_3 (s : St) (t : List UInt8) (h0 : takesD s t 0 = false) (h1 : takesD s t 1 = false) (h2 : takesD s t 2 = false) (h : s.year.isSome = false) (ht : dig 2 4 t = true) : stepD s t = { s with year := some (valL t) } := by
  have e : s.year.isNone = true := by cases c : s.year with
    | none => rfl
    | some x => rw [c] at h; cases h
  change (s.time.isNone && isTimeB t) = false at h0
  change (s.day.isNone && dig 1 2 t) = false at h1
  change (s.month.isNone && decide (0 < monL t)) = false at h2
  unfold stepD
  rw [h0, h1, h2, e, ht]
  rfl
theorem takes_met (s : St) (t : List UInt8) : (s.time.isSome = true → takesD s t 0 = false) ∧ (s.day.isSome = true → takesD s t 1 = false) ∧ (s.month.isSome = true → takesD s t 2 = false) ∧ (s.year.isSome = true → takesD s t 3 = false) := by
  obtain ⟨a, b, c, d⟩ := s
  refine ⟨?_, ?_, ?_, ?_⟩
  · cases a <;> simp [takesD]
  · cases b <;> simp [takesD]
  · cases c <;> simp [takesD]
  · cases d <;> simp [takesD]
theorem takes_no (s : St) (t : List UInt8) : (isTimeB t = false → takesD s t 0 = false) ∧ (dig 1 2 t = false → takesD s t 1 = false) ∧ (decide (0 < monL t) = false → takesD s t 2 = false) ∧ (dig 2 4 t = false → takesD s t 3 = false) := by
  refine ⟨?_, ?_, ?_, ?_⟩
  · intro h; simp [takesD, h]
  · intro h; simp [takesD, h]
  · intro h; simp [takesD] at h ⊢; simp [h]
  · intro h; simp [takesD, h]
theorem upto_succ {P : Nat → Bool} {k : Nat} (h : ∀ j, j < k → P j = false) (hk : P k = false) : ∀ j, j < k + 1 → P j = false := fun j hj => by
  rcases Nat.lt_succ_iff_lt_or_eq.1 hj with h1 | rfl
  · exact h j h1
  · exact hk

theorem rows_of {w : World} {b : Nat} {c : Array Value} {e : TypeId} (h : w.heap[b]? = some (.cells c e (0, 0))) (i : Nat) (hi : i < c.size) : w.cell? ⟨b, i, none⟩ = some c[i] ∧ w.frozen? ⟨b, i, none⟩ = false := by
  refine ⟨?_, ?_⟩
  · rw [cell_of_row _ _ _ _ _ _ h]; simp [hi]
  · simp [World.frozen?, h]
theorem heap_new (w : World) (o : Obj) : (w.alloc o).heap[w.heap.size]? = some o := by
  show (w.heap.push o)[w.heap.size]? = some o
  simp
theorem size_new (w : World) (o : Obj) : (w.alloc o).heap.size = w.heap.size + 1 := by
  show (w.heap.push o).size = _
  simp
theorem four_new (w : World) (A B C D : Obj) (q : Nat) : (((((w.alloc A).alloc B).alloc C).alloc D).drewN q).heap[w.heap.size]? = some A ∧ (((((w.alloc A).alloc B).alloc C).alloc D).drewN q).heap[w.heap.size + 1]? = some B ∧
    (((((w.alloc A).alloc B).alloc C).alloc D).drewN q).heap[w.heap.size + 1 + 1]? = some C ∧ (((((w.alloc A).alloc B).alloc C).alloc D).drewN q).heap[w.heap.size + 1 + 1 + 1]? = some D ∧ Below w.heap.size w (((((w.alloc A).alloc B).alloc C).alloc D).drewN q) := by
  have hd : ∀ (v : World) (k : Nat), (v.drewN q).heap[k]? = v.heap[k]? := fun v k => rfl
  have s1 := size_new w A
  have s2 := size_new (w.alloc A) B
  have s3 := size_new ((w.alloc A).alloc B) C
  have s4 := size_new (((w.alloc A).alloc B).alloc C) D
  have b1 := Below.heap_alloc w A
  have b2 := Below.heap_alloc (w.alloc A) B
  have b3 := Below.heap_alloc ((w.alloc A).alloc B) C
  have b4 := Below.heap_alloc (((w.alloc A).alloc B).alloc C) D
  have h1 := heap_new w A
  have h2 := heap_new (w.alloc A) B
  have h3 := heap_new ((w.alloc A).alloc B) C
  have h4 := heap_new (((w.alloc A).alloc B).alloc C) D
  refine ⟨?_, ?_, ?_, ?_, below_drewN ((((below_alloc w A).alloc (by omega) B).alloc (by omega) C).alloc (by omega) D) q⟩
  · rw [hd, b4 _ (by omega), b3 _ (by omega), b2 _ (by omega), h1]
  · rw [hd, b4 _ (by omega), b3 _ (by omega), ← s1, h2]
  · rw [hd, b4 _ (by omega), ← s1, ← s2, h3]
  · rw [hd, ← s1, ← s2, ← s3, h4]
theorem readAt_new (w : World) (e1 e2 e3 e4 : TypeId) (q : Nat) : ReadAt w.heap.size St.none w
    (((((w.alloc (.cells #[.int .i64 0, .int .i64 0, .int .i64 0, .int .i64 0, .int .i64 0, .int .i64 0] e1)).alloc (.cells #[.int .i64 0, .int .i64 0, .int .i64 0, .int .i64 0, .int .i64 0, .int .i64 0] e2)).alloc
      (.cells #[.func (.func 31) #[] #[], .func (.func 32) #[] #[], .func (.func 33) #[] #[], .func (.func 34) #[] #[]] e3)).alloc
      (.cells #[.bool false, .bool false, .bool false, .bool false] e4)).drewN q) := by
  obtain ⟨r0, r1, r2, r3, hb⟩ := four_new w (.cells #[.int .i64 0, .int .i64 0, .int .i64 0, .int .i64 0, .int .i64 0, .int .i64 0] e1) (.cells #[.int .i64 0, .int .i64 0, .int .i64 0, .int .i64 0, .int .i64 0, .int .i64 0] e2)
    (.cells #[.func (.func 31) #[] #[], .func (.func 32) #[] #[], .func (.func 33) #[] #[], .func (.func 34) #[] #[]] e3) (.cells #[.bool false, .bool false, .bool false, .bool false] e4) q
  generalize World.drewN _ q = v at *
  refine ⟨⟨?_, ?_, ?_, ?_, ?_, ?_, fun i hi => (rows_of r1 i hi).2⟩, ⟨?_, ?_, ?_, ?_, fun i hi => (rows_of r3 i hi).2⟩, ⟨?_, ?_, ?_, ?_⟩, ⟨?_, ?_, ?_, ?_, ?_, ?_, fun i hi => (rows_of r0 i hi).2⟩, hb⟩
  · exact (rows_of r1 0 (by decide)).1
  · exact (rows_of r1 1 (by decide)).1
  · exact (rows_of r1 2 (by decide)).1
  · exact (rows_of r1 3 (by decide)).1
  · exact (rows_of r1 4 (by decide)).1
  · exact (rows_of r1 5 (by decide)).1
  · exact (rows_of r3 0 (by decide)).1
  · exact (rows_of r3 1 (by decide)).1
  · exact (rows_of r3 2 (by decide)).1
  · exact (rows_of r3 3 (by decide)).1
  · exact (rows_of r2 0 (by decide)).1
  · exact (rows_of r2 1 (by decide)).1
  · exact (rows_of r2 2 (by decide)).1
  · exact (rows_of r2 3 (by decide)).1
  · exact (rows_of r0 0 (by decide)).1
  · exact (rows_of r0 1 (by decide)).1
  · exact (rows_of r0 2 (by decide)).1
  · exact (rows_of r0 3 (by decide)).1
  · exact (rows_of r0 4 (by decide)).1
  · exact (rows_of r0 5 (by decide)).1
end Go.Proofs.YtcjkaciknfiekaaDoor
