/- Appending to a row of the call's own, for whatever is appended. No program in it. -/
import Derived.Test.YtfdiomghoheljaaMem
import Derived.Laws.AppendOwnNone
namespace Go.Proofs.Ytfdiomghoheljaa
open Go.RowKit
set_option linter.unusedVariables false

theorem grown_below {w w' : World} {base : Nat} {e : TypeId} {v : Value} {n size : Nat} {xs : List Value} (hown : w.ownsRow base e size v n xs) (hg : w.grownBy w' v.ownBlock) (hB : base ≤ w.heap.size) : Below base w w' :=
  (Below.refl _ _).grown hg hB fun k hk => (hown.lt k hk).1

theorem wpList_append_reads {P : Program} {w : World} {ops : Array Oper} {rest : List Oper} {o : Oper} {a : Act} {Q : Exit → Act → World → Prop} (hgd : o.guard = none) (s x : Operand) (t : TypeId)
    (ho : o.op = .call { callee := .builtin .append, args := #[s, x], argTypes := #[t, t] })
    (e : TypeId) (i : TypeInfo) (z : Value) (bytes : Nat) (ht : P.underlying t = some (.slice e)) (hi : P.info? e = some i) (hz : i.zero = some z) (hsize : i.size = 1) (hby : i.bytes = bytes) (hzs : z.cells.size = 1)
    {base : Nat} {v : Value} {n : Nat} {xs : List Value} (hown : w.ownsRow base e 1 v n xs) (hs : a.eval s = v)
    {ao : Option Addr} {m c : Nat} {news : List Value} (hr : Reads w ao news) (hx : a.eval x = .slice ao m c) (hm : news.length = m) (hc : ao = none → c = 0) (h1 : ∀ u ∈ news, u.oneCell' = true)
    (h63 : n + m ≤ maxLen) (hbytes : (n + m) * bytes ≤ 140737488355328) (hbase : base ≤ w.heap.size)
    (h : ∀ v' w', w'.ownsRow base e 1 v' (n + m) (xs ++ news) → Below base w w' → wpList P ops Q rest (a.put o.dst v') w') : wpList P ops Q (o :: rest) a w := by
  cases ao with
  | none =>
    have hn : news = [] := by
      cases news with
      | nil => rfl
      | cons y ys => obtain ⟨b, off, e0, _⟩ := hr 0 y rfl; cases e0
    subst hn
    simp only [List.length_nil] at hm
    subst hm
    have hc0 := hc rfl
    subst hc0
    refine wpList_append_own_none hgd s x t ho base e i 1 ht hi v n xs hs hown hx ?_
    exact h _ _ (by simpa using hown) (Below.refl _ _)
  | some ad =>
    refine wpList_append_own _ hgd s x t ho base e i z 1 bytes ht hi hz hsize hby hzs (by decide) v n xs hs hown ad m c news hx (by omega) (fun j u hu => ?_) h1 h63 hbytes hbase (fun v' w' h2 h3 _ => h v' w' h2 (grown_below hown h3 hbase))
    obtain ⟨b, off, e0, hcell⟩ := hr j u hu
    cases e0
    have hA : (⟨b, off, none⟩ : Addr).add j = ⟨b, off + j, none⟩ := by
      by_cases h0 : j = 0
      · subst h0; simp [Addr.add]
      · simp [Addr.add, h0]
    rw [hA]
    exact hcell

/-- One value appended: it lies first in a new block of its own. -/
theorem wpList_append_one {P : Program} {wr : World} {ops : Array Oper} {rest : List Oper} {o : Oper} {a : Act} {Q : Exit → Act → World → Prop} (hgd : o.guard = none) (s x : Operand) (t : TypeId)
    (ho : o.op = .call { callee := .builtin .append, args := #[s, x], argTypes := #[t, t] })
    (e : TypeId) (i : TypeInfo) (z : Value) (bytes : Nat) (ht : P.underlying t = some (.slice e)) (hi : P.info? e = some i) (hz : i.zero = some z) (hsize : i.size = 1) (hby : i.bytes = bytes) (hzs : z.cells.size = 1)
    {base : Nat} {v : Value} {n : Nat} {xs : List Value} (hown : wr.ownsRow base e 1 v n xs) (hs : a.eval s = v)
    {y : Value} {t' : TypeId} (hx : a.eval x = .slice (some ⟨wr.heap.size, 0, none⟩) 1 1) (h1 : y.oneCell' = true)
    (h63 : n + 1 ≤ maxLen) (hbytes : (n + 1) * bytes ≤ 140737488355328) (hbase : base ≤ wr.heap.size)
    (h : ∀ v' w', w'.ownsRow base e 1 v' (n + 1) (xs ++ [y]) → Below base wr w' → wpList P ops Q rest (a.put o.dst v') w') : wpList P ops Q (o :: rest) a (wr.alloc (.cells #[y] t')) := by
  refine wpList_append_own _ hgd s x t ho base e i z 1 bytes ht hi hz hsize hby hzs (by decide) v n xs hs (hown.alloc _) ⟨wr.heap.size, 0, none⟩ 1 1 [y] hx rfl (cell_one_new _ _ _) (fun u hu => by simp at hu; subst hu; exact h1) h63 hbytes (by simp; omega) (fun v' w' h2 h3 _ => h v' w' h2 ?_)
  exact ((Below.refl _ _).alloc hbase _).grown h3 (by simp; omega) fun k hk => (hown.lt k hk).1

theorem bytes_one (l : List Int) (k : IntKind) : ∀ u ∈ l.map (Value.int k), u.oneCell' = true := by
  intro u hu
  obtain ⟨x, _, rfl⟩ := List.mem_map.mp hu
  rfl

theorem Reads.cut {w : World} {b off : Nat} {xs ys : List Value} (h : Reads w (some ⟨b, off, none⟩) (xs ++ ys)) : Reads w (some ⟨b, off + xs.length, none⟩) ys := fun i v hv => by
  obtain ⟨b', off', e, hc⟩ := h (xs.length + i) v (by rw [List.getElem?_append_right (by omega)]; simpa using hv)
  cases e
  exact ⟨b, off + xs.length, rfl, by rw [Nat.add_assoc]; exact hc⟩
/-- What stands behind a cut 's[n:]', as the model writes its address. -/
theorem Reads.cut_if {w : World} {b off c : Nat} {xs ys : List Value} (h : Reads w (some ⟨b, off, none⟩) (xs ++ ys)) (q : Nat) (hq : xs.length = q) (hc : c = q → ys = []) :
    Reads w (if c = q then some ⟨b, off, none⟩ else some ⟨b, off + q, none⟩) ys := by
  subst hq
  by_cases e : c = xs.length
  · rw [hc e]; exact Reads.nil _ _
  · rw [if_neg e]; exact h.cut
theorem Reads.head {w : World} {a : Option Addr} {xs ys : List Value} (h : Reads w a (xs ++ ys)) : Reads w a xs := fun i v hv => by
  have hi : i < xs.length := by
    rcases Nat.lt_or_ge i xs.length with h | h
    · exact h
    · rw [List.getElem?_eq_none h] at hv; cases hv
  exact h i v (by rw [List.getElem?_append_left hi]; exact hv)

/-- A row of the call's own, as a slice that is read. -/
theorem owns_open {w : World} {base : Nat} {e : TypeId} {v : Value} {n : Nat} {xs : List Value} (h : w.ownsRow base e 1 v n xs) :
    ∃ a c, v = .slice a n c ∧ Reads w a xs ∧ (a = none → c = 0) ∧ n ≤ c ∧ c ≤ maxLen ∧ xs.length = n := by
  obtain ⟨a, c, rfl, h1, h2, h3, _, h5⟩ := owns_reads h
  refine ⟨a, c, rfl, h1, fun e0 => ?_, h2, h3, h5⟩
  subst e0
  rcases h.2 with ⟨hv, _⟩ | ⟨g, cap, cur, hv, _⟩
  · cases hv; rfl
  · cases hv

/-- A slice of the call's own, in new memory: its values are xs, N of them. -/
def Owned (base : Nat) (e : TypeId) (a : Option Addr) (n c : Nat) (xs : List Value) (w : World) : Prop :=
  w.ownsRow base e 1 (.slice a n c) n xs ∧ Reads w a xs ∧ (a = none → c = 0) ∧ n ≤ c ∧ c ≤ maxLen ∧ xs.length = n
theorem Owned.reads {base : Nat} {e : TypeId} {a : Option Addr} {n c : Nat} {xs : List Value} {w : World} (h : Owned base e a n c xs w) : Reads w a xs := h.2.1
theorem Owned.nil0 {base : Nat} {e : TypeId} {a : Option Addr} {n c : Nat} {xs : List Value} {w : World} (h : Owned base e a n c xs w) : a = none → c = 0 := h.2.2.1
theorem Owned.len {base : Nat} {e : TypeId} {a : Option Addr} {n c : Nat} {xs : List Value} {w : World} (h : Owned base e a n c xs w) : xs.length = n := h.2.2.2.2.2
theorem Owned.head {base : Nat} {e : TypeId} {a : Option Addr} {n c : Nat} {xs : List Value} {w : World} (h : Owned base e a n c xs w) (hn : 1 ≤ n) : ∃ g, a = some ⟨g, 0, none⟩ ∧ base ≤ g ∧ g < w.heap.size := by
  rcases h.1.2 with ⟨hv, hx⟩ | ⟨g, cap, cur, hv, hb, hg, _⟩
  · cases hv
    omega
  · cases hv
    refine ⟨g, rfl, hb, ?_⟩
    rcases Nat.lt_or_ge g w.heap.size with h | h
    · exact h
    · rw [Array.getElem?_eq_none h] at hg; cases hg
theorem Owned.below {base B : Nat} {e : TypeId} {a : Option Addr} {n c : Nat} {xs : List Value} {w w' : World} (h : Owned base e a n c xs w) (hb : Below B w w') (hB : w.heap.size ≤ B) : Owned base e a n c xs w' :=
  ⟨owns_below h.1 hb hB, h.2.1.below' (hb.mono hB), h.2.2⟩
theorem Owned.base {base base' : Nat} {e : TypeId} {a : Option Addr} {n c : Nat} {xs : List Value} {w : World} (h : Owned base e a n c xs w) (hb : base' ≤ base) : Owned base' e a n c xs w := ⟨owns_base h.1 hb, h.2⟩
theorem Owned.of {w : World} {base : Nat} {e : TypeId} {v : Value} {n : Nat} {xs : List Value} (h : w.ownsRow base e 1 v n xs) : ∃ a c, v = .slice a n c ∧ Owned base e a n c xs w := by
  obtain ⟨a, c, rfl, h1⟩ := owns_open h
  exact ⟨a, c, rfl, h, h1⟩

theorem wpList_append_to {P : Program} {w : World} {ops : Array Oper} {rest : List Oper} {o : Oper} {a : Act} {Q : Exit → Act → World → Prop} (hgd : o.guard = none) (s x : Operand) (t : TypeId)
    (ho : o.op = .call { callee := .builtin .append, args := #[s, x], argTypes := #[t, t] })
    (e : TypeId) (i : TypeInfo) (z : Value) (bytes : Nat) (ht : P.underlying t = some (.slice e)) (hi : P.info? e = some i) (hz : i.zero = some z) (hsize : i.size = 1) (hby : i.bytes = bytes) (hzs : z.cells.size = 1)
    {base : Nat} {a0 : Option Addr} {n c0 : Nat} {xs : List Value} (hown : Owned base e a0 n c0 xs w) (hs : a.eval s = .slice a0 n c0)
    {ao : Option Addr} {m c : Nat} {news : List Value} (hr : Reads w ao news) (hx : a.eval x = .slice ao m c) (hm : news.length = m) (hc : ao = none → c = 0) (h1 : ∀ u ∈ news, u.oneCell' = true)
    (N : Nat) (hN : n + m = N) (h63 : N ≤ maxLen) (hbytes : N * bytes ≤ 140737488355328) (hbase : base ≤ w.heap.size)
    (h : ∀ a' c' w', Owned base e a' N c' (xs ++ news) w' → Below base w w' → wpList P ops Q rest (a.put o.dst (.slice a' N c')) w') : wpList P ops Q (o :: rest) a w := by
  subst hN
  refine wpList_append_reads hgd s x t ho e i z bytes ht hi hz hsize hby hzs hown.1 hs hr hx hm hc h1 h63 hbytes hbase fun v' w' h2 h3 => ?_
  obtain ⟨a', c', rfl, h4⟩ := Owned.of h2
  exact h a' c' w' h4 h3

/-- Appended to the empty literal, which lies in a new block. -/
theorem wpList_append_lit {P : Program} {wr : World} {ops : Array Oper} {rest : List Oper} {o : Oper} {a : Act} {Q : Exit → Act → World → Prop} (hgd : o.guard = none) (s x : Operand) (t : TypeId)
    (ho : o.op = .call { callee := .builtin .append, args := #[s, x], argTypes := #[t, t] })
    (e : TypeId) (i : TypeInfo) (z : Value) (bytes : Nat) (ht : P.underlying t = some (.slice e)) (hi : P.info? e = some i) (hz : i.zero = some z) (hsize : i.size = 1) (hby : i.bytes = bytes) (hzs : z.cells.size = 1)
    (hs : a.eval s = .slice (some ⟨wr.heap.size, 0, none⟩) 0 0)
    {ao : Option Addr} {m c : Nat} {news : List Value} (hr : Reads wr ao news) (hx : a.eval x = .slice ao m c) (hm : news.length = m) (hc : ao = none → c = 0) (h1 : ∀ u ∈ news, u.oneCell' = true)
    (h63 : m ≤ maxLen) (hbytes : m * bytes ≤ 140737488355328)
    (h : ∀ a' c' w', Owned wr.heap.size e a' m c' news w' → Below wr.heap.size wr w' → wpList P ops Q rest (a.put o.dst (.slice a' m c')) w') : wpList P ops Q (o :: rest) a (wr.alloc (.cells #[] e)) := by
  have hlit : (wr.alloc (.cells #[] e)).ownsRow wr.heap.size e 1 (.slice (some ⟨wr.heap.size, 0, none⟩) 0 0) 0 [] := World.ownsRow_lit _ #[] 0 (Nat.le_refl _) (by unfold maxLen; omega) rfl
  have hal : Below wr.heap.size wr (wr.alloc (.cells #[] e)) := (Below.refl _ _).alloc (Nat.le_refl _) _
  refine wpList_append_reads hgd s x t ho e i z bytes ht hi hz hsize hby hzs hlit hs (hr.below' hal) hx hm hc h1 (by omega) (by rw [Nat.zero_add]; exact hbytes) (by simp) fun v' w' h2 h3 => ?_
  rw [Nat.zero_add, List.nil_append] at h2
  obtain ⟨a', c', rfl, h4⟩ := Owned.of h2
  exact h a' c' w' h4 (hal.trans h3)

/-- The empty literal itself. -/
theorem owned_lit (w : World) (e : TypeId) : Owned w.heap.size e (some ⟨w.heap.size, 0, none⟩) 0 0 [] (w.alloc (.cells #[] e)) := by
  have h : (w.alloc (.cells #[] e)).ownsRow w.heap.size e 1 (.slice (some ⟨w.heap.size, 0, none⟩) 0 0) 0 [] := World.ownsRow_lit _ #[] 0 (Nat.le_refl _) (by unfold maxLen; omega) rfl
  obtain ⟨a, c, e1, h1⟩ := owns_open h
  cases e1
  exact ⟨h, h1⟩

/-- A contract's row of values in new memory. -/
def GivesOwned (e : TypeId) (xs : List Value) (n : Nat) (w : World) (en : Ending) (w' : World) : Prop :=
  ∃ a c, en = .returned (.slice a n c) ∧ Owned w.heap.size e a n c xs w' ∧ Below w.heap.size w w'

/-- A literal's values, in a new block. -/
theorem reads_new (w : World) (xs : List Value) (e : TypeId) : Reads (w.alloc (.cells xs.toArray e)) (some ⟨w.heap.size, 0, none⟩) xs := fun i v hv => by
  refine ⟨w.heap.size, 0, rfl, ?_⟩
  rw [Nat.zero_add, World.cell?_alloc_at _ _ _ _ rfl]
  simpa using hv
theorem below_alloc (w : World) (o : Obj) : Below w.heap.size w (w.alloc o) := (Below.refl _ _).alloc (Nat.le_refl _) _

/-- A guarded operation whose guard says yes goes as one without a guard. -/
theorem wpList_guard {P : Program} {w : World} {ops : Array Oper} {rest : List Oper} {o : Oper} {a : Act} {Q : Exit → Act → World → Prop} (hw : Region.wanted o (yielded ops a.tmps) = true)
    (h : wpList P ops Q ({ o with guard := none } :: rest) a w) : wpList P ops Q (o :: rest) a w := by
  unfold wpList at h ⊢
  rw [if_pos hw]
  rw [if_pos (by simp [Region.wanted])] at h
  exact h
theorem Reads.drewN {w : World} {a : Option Addr} {xs : List Value} (h : Reads w a xs) (n : Nat) : Reads (w.drewN n) a xs := h.same (fun x => by simp)
end Go.Proofs.Ytfdiomghoheljaa
