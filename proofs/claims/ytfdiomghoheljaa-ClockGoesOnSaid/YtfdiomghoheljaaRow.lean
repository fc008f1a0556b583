/- Slices of elements of several cells: rows that are read, rows of the call's own, appending to them; structs of strings, numbers and flags, cell by cell. No program in it. -/
import Derived.Test.YtfdiomghoheljaaStr
import Derived.Test.YtfdiomghoheljaaOwnAt
import Derived.Test.YtfdiomghoheljaaFields
namespace Go.Proofs.Ytfdiomghoheljaa
open Go.ChangeShapes Go.WideShapes Go.RowKit
set_option linter.unusedVariables false

/-- All elements' cells, one behind the other. -/
def flatC {α : Type} (enc : α → List Value) (P : List α) : List Value := P.flatMap enc

theorem flatC_len {α : Type} {enc : α → List Value} {z : Nat} (hz : ∀ x, (enc x).length = z) : ∀ P : List α, (flatC enc P).length = P.length * z
  | [] => by simp [flatC]
  | x :: r => by
    have := flatC_len hz r
    unfold flatC at *
    rw [List.flatMap_cons, List.length_append, this, hz, List.length_cons, Nat.add_mul]
    omega

theorem flatC_app {α : Type} {enc : α → List Value} (P Q : List α) : flatC enc (P ++ Q) = flatC enc P ++ flatC enc Q := by
  unfold flatC
  exact List.flatMap_append

theorem flatC_one {α : Type} {enc : α → List Value} (x : α) : flatC enc [x] = enc x := by simp [flatC]

theorem flatC_at {α : Type} {enc : α → List Value} {z : Nat} (hz : ∀ x, (enc x).length = z) : ∀ (P : List α) (i : Nat) (x : α) (j : Nat) (v : Value), P[i]? = some x → (enc x)[j]? = some v → (flatC enc P)[i * z + j]? = some v
  | [], i, x, j, v, h, hv => by simp at h
  | y :: r, 0, x, j, v, h, hv => by
    simp only [List.getElem?_cons_zero, Option.some.injEq] at h
    subst h
    unfold flatC
    rw [List.flatMap_cons, Nat.zero_mul, Nat.zero_add, List.getElem?_append_left (List.getElem?_eq_some_iff.1 hv).1]
    exact hv
  | y :: r, i + 1, x, j, v, h, hv => by
    have := flatC_at hz r i x j v (by simpa using h) hv
    unfold flatC at *
    have hl := hz y
    rw [List.flatMap_cons, List.getElem?_append_right (by rw [hl, Nat.add_mul]; omega), hl]
    have e : (i + 1) * z + j - z = i * z + j := by rw [Nat.add_mul]; omega
    rw [e]
    exact this

/-- A slice of elements of z cells each, that is read. -/
structure RowOf {α : Type} (enc : α → List Value) (z : Nat) (w : World) (a : Option Addr) (len cap : Nat) (P : List α) : Prop where
  leq : P.length = len
  cle : len ≤ cap
  capm : cap ≤ maxLen
  nil0 : a = none → cap = 0
  at_ : ∀ (i : Nat) (x : α), P[i]? = some x → ∃ g off, a = some ⟨g, off, none⟩ ∧ ∀ (j : Nat) (v : Value), (enc x)[j]? = some v → w.cell? ⟨g, off + i * z + j, none⟩ = some v

theorem RowOf.below {α : Type} {enc : α → List Value} {z : Nat} {w w' : World} {a : Option Addr} {len cap : Nat} {P : List α} (h : RowOf enc z w a len cap P) (hb : Below w.heap.size w w') : RowOf enc z w' a len cap P :=
  ⟨h.leq, h.cle, h.capm, h.nil0, fun i x hx => by
    obtain ⟨g, off, e, hc⟩ := h.at_ i x hx
    exact ⟨g, off, e, fun j v hv => (hb.cell (p := ⟨g, off + i * z + j, none⟩) (cell_lt (hc j v hv))).trans (hc j v hv)⟩⟩

theorem RowOf.at {α : Type} {enc : α → List Value} {z : Nat} {w : World} {a : Option Addr} {len cap : Nat} {P : List α} (h : RowOf enc z w a len cap P) (k : Nat) (hk : k < len) :
    ∃ x g off, P[k]? = some x ∧ a = some ⟨g, off, none⟩ ∧ ∀ (j : Nat) (v : Value), (enc x)[j]? = some v → w.cell? ⟨g, off + k * z + j, none⟩ = some v := by
  have hk' : k < P.length := by rw [h.leq]; exact hk
  obtain ⟨g, off, e, hc⟩ := h.at_ k P[k] (List.getElem?_eq_getElem hk')
  exact ⟨P[k], g, off, List.getElem?_eq_getElem hk', e, hc⟩

/-- A slice of the call's own, in new memory, of elements of z cells each. -/
def OwnZ {α : Type} (enc : α → List Value) (z base : Nat) (e : TypeId) (a : Option Addr) (n c : Nat) (P : List α) (w : World) : Prop :=
  w.ownsRow base e z (.slice a n c) n (flatC enc P) ∧ P.length = n ∧ n ≤ c ∧ c ≤ maxLen

theorem OwnZ.head {α : Type} {enc : α → List Value} {z base : Nat} {e : TypeId} {a : Option Addr} {n c : Nat} {P : List α} {w : World} (h : OwnZ enc z base e a n c P w) : (a = none ∧ n = 0 ∧ c = 0) ∨ ∃ g, a = some ⟨g, 0, none⟩ ∧ base ≤ g ∧ g < w.heap.size := by
  rcases h.1.2 with ⟨hv, hn⟩ | ⟨g, cap, cur, hv, hb, hg, _⟩
  · cases hv; exact .inl ⟨rfl, rfl, rfl⟩
  · cases hv
    refine .inr ⟨g, rfl, hb, ?_⟩
    rcases Nat.lt_or_ge g w.heap.size with h | h
    · exact h
    · rw [Array.getElem?_eq_none h] at hg; cases hg

theorem OwnZ.row {α : Type} {enc : α → List Value} {z base : Nat} {e : TypeId} {a : Option Addr} {n c : Nat} {P : List α} {w : World} (hz : ∀ x, (enc x).length = z) (h : OwnZ enc z base e a n c P w) : RowOf enc z w a n c P := by
  refine ⟨h.2.1, h.2.2.1, h.2.2.2, fun e0 => ?_, fun i x hx => ?_⟩
  · rcases h.head with ⟨-, -, h⟩ | ⟨g, h, -⟩
    · exact h
    · rw [e0] at h; cases h
  · have hi : i < n := by have := (List.getElem?_eq_some_iff.1 hx).1; rw [h.2.1] at this; exact this
    rcases h.head with ⟨-, h, -⟩ | ⟨g, rfl, -⟩
    · omega
    · refine ⟨g, 0, rfl, fun j v hv => ?_⟩
      have hj : j < z := by have := (List.getElem?_eq_some_iff.1 hv).1; rw [hz] at this; exact this
      have h1 : i * z + j < n * z := by
        have : (i + 1) * z ≤ n * z := Nat.mul_le_mul_right z hi
        rw [Nat.add_mul] at this
        omega
      rw [Nat.zero_add, World.ownsRow.cellAt h.1 (i * z + j) h1]
      exact flatC_at hz P i x j v hx hv

theorem OwnZ.below {α : Type} {enc : α → List Value} {z base B : Nat} {e : TypeId} {a : Option Addr} {n c : Nat} {P : List α} {w w' : World} (h : OwnZ enc z base e a n c P w) (hb : Below B w w') (hB : w.heap.size ≤ B) : OwnZ enc z base e a n c P w' :=
  ⟨owns_below h.1 hb hB, h.2⟩

theorem OwnZ.base {α : Type} {enc : α → List Value} {z base base' : Nat} {e : TypeId} {a : Option Addr} {n c : Nat} {P : List α} {w : World} (h : OwnZ enc z base e a n c P w) (hb : base' ≤ base) : OwnZ enc z base' e a n c P w :=
  ⟨owns_base h.1 hb, h.2⟩

/-- Nothing yet: the nil slice, and the empty literal. -/
theorem OwnZ.none {α : Type} (enc : α → List Value) (z base : Nat) (e : TypeId) (w : World) : OwnZ enc z base e none 0 0 [] w :=
  ⟨⟨by simp [flatC], .inl ⟨rfl, rfl⟩⟩, rfl, Nat.le_refl _, by unfold maxLen; omega⟩

theorem OwnZ.lit {α : Type} (enc : α → List Value) (z : Nat) (e : TypeId) (w : World) : OwnZ enc z w.heap.size e (some ⟨w.heap.size, 0, .none⟩) 0 0 [] (w.alloc (.cells #[] e)) :=
  ⟨World.ownsRow_lit _ #[] 0 (Nat.le_refl _) (by unfold maxLen; omega) (by simp), rfl, Nat.le_refl _, by unfold maxLen; omega⟩

/-- A literal of elements, in a new block. -/
theorem OwnZ.new {α : Type} {enc : α → List Value} {z : Nat} (hz : ∀ x, (enc x).length = z) (P : List α) (C : Array Value) (hC : C.toList = flatC enc P) (n : Nat) (hn : P.length = n) (hm : n ≤ maxLen) (e : TypeId) (w : World) :
    OwnZ enc z w.heap.size e (some ⟨w.heap.size, 0, .none⟩) n n P (w.alloc (.cells C e)) := by
  refine ⟨?_, hn, Nat.le_refl _, hm⟩
  rw [← hC]
  refine World.ownsRow_lit _ C n (Nat.le_refl _) hm ?_
  have := flatC_len hz P
  rw [← hC, hn] at this
  simpa using this

theorem RowOf.cellsOf {α : Type} {enc : α → List Value} {z : Nat} (hz : ∀ x, (enc x).length = z) {w : World} {g off : Nat} {len cap : Nat} {P : List α} (h : RowOf enc z w (some ⟨g, off, none⟩) len cap P) (j : Nat) (u : Value) (hu : (flatC enc P)[j]? = some u) : w.cell? ⟨g, off + j, none⟩ = some u := by
  have hl := flatC_len hz P
  have hj := (List.getElem?_eq_some_iff.1 hu).1
  rw [hl] at hj
  have hz0 : 0 < z := by
    rcases Nat.eq_zero_or_pos z with h0 | h0
    · rw [h0] at hj; omega
    · exact h0
  have hi : j / z < P.length := Nat.div_lt_of_lt_mul (by rw [Nat.mul_comm]; exact hj)
  obtain ⟨g', off', e, hc⟩ := h.at_ (j / z) _ (List.getElem?_eq_getElem hi)
  cases e
  have hm : j % z < (enc P[j / z]).length := by rw [hz]; exact Nat.mod_lt _ hz0
  have h2 := hc (j % z) _ (List.getElem?_eq_getElem hm)
  have h3 := flatC_at hz P (j / z) _ (j % z) _ (List.getElem?_eq_getElem hi) (List.getElem?_eq_getElem hm)
  have e1 : j / z * z + j % z = j := by rw [Nat.mul_comm]; exact Nat.div_add_mod j z
  rw [e1, hu] at h3
  rw [Nat.add_assoc, e1] at h2
  rw [h2, ← h3]

/-- An append of elements onto a slice of the call's own, and where the new slice lies. -/
theorem wp_append_rows {α : Type} {enc : α → List Value} {z : Nat} (hz : ∀ x, (enc x).length = z) (hz0 : 0 < z) (hone : ∀ x, ∀ u ∈ enc x, u.oneCell' = true) {P : Program} {w : World} {o : Oper} {a : Act} {K : Act → World → Prop} {Q : Exit → Act → World → Prop} (s x : Operand) (t : TypeId)
    (ho : o.op = .call { callee := .builtin .append, args := #[s, x], argTypes := #[t, t] })
    (e : TypeId) (i : TypeInfo) (z0 : Value) (bytes : Nat) (ht : P.underlying t = some (.slice e)) (hi : P.info? e = some i) (hzz : i.zero = some z0) (hsize : i.size = z) (hby : i.bytes = bytes) (hzs : z0.cells.size = z)
    {base : Nat} {a0 : Option Addr} {n c0 : Nat} {xs : List α} (hown : OwnZ enc z base e a0 n c0 xs w) (hs : a.eval s = .slice a0 n c0)
    {ao : Option Addr} {m c : Nat} {news : List α} (hr : RowOf enc z w ao m c news) (hx : a.eval x = .slice ao m c)
    (N : Nat) (hN : n + m = N) (h63 : N ≤ maxLen) (hbytes : N * bytes ≤ 140737488355328) (hbase : base ≤ w.heap.size)
    (h : ∀ a' c' w', OwnZ enc z base e a' N c' (xs ++ news) w' → Below base w w' → GrownBut w w' a0 → (a' = a0 ∨ ∃ g, a' = some ⟨g, 0, none⟩ ∧ w.heap.size ≤ g) → K (a.put o.dst (.slice a' N c')) w') : Oper.wp P o a w K Q := by
  subst hN
  have h1 : ∀ u ∈ flatC enc news, u.oneCell' = true := fun u hu => by
    obtain ⟨y, -, hy⟩ := List.mem_flatMap.1 hu
    exact hone y u hy
  have hrun : ∃ v' w', (Builtin.append_ #[t, t] o.type #[.slice a0 n c0, .slice ao m c]).run P w = .ok v' w' ∧ w'.ownsRow base e z v' (n + m) (flatC enc (xs ++ news)) ∧ w.grownBy w' (Value.slice a0 n c0).ownBlock ∧ (v'.ownBlock = (Value.slice a0 n c0).ownBlock ∨ v'.ownBlock = some w.heap.size) := by
    rw [flatC_app]
    cases ao with
    | none =>
      have hc0 := hr.nil0 rfl
      have hm0 : m = 0 := by have := hr.cle; omega
      subst hc0
      subst hm0
      have hn : news = [] := List.length_eq_zero_iff.1 hr.leq
      subst hn
      have hrn := run_append_owned_none (P := P) (w := w) base t o.type e i z ht hi _ n (flatC enc xs) hown.1
      exact ⟨_, w, hrn, by simpa [flatC] using hown.1, ⟨rfl, rfl, rfl, Nat.le_refl _, fun _ _ _ => rfl⟩, .inl rfl⟩
    | some ad =>
      by_cases hm : m = 0
      · subst hm
        have hn : news = [] := List.length_eq_zero_iff.1 hr.leq
        subst hn
        obtain ⟨v', w', h2, h3, h4, _, h5⟩ := run_append_own_at (P := P) w base t o.type e i z0 z bytes ht hi hzz hsize hby hzs hz0 _ n (flatC enc xs) hown.1 ad 0 c [] (by simp) (fun j u hu => by simp at hu) (by simp) h63 hbytes hbase
        exact ⟨v', w', h2, by simpa [flatC] using h3, h4, h5⟩
      · obtain ⟨y, g, off, -, e1, -⟩ := hr.at 0 (by omega)
        cases e1
        obtain ⟨v', w', h2, h3, h4, _, h5⟩ := run_append_own_at (P := P) w base t o.type e i z0 z bytes ht hi hzz hsize hby hzs hz0 _ n (flatC enc xs) hown.1 ⟨g, off, none⟩ m c (flatC enc news) (by rw [flatC_len hz, hr.leq]) (fun j u hu => by
          have hc := hr.cellsOf hz j u hu
          have hA : (⟨g, off, none⟩ : Addr).add j = ⟨g, off + j, none⟩ := by
            by_cases h0 : j = 0
            · subst h0; simp [Addr.add]
            · simp [Addr.add, h0]
          rw [hA]
          exact hc) h1 h63 hbytes hbase
        exact ⟨v', w', h2, h3, h4, h5⟩
  obtain ⟨v', w', h2, h3, h4, h5⟩ := hrun
  unfold Oper.wp execOp
  simp only [ho, resolve, invoke, builtin, Sem.run_bind, Sem.run_pure, Result.andThen_ok, List.map_toArray, List.map_cons, List.map_nil, hs, hx, h2]
  have hlen : (xs ++ news).length = n + m := by rw [List.length_append, hown.2.1, hr.leq]
  have hv' : ∃ a' c', v' = .slice a' (n + m) c' ∧ n + m ≤ c' ∧ c' ≤ maxLen := by
    rcases h3.2 with ⟨hv, hn0⟩ | ⟨g, cap, cur, hv, hb, hg, hnc, hcm, _⟩
    · exact ⟨.none, 0, by rw [hv, hn0], by omega, by unfold maxLen; omega⟩
    · exact ⟨_, cap, hv, hnc, hcm⟩
  obtain ⟨a', c', rfl, hle, hcm⟩ := hv'
  have h6 : OwnZ enc z base e a' (n + m) c' (xs ++ news) w' := ⟨h3, hlen, hle, hcm⟩
  refine h a' c' w' h6 (grown_below hown.1 h4 hbase) ⟨h4.size, fun k hk ha => h4.block k hk fun e0 => ?_⟩ ?_
  · cases a0 with
    | none => simp [Value.ownBlock] at e0
    | some x0 => exact ha x0 rfl (by simpa [Value.ownBlock] using e0.symm)
  · rcases h6.1.2 with ⟨hv, hn0⟩ | ⟨g, cap, cur, hv, hb, hg, _⟩
    · simp only [Value.slice.injEq] at hv
      obtain ⟨rfl, -, -⟩ := hv
      rcases h5 with h5 | h5
      · cases a0 with
        | none => exact .inl rfl
        | some x0 => simp [Value.ownBlock] at h5
      · simp [Value.ownBlock] at h5
    · simp only [Value.slice.injEq] at hv
      obtain ⟨rfl, -, -⟩ := hv
      rcases h5 with h5 | h5
      · cases a0 with
        | none => simp [Value.ownBlock] at h5
        | some x0 =>
          rcases hown.1.2 with ⟨hv0, _⟩ | ⟨g0, cap0, cur0, hv0, _⟩
          · cases hv0
          · cases hv0
            simp [Value.ownBlock] at h5
            subst h5
            exact .inl rfl
      · simp [Value.ownBlock] at h5
        exact .inr ⟨g, rfl, by omega⟩

theorem wpList_append_rows {α : Type} {enc : α → List Value} {z : Nat} (hz : ∀ x, (enc x).length = z) (hz0 : 0 < z) (hone : ∀ x, ∀ u ∈ enc x, u.oneCell' = true) {P : Program} {w : World} {ops : Array Oper} {rest : List Oper} {o : Oper} {a : Act} {Q : Exit → Act → World → Prop} (hgd : o.guard = none) (s x : Operand) (t : TypeId)
    (ho : o.op = .call { callee := .builtin .append, args := #[s, x], argTypes := #[t, t] })
    (e : TypeId) (i : TypeInfo) (z0 : Value) (bytes : Nat) (ht : P.underlying t = some (.slice e)) (hi : P.info? e = some i) (hzz : i.zero = some z0) (hsize : i.size = z) (hby : i.bytes = bytes) (hzs : z0.cells.size = z)
    {base : Nat} {a0 : Option Addr} {n c0 : Nat} {xs : List α} (hown : OwnZ enc z base e a0 n c0 xs w) (hs : a.eval s = .slice a0 n c0)
    {ao : Option Addr} {m c : Nat} {news : List α} (hr : RowOf enc z w ao m c news) (hx : a.eval x = .slice ao m c)
    (N : Nat) (hN : n + m = N) (h63 : N ≤ maxLen) (hbytes : N * bytes ≤ 140737488355328) (hbase : base ≤ w.heap.size)
    (h : ∀ a' c' w', OwnZ enc z base e a' N c' (xs ++ news) w' → Below base w w' → GrownBut w w' a0 → (a' = a0 ∨ ∃ g, a' = some ⟨g, 0, none⟩ ∧ w.heap.size ≤ g) → wpList P ops Q rest (a.put o.dst (.slice a' N c')) w') : wpList P ops Q (o :: rest) a w :=
  wpList_plain hgd fun K hK => wp_append_rows hz hz0 hone s x t ho e i z0 bytes ht hi hzz hsize hby hzs hown hs hr hx N hN h63 hbytes hbase fun a' c' w' h1 h2 h3 h4 => hK _ _ (h a' c' w' h1 h2 h3 h4)

/-- The same as a step of a region that draws its order. -/
theorem step_append_rows {α : Type} {enc : α → List Value} {z : Nat} (hz : ∀ x, (enc x).length = z) (hz0 : 0 < z) (hone : ∀ x, ∀ u ∈ enc x, u.oneCell' = true) {P : Program} {w : World} {ops : Array Oper} {o : Oper} {a : Act} {K : Act → World → Prop} {E : Prop} {Q : Exit → Act → World → Prop} (hgd : o.guard = none) (s x : Operand) (t : TypeId)
    (ho : o.op = .call { callee := .builtin .append, args := #[s, x], argTypes := #[t, t] })
    (e : TypeId) (i : TypeInfo) (z0 : Value) (bytes : Nat) (ht : P.underlying t = some (.slice e)) (hi : P.info? e = some i) (hzz : i.zero = some z0) (hsize : i.size = z) (hby : i.bytes = bytes) (hzs : z0.cells.size = z)
    {base : Nat} {a0 : Option Addr} {n c0 : Nat} {xs : List α} (hown : OwnZ enc z base e a0 n c0 xs w) (hs : a.eval s = .slice a0 n c0)
    {ao : Option Addr} {m c : Nat} {news : List α} (hr : RowOf enc z w ao m c news) (hx : a.eval x = .slice ao m c)
    (N : Nat) (hN : n + m = N) (h63 : N ≤ maxLen) (hbytes : N * bytes ≤ 140737488355328) (hbase : base ≤ w.heap.size)
    (h : ∀ a' c' w', OwnZ enc z base e a' N c' (xs ++ news) w' → Below base w w' → GrownBut w w' a0 → (a' = a0 ∨ ∃ g, a' = some ⟨g, 0, none⟩ ∧ w.heap.size ≤ g) → K (a.put o.dst (.slice a' N c')) w') : if Region.wanted o (yielded ops a.tmps) = true then Oper.wp P o a w K Q else E := by
  rw [if_pos (by simp [Region.wanted, hgd])]
  exact wp_append_rows hz hz0 hone s x t ho e i z0 bytes ht hi hzz hsize hby hzs hown hs hr hx N hN h63 hbytes hbase h

/-- One element appended: it lies first in a new block of its own. -/
theorem wp_append_row1 {α : Type} {enc : α → List Value} {z : Nat} (hz : ∀ x, (enc x).length = z) (hz0 : 0 < z) (hone : ∀ x, ∀ u ∈ enc x, u.oneCell' = true) {P : Program} {wr : World} {o : Oper} {a : Act} {K : Act → World → Prop} {Q : Exit → Act → World → Prop} (s x : Operand) (t : TypeId)
    (ho : o.op = .call { callee := .builtin .append, args := #[s, x], argTypes := #[t, t] })
    (e : TypeId) (i : TypeInfo) (z0 : Value) (bytes : Nat) (ht : P.underlying t = some (.slice e)) (hi : P.info? e = some i) (hzz : i.zero = some z0) (hsize : i.size = z) (hby : i.bytes = bytes) (hzs : z0.cells.size = z)
    {base : Nat} {a0 : Option Addr} {n c0 : Nat} {xs : List α} (hown : OwnZ enc z base e a0 n c0 xs wr) (hs : a.eval s = .slice a0 n c0)
    {C : Array Value} {t' : TypeId} (y : α) (hC : C.toList = enc y) (hx : a.eval x = .slice (some ⟨wr.heap.size, 0, none⟩) 1 1)
    (N : Nat) (hN : n + 1 = N) (h63 : N ≤ maxLen) (hbytes : N * bytes ≤ 140737488355328) (hbase : base ≤ wr.heap.size)
    (h : ∀ a' c' w', OwnZ enc z base e a' N c' (xs ++ [y]) w' → Below base wr w' → GrownBut wr w' a0 → (a' = a0 ∨ ∃ g, a' = some ⟨g, 0, none⟩ ∧ wr.heap.size ≤ g) → K (a.put o.dst (.slice a' N c')) w') : Oper.wp P o a (wr.alloc (.cells C t')) K Q := by
  have hal := below_alloc wr (.cells C t')
  have hnew := OwnZ.new hz [y] C (by rw [hC, flatC_one]) 1 rfl (by unfold maxLen; omega) t' wr
  refine wp_append_rows hz hz0 hone s x t ho e i z0 bytes ht hi hzz hsize hby hzs (hown.below hal (Nat.le_refl _)) hs (hnew.row hz) hx N hN h63 hbytes (Nat.le_trans hbase hal.size) fun a' c' w' h1 h2 h3 h4 => ?_
  refine h a' c' w' h1 ((hal.mono hbase).trans h2) ⟨Nat.le_trans hal.size h3.1, fun k hk ha => (h3.2 k (Nat.lt_of_lt_of_le hk hal.size) ha).trans (hal.block k hk)⟩ ?_
  rcases h4 with h4 | ⟨g, e1, h4⟩
  · exact .inl h4
  · exact .inr ⟨g, e1, Nat.le_trans hal.size h4⟩

theorem wpList_append_row1 {α : Type} {enc : α → List Value} {z : Nat} (hz : ∀ x, (enc x).length = z) (hz0 : 0 < z) (hone : ∀ x, ∀ u ∈ enc x, u.oneCell' = true) {P : Program} {wr : World} {ops : Array Oper} {rest : List Oper} {o : Oper} {a : Act} {Q : Exit → Act → World → Prop} (hgd : o.guard = none) (s x : Operand) (t : TypeId)
    (ho : o.op = .call { callee := .builtin .append, args := #[s, x], argTypes := #[t, t] })
    (e : TypeId) (i : TypeInfo) (z0 : Value) (bytes : Nat) (ht : P.underlying t = some (.slice e)) (hi : P.info? e = some i) (hzz : i.zero = some z0) (hsize : i.size = z) (hby : i.bytes = bytes) (hzs : z0.cells.size = z)
    {base : Nat} {a0 : Option Addr} {n c0 : Nat} {xs : List α} (hown : OwnZ enc z base e a0 n c0 xs wr) (hs : a.eval s = .slice a0 n c0)
    {C : Array Value} {t' : TypeId} (y : α) (hC : C.toList = enc y) (hx : a.eval x = .slice (some ⟨wr.heap.size, 0, none⟩) 1 1)
    (N : Nat) (hN : n + 1 = N) (h63 : N ≤ maxLen) (hbytes : N * bytes ≤ 140737488355328) (hbase : base ≤ wr.heap.size)
    (h : ∀ a' c' w', OwnZ enc z base e a' N c' (xs ++ [y]) w' → Below base wr w' → GrownBut wr w' a0 → (a' = a0 ∨ ∃ g, a' = some ⟨g, 0, none⟩ ∧ wr.heap.size ≤ g) → wpList P ops Q rest (a.put o.dst (.slice a' N c')) w') : wpList P ops Q (o :: rest) a (wr.alloc (.cells C t')) :=
  wpList_plain hgd fun K hK => wp_append_row1 hz hz0 hone s x t ho e i z0 bytes ht hi hzz hsize hby hzs hown hs y hC hx N hN h63 hbytes hbase fun a' c' w' h1 h2 h3 h4 => hK _ _ (h a' c' w' h1 h2 h3 h4)

/-- The same as a step of a region that draws its order. -/
theorem step_append_row1 {α : Type} {enc : α → List Value} {z : Nat} (hz : ∀ x, (enc x).length = z) (hz0 : 0 < z) (hone : ∀ x, ∀ u ∈ enc x, u.oneCell' = true) {P : Program} {wr : World} {ops : Array Oper} {o : Oper} {a : Act} {K : Act → World → Prop} {E : Prop} {Q : Exit → Act → World → Prop} (hgd : o.guard = none) (s x : Operand) (t : TypeId)
    (ho : o.op = .call { callee := .builtin .append, args := #[s, x], argTypes := #[t, t] })
    (e : TypeId) (i : TypeInfo) (z0 : Value) (bytes : Nat) (ht : P.underlying t = some (.slice e)) (hi : P.info? e = some i) (hzz : i.zero = some z0) (hsize : i.size = z) (hby : i.bytes = bytes) (hzs : z0.cells.size = z)
    {base : Nat} {a0 : Option Addr} {n c0 : Nat} {xs : List α} (hown : OwnZ enc z base e a0 n c0 xs wr) (hs : a.eval s = .slice a0 n c0)
    {C : Array Value} {t' : TypeId} (y : α) (hC : C.toList = enc y) (hx : a.eval x = .slice (some ⟨wr.heap.size, 0, none⟩) 1 1)
    (N : Nat) (hN : n + 1 = N) (h63 : N ≤ maxLen) (hbytes : N * bytes ≤ 140737488355328) (hbase : base ≤ wr.heap.size)
    (h : ∀ a' c' w', OwnZ enc z base e a' N c' (xs ++ [y]) w' → Below base wr w' → GrownBut wr w' a0 → (a' = a0 ∨ ∃ g, a' = some ⟨g, 0, none⟩ ∧ wr.heap.size ≤ g) → K (a.put o.dst (.slice a' N c')) w') : if Region.wanted o (yielded ops a.tmps) = true then Oper.wp P o a (wr.alloc (.cells C t')) K Q else E := by
  rw [if_pos (by simp [Region.wanted, hgd])]
  exact wp_append_row1 hz hz0 hone s x t ho e i z0 bytes ht hi hzz hsize hby hzs hown hs y hC hx N hN h63 hbytes hbase h

theorem OwnZ.setCell {α : Type} {enc : α → List Value} {z base : Nat} {e : TypeId} {a : Option Addr} {n c : Nat} {P : List α} {w : World} (h : OwnZ enc z base e a n c P w) {p : Addr} (ha : Apart a p.block) (u : Value) : OwnZ enc z base e a n c P (w.setCell p u) := by
  have hne : (Value.slice a n c).ownBlock ≠ some p.block := fun e0 => by
    cases a with
    | none => simp [Value.ownBlock] at e0
    | some x => exact ha x rfl (by simpa [Value.ownBlock] using e0)
  exact ⟨ownsRow_setCell_other h.1 hne u, h.2⟩

/-- A contract's row of elements in new memory. -/
def GivesZ {α : Type} (enc : α → List Value) (z : Nat) (e : TypeId) (P : List α) (n : Nat) (w : World) (en : Ending) (w' : World) : Prop :=
  ∃ a c, en = .returned (.slice a n c) ∧ OwnZ enc z w.heap.size e a n c P w' ∧ Below w.heap.size w w'

/-- What a cell of a struct of strings, flags and numbers holds. -/
inductive Leaf where
  | text
  | flag
  | num (k : IntKind)

def Leaf.ok : Leaf → Value → Prop
  | .text, v => ∃ s : List UInt8, v = .string (str s) ∧ s.length ≤ maxLen
  | .flag, v => ∃ b : Bool, v = .bool b
  | .num k, v => ∃ n : Int, v = .int k n ∧ (Lit.int k n).wf = true

def leavesOk : List Leaf → List Value → Prop
  | [], [] => True
  | k :: ks, v :: vs => k.ok v ∧ leavesOk ks vs
  | _, _ => False

theorem leaves_app : ∀ {a b : List Leaf} {u v : List Value}, leavesOk a u → leavesOk b v → leavesOk (a ++ b) (u ++ v)
  | [], b, [], v, _, h => h
  | k :: ks, b, x :: xs, v, h, h2 => ⟨h.1, leaves_app h.2 h2⟩
  | [], b, x :: xs, v, h, _ => h.elim
  | k :: ks, b, [], v, h, _ => h.elim

theorem leaves_cons {k : Leaf} {ks : List Leaf} {cs : List Value} (h : leavesOk (k :: ks) cs) : ∃ v vs, cs = v :: vs ∧ k.ok v ∧ leavesOk ks vs := by
  cases cs with
  | nil => exact h.elim
  | cons v vs => exact ⟨v, vs, rfl, h.1, h.2⟩

theorem leaves_nil {cs : List Value} (h : leavesOk [] cs) : cs = [] := by
  cases cs with
  | nil => rfl
  | cons v vs => exact h.elim

/-- The cells of a type, if it is made of strings, flags and numbers alone. -/
def flatK (P : Program) : Nat → TypeId → Option (List Leaf)
  | 0, _ => none
  | n + 1, t => match P.underlying t with
    | some .bool => some [.flag]
    | some .string => some [.text]
    | some (.int k) => some [.num k]
    | some (.struct fs) => (fs.toList.foldl (fun acc f => acc.bind fun l => (flatK P n f.type).bind fun a => if f.offset = l.length ∧ a.length = P.cellsOf f.type then some (l ++ a) else none) (some [])).bind fun l => if l.length = P.cellsOf t then some l else none
    | _ => none

section
variable {H : Type} {enc : TypeId × Value → H} {P : Program} {w : World} {base : Nat} {spare : Nat → Bool} {held : Bool}

theorem flat_fields (n : Nat) (cs : List Value) (ih : ∀ (t : TypeId) (ks : List Leaf) (fuel : Nat) (cs : List Value) (x : DataW H × List MemPlace), flatK P n t = some ks → DataW.trod enc P w base spare held fuel t cs = some x → leavesOk ks cs)
    (fuel : Nat) : ∀ (fs : List Field) (l ks : List Leaf), (∀ f ∈ fs, ∃ x, DataW.trod enc P w base spare held fuel f.type ((cs.drop f.offset).take (P.cellsOf f.type)) = some x) → leavesOk l (cs.take l.length) →
      fs.foldl (fun acc f => acc.bind fun l => (flatK P n f.type).bind fun a => if f.offset = l.length ∧ a.length = P.cellsOf f.type then some (l ++ a) else none) (some l) = some ks → leavesOk ks (cs.take ks.length)
  | [], l, ks, hf, hl, h => by
    simp only [List.foldl_nil, Option.some.injEq] at h
    subst h
    exact hl
  | f :: fs, l, ks, hf, hl, h => by
    rw [List.foldl_cons] at h
    have hnone : ∀ gs : List Field, gs.foldl (fun acc f => acc.bind fun l => (flatK P n f.type).bind fun a => if f.offset = l.length ∧ a.length = P.cellsOf f.type then some (l ++ a) else none) (none : Option (List Leaf)) = none := by
      intro gs
      induction gs with
      | nil => rfl
      | cons g gs ih => rw [List.foldl_cons]; exact ih
    cases ha : flatK P n f.type with
    | none =>
      simp only [Option.bind_some, ha, Option.bind_none] at h
      rw [hnone] at h
      cases h
    | some a =>
      by_cases hc : f.offset = l.length ∧ a.length = P.cellsOf f.type
      · simp only [Option.bind_some, ha, if_pos hc] at h
        refine flat_fields n cs ih fuel fs (l ++ a) ks (fun g hg => hf g (List.mem_cons_of_mem _ hg)) ?_ h
        obtain ⟨x, hx⟩ := hf f List.mem_cons_self
        have h1 := ih f.type a fuel _ x ha hx
        rw [hc.1, ← hc.2] at h1
        rw [List.length_append, List.take_add]
        exact leaves_app hl h1
      · simp only [Option.bind_some, ha, if_neg hc] at h
        rw [hnone] at h
        cases h

theorem leaves_of : ∀ (n : Nat) (t : TypeId) (ks : List Leaf) (fuel : Nat) (cs : List Value) (x : DataW H × List MemPlace), flatK P n t = some ks → DataW.trod enc P w base spare held fuel t cs = some x → leavesOk ks cs
  | 0, t, ks, fuel, cs, x, h, _ => by cases h
  | n + 1, t, ks, fuel, cs, x, h, hx => by
    unfold flatK at h
    split at h
    · rename_i hu
      cases h
      obtain ⟨b, rfl, -⟩ := DataW.trod_bool hu hx
      exact ⟨⟨b, rfl⟩, trivial⟩
    · rename_i hu
      cases h
      obtain ⟨s, rfl, -, hs⟩ := DataW.trod_string hu hx
      exact ⟨⟨s.data.toList, by rw [← str_of], by simpa [← str_size, ← str_of] using hs⟩, trivial⟩
    · rename_i k hu
      cases h
      obtain ⟨v, rfl, -, hv⟩ := DataW.trod_int hu hx
      exact ⟨⟨v, rfl, hv⟩, trivial⟩
    · rename_i fs hu
      obtain ⟨xs, m, -, -, hl, hxl, hf⟩ := DataW.trod_struct hu hx
      rw [Option.bind_eq_some_iff] at h
      obtain ⟨l, h1, h2⟩ := h
      split at h2
      · rename_i hlen
        cases h2
        have := flat_fields n cs (fun t ks fuel cs x => leaves_of n t ks fuel cs x) m fs.toList [] ks (fun f hfm => by
          obtain ⟨i, hi, e⟩ := List.getElem_of_mem hfm
          have hi2 : i < fs.size := by simpa using hi
          have e2 : fs[i]? = some f := by rw [Array.getElem?_eq_getElem hi2]; simpa using e
          have h3 := hf i f e2
          rw [List.getElem?_eq_getElem (by omega)] at h3
          exact ⟨_, h3⟩) (by simp [leavesOk]) h1
        rw [hlen, ← hl, List.take_length] at this
        exact this
      · cases h2
    · cases h

/-- A slice of such elements, as an argument. -/
theorem open_rows_of {α : Type} [Inhabited α] (en : α → List Value) (ok : α → Prop) {t e : TypeId} (z n : Nat) (ks : List Leaf) {r : Reach} {b0 : Nat} {v : Value} {d : DataW H} {p : List MemPlace} (ht : P.underlying t = some (.slice e)) (hC : P.cellsOf e = z) (hp : 0 < z)
    (hk : flatK P n e = some ks) (hD : ∀ cs, leavesOk ks cs → ∃ x, cs = en x ∧ ok x)
    (hv : Value.okWide P w r b0 t v) (h : DataW.Trod enc P w 0 (fun _ => true) held t v d p) :
    ∃ a len cap, ∃ Q : List α, v = .slice a len cap ∧ RowOf en z w a len cap Q ∧ ∀ x ∈ Q, ok x := by
  obtain ⟨a, len, cap, rfl⟩ := okWide_slice ht hv
  obtain ⟨fuel, hf⟩ := h
  obtain ⟨a', len', cap', m, hcs, h1, h2, h3, hall⟩ := elems_of z ht hC hp hf
  simp [Value.cells] at hcs
  obtain ⟨rfl, rfl, rfl⟩ := hcs
  have hq : ∀ i, ∃ x : α, i < len → ok x ∧ ∃ g off, a = some ⟨g, off, none⟩ ∧ ∀ (j : Nat) (v : Value), (en x)[j]? = some v → w.cell? ⟨g, off + i * z + j, none⟩ = some v := fun i => by
    by_cases hi : i < len
    · obtain ⟨b, off, cs', y, ha, hl, hc, hy⟩ := hall i hi
      obtain ⟨x, rfl, hx⟩ := hD cs' (leaves_of n e ks m cs' y hk hy)
      exact ⟨x, fun _ => ⟨hx, b, off, ha, hc⟩⟩
    · exact ⟨default, fun h => absurd h hi⟩
  refine ⟨a, len, cap, (List.range len).map fun i => Classical.choose (hq i), rfl, ⟨by simp, h1, h2, h3, fun i x hx => ?_⟩, fun x hx => ?_⟩
  · have hi : i < len := by have := (List.getElem?_eq_some_iff.1 hx).1; simpa using this
    rw [List.getElem?_map, List.getElem?_range hi] at hx
    cases hx
    exact (Classical.choose_spec (hq i) hi).2
  · obtain ⟨i, hi, rfl⟩ := List.mem_map.1 hx
    exact (Classical.choose_spec (hq i) (List.mem_range.1 hi)).1

/-- Such a struct, as an argument. -/
theorem open_flat {t : TypeId} {fs : Array Field} (n : Nat) (ks : List Leaf) {r : Reach} {b0 : Nat} {v : Value} {d : DataW H} {p : List MemPlace} (ht : P.underlying t = some (.struct fs)) (hk : flatK P n t = some ks)
    (hv : Value.okWide P w r b0 t v) (h : DataW.Trod enc P w base spare held t v d p) : ∃ cs : Array Value, v = .agg cs ∧ leavesOk ks cs.toList := by
  obtain ⟨cs, rfl, -⟩ := okWide_struct ht hv
  obtain ⟨fuel, hf⟩ := h
  have := leaves_of n t ks fuel _ _ hk hf
  exact ⟨cs, rfl, by simpa [Value.cells] using this⟩
end
end Go.Proofs.Ytfdiomghoheljaa
