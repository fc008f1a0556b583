/- Appending to a slice of the call's own, and where the new slice lies. No program in it. -/
import Derived.Test.YtfdiomghoheljaaOwn
import Derived.Maps.AppendAt
namespace Go.Proofs.Ytfdiomghoheljaa
open Go.RowKit
set_option linter.unusedVariables false

/-- The block that a slice lies in is none of these. -/
def Apart (a : Option Addr) (B : Nat) : Prop := ∀ x, a = some x → x.block ≠ B
theorem Apart.none (B : Nat) : Apart none B := fun x h => by cases h

/-- All that was there stays, but for the row of the slice itself. -/
def GrownBut (w w' : World) (a : Option Addr) : Prop := w.heap.size ≤ w'.heap.size ∧ ∀ k, k < w.heap.size → Apart a k → w'.heap[k]? = w.heap[k]?
theorem GrownBut.cell {w w' : World} {a : Option Addr} (h : GrownBut w w' a) {x : Addr} {v : Value} (hc : w.cell? x = some v) (ha : Apart a x.block) : w'.cell? x = some v :=
  (World.cell?_of_block (h.2 x.block (cell_lt hc) ha)).trans hc
theorem GrownBut.frozen {w w' : World} {a : Option Addr} (h : GrownBut w w' a) {x : Addr} (hx : x.block < w.heap.size) (ha : Apart a x.block) : w'.frozen? x = w.frozen? x :=
  World.frozen?_of_block (h.2 x.block hx ha)

theorem wpList_append_where {P : Program} {w : World} {ops : Array Oper} {rest : List Oper} {o : Oper} {a : Act} {Q : Exit → Act → World → Prop} (hgd : o.guard = none) (s x : Operand) (t : TypeId)
    (ho : o.op = .call { callee := .builtin .append, args := #[s, x], argTypes := #[t, t] })
    (e : TypeId) (i : TypeInfo) (z : Value) (bytes : Nat) (ht : P.underlying t = some (.slice e)) (hi : P.info? e = some i) (hz : i.zero = some z) (hsize : i.size = 1) (hby : i.bytes = bytes) (hzs : z.cells.size = 1)
    {base : Nat} {a0 : Option Addr} {n c0 : Nat} {xs : List Value} (hown : Owned base e a0 n c0 xs w) (hs : a.eval s = .slice a0 n c0)
    {ao : Option Addr} {m c : Nat} {news : List Value} (hr : Reads w ao news) (hx : a.eval x = .slice ao m c) (hm : news.length = m) (hc : ao = none → c = 0) (h1 : ∀ u ∈ news, u.oneCell' = true)
    (N : Nat) (hN : n + m = N) (h63 : N ≤ maxLen) (hbytes : N * bytes ≤ 140737488355328) (hbase : base ≤ w.heap.size)
    (h : ∀ a' c' w', Owned base e a' N c' (xs ++ news) w' → Below base w w' → GrownBut w w' a0 → (a' = a0 ∨ ∃ g, a' = some ⟨g, 0, none⟩ ∧ w.heap.size ≤ g) → wpList P ops Q rest (a.put o.dst (.slice a' N c')) w') : wpList P ops Q (o :: rest) a w := by
  subst hN
  refine wpList_plain hgd fun K hK => ?_
  have hrun : ∃ v' w', (Builtin.append_ #[t, t] o.type #[.slice a0 n c0, .slice ao m c]).run P w = .ok v' w' ∧ w'.ownsRow base e 1 v' (n + m) (xs ++ news) ∧ w.grownBy w' (Value.slice a0 n c0).ownBlock ∧ (v'.ownBlock = (Value.slice a0 n c0).ownBlock ∨ v'.ownBlock = some w.heap.size) := by
    cases ao with
    | none =>
      have hn : news = [] := by
        cases news with
        | nil => rfl
        | cons y ys => obtain ⟨b, off, e0, _⟩ := hr 0 y rfl; cases e0
      subst hn
      simp only [List.length_nil] at hm
      subst hm
      have hc0 := hc rfl
      subst hc0
      have hrn := run_append_owned_none (P := P) (w := w) base t o.type e i 1 ht hi _ n xs hown.1
      exact ⟨_, w, hrn, by simpa using hown.1, ⟨rfl, rfl, rfl, Nat.le_refl _, fun _ _ _ => rfl⟩, .inl rfl⟩
    | some ad =>
      obtain ⟨v', w', h2, h3, h4, _, h5⟩ := run_append_own_at (P := P) w base t o.type e i z 1 bytes ht hi hz hsize hby hzs (by decide) _ n xs hown.1 ad m c news (by omega) (fun j u hu => by
        obtain ⟨b, off, e0, hcell⟩ := hr j u hu
        cases e0
        have hA : (⟨b, off, none⟩ : Addr).add j = ⟨b, off + j, none⟩ := by
          by_cases h0 : j = 0
          · subst h0; simp [Addr.add]
          · simp [Addr.add, h0]
        rw [hA]
        exact hcell) h1 h63 hbytes hbase
      exact ⟨v', w', h2, h3, h4, h5⟩
  obtain ⟨v', w', h2, h3, h4, h5⟩ := hrun
  unfold Oper.wp execOp
  simp only [ho, resolve, invoke, builtin, Sem.run_bind, Sem.run_pure, Result.andThen_ok, List.map_toArray, List.map_cons, List.map_nil, hs, hx, h2]
  obtain ⟨a', c', rfl, h6⟩ := Owned.of h3
  refine hK _ _ (h a' c' w' h6 (grown_below hown.1 h4 hbase) ⟨h4.size, fun k hk ha => h4.block k hk fun e0 => ?_⟩ ?_)
  · cases a0 with
    | none => simp [Value.ownBlock] at e0
    | some x0 => exact ha x0 rfl (by simpa [Value.ownBlock] using e0.symm)
  · rcases h6.1.2 with ⟨hv, hn0⟩ | ⟨g, cap, cur, hv, hb, hg, _⟩
    · simp only [Value.slice.injEq] at hv
      obtain ⟨rfl, -, -⟩ := hv
      rcases h5 with h5 | h5
      · cases a0 with
        | none => exact .inl rfl
        | some x0 => simp [Value.ownBlock] at h5
      · simp [Value.ownBlock] at h5
    · simp only [Value.slice.injEq] at hv
      obtain ⟨rfl, -, -⟩ := hv
      rcases h5 with h5 | h5
      · cases a0 with
        | none => simp [Value.ownBlock] at h5
        | some x0 =>
          rcases hown.1.2 with ⟨hv0, _⟩ | ⟨g0, cap0, cur0, hv0, _⟩
          · cases hv0
          · cases hv0
            simp [Value.ownBlock] at h5
            subst h5
            exact .inl rfl
      · simp [Value.ownBlock] at h5
        exact .inr ⟨g, rfl, by omega⟩

theorem Owned.setCell {base : Nat} {e : TypeId} {a : Option Addr} {n c : Nat} {xs : List Value} {w : World} (h : Owned base e a n c xs w) {p : Addr} (ha : Apart a p.block) (u : Value) : Owned base e a n c xs (w.setCell p u) := by
  have hne : (Value.slice a n c).ownBlock ≠ some p.block := fun e0 => by
    cases a with
    | none => simp [Value.ownBlock] at e0
    | some x => exact ha x rfl (by simpa [Value.ownBlock] using e0)
  obtain ⟨a', c', he, h2⟩ := Owned.of (ownsRow_setCell_other h.1 hne u)
  cases he
  exact h2
end Go.Proofs.Ytfdiomghoheljaa
