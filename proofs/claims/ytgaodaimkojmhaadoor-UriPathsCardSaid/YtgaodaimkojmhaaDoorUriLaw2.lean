/- Layer 10's law on a request's text, walked. -/
import Derived.Test.YtgaodaimkojmhaaDoorUriLaw
import Derived.Test.YtgaodaimkojmhaaDoorUriRef4
namespace Go.Proofs.YtgaodaimkojmhaaDoor
open Go.RowKit
set_option linter.unusedVariables false

theorem four_free (w : World) (v0 v1 v2 v3 : Value) (e : TypeId) (i : Nat) : (w.alloc (.cells #[v0, v1, v2, v3] e)).frozen? ⟨w.heap.size, i, none⟩ = false := World.frozen?_alloc_at _ _ _ _ rfl

theorem free_below {w w' : World} {K : Nat} {a : Addr} (h : w.frozen? a = false) (hb : Below K w w') (hlt : a.block < K) : w'.frozen? a = false := (World.frozen?_of_block (hb.block a.block hlt)).trans h

theorem free_alloc {w : World} {a : Addr} (h : w.frozen? a = false) (o : Obj) (hlt : a.block < w.heap.size) : (w.alloc o).frozen? a = false := free_below h (below_alloc w o) hlt

/-- A field of one struct is put false, and another struct is made. -/
theorem put_cells (w : World) (B : Nat) {v0 v1 v2 v3 : Value} (m0 : w.cell? ⟨B, 0, none⟩ = some v0) (m1 : w.cell? ⟨B, 1, none⟩ = some v1) (m2 : w.cell? ⟨B, 2, none⟩ = some v2) (m3 : w.cell? ⟨B, 3, none⟩ = some v3) (u0 u1 u2 u3 : Value) (e : TypeId) :
    ((w.setCell ⟨B, 3, none⟩ (.bool false)).alloc (.cells #[u0, u1, u2, u3] e)).cell? ⟨B, 0, none⟩ = some v0 ∧
    ((w.setCell ⟨B, 3, none⟩ (.bool false)).alloc (.cells #[u0, u1, u2, u3] e)).cell? ⟨B, 1, none⟩ = some v1 ∧
    ((w.setCell ⟨B, 3, none⟩ (.bool false)).alloc (.cells #[u0, u1, u2, u3] e)).cell? ⟨B, 2, none⟩ = some v2 ∧
    ((w.setCell ⟨B, 3, none⟩ (.bool false)).alloc (.cells #[u0, u1, u2, u3] e)).cell? ⟨B, 3, none⟩ = some (.bool false) ∧
    ((w.setCell ⟨B, 3, none⟩ (.bool false)).alloc (.cells #[u0, u1, u2, u3] e)).cell? ⟨w.heap.size, 0, none⟩ = some u0 ∧
    ((w.setCell ⟨B, 3, none⟩ (.bool false)).alloc (.cells #[u0, u1, u2, u3] e)).cell? ⟨w.heap.size, 1, none⟩ = some u1 ∧
    ((w.setCell ⟨B, 3, none⟩ (.bool false)).alloc (.cells #[u0, u1, u2, u3] e)).cell? ⟨w.heap.size, 2, none⟩ = some u2 ∧
    ((w.setCell ⟨B, 3, none⟩ (.bool false)).alloc (.cells #[u0, u1, u2, u3] e)).cell? ⟨w.heap.size, 3, none⟩ = some u3 := by
  have ne : ∀ i j, i ≠ j → (⟨B, i, none⟩ : Addr) ≠ ⟨B, j, none⟩ := fun i j h c => by
    simp only [Addr.mk.injEq] at c
    exact h c.2.1
  have a0 := (World.cell?_setCell_other w _ _ (.bool false) (ne 3 0 (by decide))).trans m0
  have a1 := (World.cell?_setCell_other w _ _ (.bool false) (ne 3 1 (by decide))).trans m1
  have a2 := (World.cell?_setCell_other w _ _ (.bool false) (ne 3 2 (by decide))).trans m2
  have a3 := World.cell?_setCell_same w _ (.bool false) m3
  have hz : (w.setCell ⟨B, 3, none⟩ (.bool false)).heap.size = w.heap.size := by simp
  obtain ⟨q0, q1, q2, q3⟩ := four_cells (w.setCell ⟨B, 3, none⟩ (.bool false)) u0 u1 u2 u3 e
  rw [hz] at q0 q1 q2 q3
  exact ⟨cell_alloc a0 _, cell_alloc a1 _, cell_alloc a2 _, cell_alloc a3 _, q0, q1, q2, q3⟩

set_option maxHeartbeats 2000000 in
set_option maxRecDepth 100000 in
theorem uriTexts_walk (h p : List UInt8) (sec scr : Bool) (w : World) (hs : (str h).size ≤ maxLen) (ht : (str p).size ≤ maxLen) (hT : PTab Tryd.prog w) :
    Calls Tryd.prog 4 #[.agg #[.string (str h), .string (str p), .bool sec, .bool scr]] w fun e w' => e = .returned (.bool true) ∧ Below w.heap.size w w' := by
  obtain ⟨n, hn⟩ : ∃ n, h.length = n := ⟨_, rfl⟩
  obtain ⟨m, hm⟩ : ∃ m, p.length = m := ⟨_, rfl⟩
  have s1 : (str h).size = n := by rw [str_size, hn]
  have s2 : (str p).size = m := by rw [str_size, hm]
  rw [s1] at hs
  rw [s2] at ht
  have HA := fun w (h : PTab Tryd.prog w) => awake10C w h
  obtain ⟨k0, k1, k2, k3⟩ := four_cells w (.string (str h)) (.string (str p)) (.bool sec) (.bool scr) 24
  have f3 := four_free w (.string (str h)) (.string (str p)) (.bool sec) (.bool scr) 24 3
  have hb := below_alloc w (.cells #[.string (str h), .string (str p), .bool sec, .bool scr] 24)
  generalize hW : w.alloc (.cells #[.string (str h), .string (str p), .bool sec, .bool scr] 24) = W at *
  by_cases h1 : 2000 < n
  · have b1 : (2000 : Int) < (n : Int) := by omega
    clear hn hm
    go_enter Tryd.func4, Tryd.ntmps4
    go_wp2_with (go_at_call 6; (with_reducible refine (HA _ (hT.below hb)).mono ?_); rintro e ww ⟨rfl, hx⟩; have hb := hb.trans (hx.mono hb.size); clear hx)
    go_ret
    exact ⟨rfl, hb⟩
  have b1 : ¬ (2000 : Int) < (n : Int) := by omega
  by_cases h2 : 2000 < m
  · have b2 : (2000 : Int) < (m : Int) := by omega
    clear hn hm
    go_enter Tryd.func4, Tryd.ntmps4
    go_wp2_with (go_at_call 6; (with_reducible refine (HA _ (hT.below hb)).mono ?_); rintro e ww ⟨rfl, hx⟩; have hb := hb.trans (hx.mono hb.size); clear hx)
    go_ret
    exact ⟨rfl, hb⟩
  have b2 : ¬ (2000 : Int) < (m : Int) := by omega
  have HX := fun w (hp : PTab Tryd.prog w) => uriTextC h p sec scr n m w hn (by omega) hm (by omega) hp
  have HR := fun w => refURightC h p sec scr n m w hn (by omega) hm (by omega)
  have HU := fun w (hp : PTab Tryd.prog w) => uriRightC h p sec scr n m w hn (by omega) hm (by omega) hp
  have HU2 := fun w (hp : PTab Tryd.prog w) => uriRightC h p sec false n m w hn (by omega) hm (by omega) hp
  have e00 : ({ data := #[] } : ByteArray) = str [] := rfl
  have hk := str_toList
  cases hr : rightU h p sec with
  | false =>
    rw [hr] at HR HU
    simp only [hr, Bool.false_eq_true, if_false] at HX
    clear hn hm HU2 hr
    go_enter Tryd.func4, Tryd.ntmps4
    go_wp2_with (first
      | (go_at_call 9; (with_reducible refine (HX _ (hT.below hb)).mono ?_); rintro e ww ⟨rfl, hx⟩; have k0 := (hx.cell (cell_lt k0)).trans k0; have k1 := (hx.cell (cell_lt k1)).trans k1; have k2 := (hx.cell (cell_lt k2)).trans k2; have k3 := (hx.cell (cell_lt k3)).trans k3; have hb := hb.trans (hx.mono hb.size); clear hx)
      | (go_at_call 10; (with_reducible refine (HR _).mono ?_); rintro e ww ⟨rfl, hx⟩; have k0 := (hx.cell (cell_lt k0)).trans k0; have k1 := (hx.cell (cell_lt k1)).trans k1; have k2 := (hx.cell (cell_lt k2)).trans k2; have k3 := (hx.cell (cell_lt k3)).trans k3; have hb := hb.trans (hx.mono hb.size); clear hx)
      | (go_at_call 11; (with_reducible refine (HU _ (hT.below hb)).mono ?_); rintro e ww ⟨rfl, hx⟩; have hb := hb.trans (hx.mono hb.size); clear hx)
      | (go_at_call 6; (with_reducible refine (HA _ (hT.below hb)).mono ?_); rintro e ww ⟨rfl, hx⟩; have hb := hb.trans (hx.mono hb.size); clear hx))
    go_ret
    exact ⟨rfl, hb⟩
  | true =>
    have hlen : (textU h p sec).length ≤ 1024 := by
      have := hr
      unfold rightU at this
      simp only [Bool.and_eq_true, decide_eq_true_iff] at this
      have h3 := this.2.2.2.2.2
      unfold textU schemeL
      cases sec <;> simp at h3 ⊢ <;> omega
    have hpr := parse_right (pt := []) (q := []) hr (.inl rfl) rfl (fun x hx => by cases hx) rfl (.inl rfl) rfl (by simpa [textU] using hlen)
    have hpr2 : parseU (textU h p sec) = ((h, p, sec), 0) := by simpa [textU] using hpr
    have HP := fun w (hp : PTab Tryd.prog w) => uriParseC (textU h p sec) _ w rfl (by omega) hp
    rw [hpr2] at HP
    rw [hr] at HR HU HU2
    simp only [hr, if_true] at HX
    unfold reqV at HP
    simp only [] at HP
    generalize textU h p sec = t at *
    clear hn hm HU hr hlen hpr hpr2
    go_enter Tryd.func4, Tryd.ntmps4
    go_wp2_with (first
      | (go_at_call 9; (with_reducible refine (HX _ (hT.below hb)).mono ?_); rintro e w2 ⟨rfl, hx⟩; have f3 := free_below f3 hx (cell_lt k3); have k0 := (hx.cell (cell_lt k0)).trans k0; have k1 := (hx.cell (cell_lt k1)).trans k1; have k2 := (hx.cell (cell_lt k2)).trans k2; have k3 := (hx.cell (cell_lt k3)).trans k3; have hb := hb.trans (hx.mono hb.size); clear hx)
      | (go_at_call 10; (with_reducible refine (HR _).mono ?_); rintro e w3 ⟨rfl, hx⟩; have f3 := free_below f3 hx (cell_lt k3); have k0 := (hx.cell (cell_lt k0)).trans k0; have k1 := (hx.cell (cell_lt k1)).trans k1; have k2 := (hx.cell (cell_lt k2)).trans k2; have k3 := (hx.cell (cell_lt k3)).trans k3; have hb := hb.trans (hx.mono hb.size); clear hx)
      | (go_at_call 7; (with_reducible refine (HP _ (hT.below hb)).mono ?_); rintro e w4 ⟨rfl, hx⟩; have hlt := Nat.lt_of_lt_of_le (cell_lt k3) hx.size; have g3 := free_below f3 hx (cell_lt k3); have f3 := free_alloc g3 (.cells #[.string (str h), .string (str p), .bool sec, .bool false] 24) hlt; have m0 := (hx.cell (cell_lt k0)).trans k0; have m1 := (hx.cell (cell_lt k1)).trans k1; have m2 := (hx.cell (cell_lt k2)).trans k2; have m3 := (hx.cell (cell_lt k3)).trans k3; have k3 := cell_alloc m3 (.cells #[.string (str h), .string (str p), .bool sec, .bool false] 24); obtain ⟨z0, z1, z2, z3, q0, q1, q2, q3⟩ := put_cells w4 w.heap.size m0 m1 m2 m3 (.string (str h)) (.string (str p)) (.bool sec) (.bool false) 24; have hb := ((hb.trans (hx.mono hb.size)).setCell (p := ⟨w.heap.size, 3, none⟩) (Nat.le_refl _) (.bool false)).alloc ((hb.trans (hx.mono hb.size)).setCell (p := ⟨w.heap.size, 3, none⟩) (Nat.le_refl _) (.bool false)).size (.cells #[.string (str h), .string (str p), .bool sec, .bool false] 24); clear hx)
      | (go_at_call 11; (with_reducible refine (HU2 _ (hT.below hb)).mono ?_); rintro e w6 ⟨rfl, hx⟩; have z0 := (hx.cell (cell_lt z0)).trans z0; have z1 := (hx.cell (cell_lt z1)).trans z1; have z2 := (hx.cell (cell_lt z2)).trans z2; have z3 := (hx.cell (cell_lt z3)).trans z3; have q0 := (hx.cell (cell_lt q0)).trans q0; have q1 := (hx.cell (cell_lt q1)).trans q1; have q2 := (hx.cell (cell_lt q2)).trans q2; have q3 := (hx.cell (cell_lt q3)).trans q3; have hb := hb.trans (hx.mono hb.size); clear hx)
      | (go_at_call 6; (with_reducible refine (HA _ (hT.below hb)).mono ?_); rintro e w7 ⟨rfl, hx⟩; have hb := hb.trans (hx.mono hb.size); clear hx))
    go_ret
    exact ⟨rfl, hb⟩
end Go.Proofs.YtgaodaimkojmhaaDoor
