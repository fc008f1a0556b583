/- Layer 10's laws, walked: any address. -/
import Derived.Test.YtgaodaimkojmhaaDoorUriProg3
import Derived.Test.YtgaodaimkojmhaaDoorUriOpen
namespace Go.Proofs.YtgaodaimkojmhaaDoor
open Go.RowKit
set_option linter.unusedVariables false

set_option maxRecDepth 100000 in
theorem awake10C (w : World) (hT : PTab Tryd.prog w) : Calls Tryd.prog 6 #[] w fun e w' => e = .returned (.bool true) ∧ Below w.heap.size w w' := by
  have hb := Below.refl w.heap.size w
  have e1 : parseU [72, 84, 84, 80, 83, 58, 47, 47, 83, 104, 111, 112, 46, 84, 101, 115, 116, 58, 56, 52, 52, 51, 47, 97, 63, 98] = (([115, 104, 111, 112, 46, 116, 101, 115, 116], [47, 97], true), 0) := by decide +kernel
  have HP : ∀ w, PTab Tryd.prog w → Calls Tryd.prog 7 #[.string ⟨#[72, 84, 84, 80, 83, 58, 47, 47, 83, 104, 111, 112, 46, 84, 101, 115, 116, 58, 56, 52, 52, 51, 47, 97, 63, 98]⟩] w fun e w' => e = .returned (.tuple #[.agg #[.string ⟨#[115, 104, 111, 112, 46, 116, 101, 115, 116]⟩, .string ⟨#[47, 97]⟩, .bool true, .bool false], .int .i64 0]) ∧ Below w.heap.size w w' := fun w h => by
    have h := uriParseC [72, 84, 84, 80, 83, 58, 47, 47, 83, 104, 111, 112, 46, 84, 101, 115, 116, 58, 56, 52, 52, 51, 47, 97, 63, 98] 26 w rfl (by omega) h
    rw [e1] at h
    exact h
  clear e1
  go_enter Tryd.func6, Tryd.ntmps6
  go_wp2_with (first
    | (go_at_call 7; (with_reducible refine (HP _ (hT.below hb)).mono ?_); rintro e1 w1 ⟨rfl, hx⟩; have hb := hb.trans (hx.mono hb.size); clear hx))
  go_ret
  exact ⟨rfl, hb.alloc hb.size _⟩

/-- The cells of a struct of four that was made just now; they stay whatever is made behind it. -/
theorem four_cells (w : World) (v0 v1 v2 v3 : Value) (e : TypeId) :
    (w.alloc (.cells #[v0, v1, v2, v3] e)).cell? ⟨w.heap.size, 0, none⟩ = some v0 ∧ (w.alloc (.cells #[v0, v1, v2, v3] e)).cell? ⟨w.heap.size, 1, none⟩ = some v1 ∧
    (w.alloc (.cells #[v0, v1, v2, v3] e)).cell? ⟨w.heap.size, 2, none⟩ = some v2 ∧ (w.alloc (.cells #[v0, v1, v2, v3] e)).cell? ⟨w.heap.size, 3, none⟩ = some v3 := by
  have r := reads_new w [v0, v1, v2, v3] e
  have at' : ∀ i v, [v0, v1, v2, v3][i]? = some v → (w.alloc (.cells #[v0, v1, v2, v3] e)).cell? ⟨w.heap.size, i, none⟩ = some v := fun i v h => by
    obtain ⟨b, off, e1, hc⟩ := r i v h
    simp only [Option.some.injEq, Addr.mk.injEq] at e1
    obtain ⟨rfl, rfl, -⟩ := e1
    rwa [Nat.zero_add] at hc
  exact ⟨at' 0 v0 rfl, at' 1 v1 rfl, at' 2 v2 rfl, at' 3 v3 rfl⟩

theorem cell_alloc {w : World} {a : Addr} {v : Value} (h : w.cell? a = some v) (o : Obj) : (w.alloc o).cell? a = some v := (World.cell?_alloc_lt w (a := a) o (cell_lt h)).trans h

set_option maxRecDepth 100000 in
theorem uriParses_walk (s : ByteArray) (w : World) (hs : s.size ≤ maxLen) (hT : PTab Tryd.prog w) :
    Calls Tryd.prog 3 #[.string s] w fun e w' => e = .returned (.bool true) ∧ Below w.heap.size w w' := by
  obtain ⟨l, rfl⟩ : ∃ l, s = str l := ⟨_, str_of s⟩
  obtain ⟨n, hn⟩ : ∃ n, l.length = n := ⟨_, rfl⟩
  have s1 : (str l).size = n := by rw [str_size, hn]
  rw [s1] at hs
  have HA := fun w (h : PTab Tryd.prog w) => awake10C w h
  have hb := Below.refl w.heap.size w
  by_cases h1 : 2000 < n
  · have b1 : (2000 : Int) < (n : Int) := by omega
    clear hn
    go_enter Tryd.func3, Tryd.ntmps3
    go_wp2_with (go_at_call 6; (with_reducible refine (HA _ (hT.below hb)).mono ?_); rintro e ww ⟨rfl, hx⟩; have hb := hb.trans (hx.mono hb.size); clear hx)
    go_ret
    exact ⟨rfl, hb⟩
  have b1 : ¬ (2000 : Int) < (n : Int) := by omega
  have HP := fun w (h : PTab Tryd.prog w) => uriParseC l n w hn (by omega) h
  have HR := fun w => refUParseC l n w hn (by omega)
  unfold reqV at HP HR
  generalize parseU l = q at *
  obtain ⟨⟨h, p, sec⟩, e⟩ := q
  simp only [] at HP HR
  clear hn
  go_enter Tryd.func3, Tryd.ntmps3
  go_wp2_with (first
    | (go_at_call 7; (with_reducible refine (HP _ (hT.below hb)).mono ?_); rintro e1 w1 ⟨rfl, hx⟩; have hb := hb.trans (hx.mono hb.size); clear hx)
    | (go_at_call 8; (with_reducible refine (HR _).mono ?_); rintro e2 w2 ⟨rfl, hx⟩; obtain ⟨k0, k1, k2, k3⟩ := four_cells w1 (.string (str h)) (.string (str p)) (.bool sec) (.bool false) 24; have k0 := cell_alloc ((hx.cell (cell_lt k0)).trans k0); have k1 := cell_alloc ((hx.cell (cell_lt k1)).trans k1); have k2 := cell_alloc ((hx.cell (cell_lt k2)).trans k2); have k3 := cell_alloc ((hx.cell (cell_lt k3)).trans k3); have hb := (hb.alloc hb.size _).trans (hx.mono (hb.alloc hb.size _).size); clear hx)
    | (go_at_call 6; (with_reducible refine (HA _ (hT.below (hb.alloc hb.size _))).mono ?_); rintro e ww ⟨rfl, hx⟩; have hb := (hb.alloc hb.size _).trans (hx.mono (hb.alloc hb.size _).size); clear hx))
  go_ret
  exact ⟨rfl, hb⟩
end Go.Proofs.YtgaodaimkojmhaaDoor
