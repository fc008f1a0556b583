/- Contracts of layer 5's reader over any bytes: right or wrong. -/
import Derived.Test.YtfdiomghoheljaaPackRead
import Derived.Test.YtfdiomghoheljaaReadPlain
namespace Go.Proofs.Ytfdiomghoheljaa
open Go.RowKit
set_option linter.unusedVariables false

/-- A reader at block p: what is left, and the first error. -/
def RdX (p : Nat) (r : RdN) (w : World) : Prop :=
  ∃ a n c, p < w.heap.size ∧ w.cell? ⟨p, 0, none⟩ = some (.slice a n c) ∧ w.cell? ⟨p, 1, none⟩ = some (.int .i64 r.2) ∧ w.frozen? ⟨p, 0, none⟩ = false ∧ w.frozen? ⟨p, 1, none⟩ = false ∧ Reads w a (r.1.map (Value.int .u8)) ∧ r.1.length = n ∧ n ≤ c ∧ c ≤ maxLen ∧ (a = none → c = 0) ∧ Apart a p
theorem RdX.lt {p : Nat} {r : RdN} {w : World} (h : RdX p r w) : p < w.heap.size := h.choose_spec.choose_spec.choose_spec.1
theorem RdX.rd {p : Nat} {l : List Int} {w : World} (h : RdX p (l, 0) w) : Rd p l w := by
  obtain ⟨a, n, c, h1, h2, h3, h4, -, h5⟩ := h
  exact ⟨a, n, c, h1, h2, h3, h4, h5⟩
theorem RdX.below {p : Nat} {r : RdN} {w w' : World} (h : RdX p r w) (hb : Below w.heap.size w w') : RdX p r w' := by
  obtain ⟨a, n, c, h1, h2, h3, h4, h4', h5, h6⟩ := h
  exact ⟨a, n, c, Nat.lt_of_lt_of_le h1 hb.size, (hb.cell (p := ⟨p, 0, none⟩) h1).trans h2, (hb.cell (p := ⟨p, 1, none⟩) h1).trans h3, (hb.frozen (p := ⟨p, 0, none⟩) h1).trans h4, (hb.frozen (p := ⟨p, 1, none⟩) h1).trans h4', h5.below' hb, h6⟩
theorem RdX.drewN {p : Nat} {r : RdN} {w : World} (h : RdX p r w) (d : Nat) : RdX p r (w.drewN d) := by
  obtain ⟨a, n, c, h1, h2, h3, h4, h4', h5, h6⟩ := h
  exact ⟨a, n, c, by simpa using h1, by simpa using h2, by simpa using h3, by simpa using h4, by simpa using h4', h5.drewN d, h6⟩
theorem RdX.heap {p : Nat} {r : RdN} {w w' : World} (h : RdX p r w) (e : w'.heap = w.heap) : RdX p r w' := by
  obtain ⟨a, n, c, h1, h2, h3, h4, h4', h5, h6⟩ := h
  have hc : ∀ y, w'.cell? y = w.cell? y := fun y => World.cell?_of_block (by rw [e])
  have hf : ∀ y, w'.frozen? y = w.frozen? y := fun y => World.frozen?_of_block (by rw [e])
  exact ⟨a, n, c, by rw [e]; exact h1, (hc _).trans h2, (hc _).trans h3, (hf _).trans h4, (hf _).trans h4', h5.same hc, h6⟩
/-- It went on: what is left is another slice. -/
theorem RdX.step {p : Nat} {l r : List Int} {e : Int} {w : World} {a : Option Addr} {n c : Nat} (h : RdX p (l, e) w) (hr : Reads w a (r.map (Value.int .u8))) (hn : r.length = n) (hc : n ≤ c) (hm : c ≤ maxLen) (h0 : a = none → c = 0) (ha : Apart a p) :
    RdX p (r, e) (w.setCell ⟨p, 0, none⟩ (.slice a n c)) := by
  obtain ⟨a', n', c', h1, h2, h3, h4, h4', -⟩ := h
  refine ⟨a, n, c, by simpa using h1, World.cell?_setCell_same w ⟨p, 0, none⟩ _ h2, ?_, by rw [World.frozen?_setCell]; exact h4, by rw [World.frozen?_setCell]; exact h4', ?_, hn, hc, hm, h0, ha⟩
  · rw [World.cell?_setCell_other _ _ _ _ (by intro h; cases h)]; exact h3
  · intro i v hv
    obtain ⟨b, off, hb, hcell⟩ := hr i v hv
    refine ⟨b, off, hb, ?_⟩
    have hne : b ≠ p := ha _ hb
    rw [World.cell?_setCell_other _ _ _ _ (fun h => hne (congrArg Addr.block h).symm)]
    exact hcell
/-- It has an error now. -/
theorem RdX.fail {p : Nat} {l : List Int} {e e' : Int} {w : World} (h : RdX p (l, e) w) : RdX p (l, e') (w.setCell ⟨p, 1, none⟩ (.int .i64 e')) := by
  obtain ⟨a, n, c, h1, h2, h3, h4, h4', h5, h6, h7, h8, h9, h10⟩ := h
  refine ⟨a, n, c, by simpa using h1, ?_, World.cell?_setCell_same w ⟨p, 1, none⟩ _ h3, by rw [World.frozen?_setCell]; exact h4, by rw [World.frozen?_setCell]; exact h4', ?_, h6, h7, h8, h9, h10⟩
  · rw [World.cell?_setCell_other _ _ _ _ (by intro h; cases h)]; exact h2
  · intro i v hv
    obtain ⟨b, off, hb, hcell⟩ := h5 i v hv
    refine ⟨b, off, hb, ?_⟩
    have hne : b ≠ p := h10 _ hb
    rw [World.cell?_setCell_other _ _ _ _ (fun h => hne (congrArg Addr.block h).symm)]
    exact hcell

/-- A method of the reader answers v, and r is what is left. -/
def RdxGives (p : Nat) (v : Value) (r : RdN) (w : World) (en : Ending) (w' : World) : Prop := en = .returned v ∧ RdX p r w' ∧ Kept p none w w'
theorem RdxGives.early {p : Nat} {v : Value} {r : RdN} {w w1 w2 : World} {en : Ending} (h : RdxGives p v r w1 en w2) (hb : Below w.heap.size w w1) : RdxGives p v r w en w2 :=
  ⟨h.1, h.2.1, (Kept.of hb).trans (Near.refl _ _) h.2.2⟩

theorem xErrC (p : Nat) (r : RdN) (w : World) (hr : RdX p r w) : Calls Try.prog 29 #[.pointer (some ⟨p, 0, none⟩)] w fun e w' => e = .returned (.int .i64 r.2) ∧ w = w' := by
  obtain ⟨a, n, c, h1, h2, h3, h4, -⟩ := hr
  go_enter Try.func29, Try.ntmps29
  go_wp2
  go_ret
  exact ⟨rfl, rfl⟩
theorem xLeftC (p : Nat) (r : RdN) (n : Nat) (w : World) (hr : RdX p r w) (hn : r.1.length = n) : Calls Try.prog 30 #[.pointer (some ⟨p, 0, none⟩)] w fun e w' => e = .returned (.int .i64 (n : Int)) ∧ w = w' := by
  obtain ⟨a, n', c, h1, h2, h3, h4, h4', h5, h6, -⟩ := hr
  obtain rfl : n' = n := h6.symm.trans hn
  go_enter Try.func30, Try.ntmps30
  go_wp2
  go_ret
  exact ⟨rfl, rfl⟩
theorem readX (l : List Int) (a : Option Addr) (n c : Nat) (w : World) (ha : Reads w a (l.map (Value.int .u8))) (hn : l.length = n) (hc : n ≤ c) (hm : c ≤ maxLen) (h0 : a = none → c = 0) (hlt : ∀ x, a = some x → x.block < w.heap.size) :
    Calls Try.prog 19 #[.slice a n c] w fun e w' => e = .returned (.pointer (some ⟨w.heap.size, 0, none⟩)) ∧ RdX w.heap.size (l, 0) w' ∧ Below w.heap.size w w' := by
  go_enter Try.func19, Try.ntmps19
  go_wp2
  go_ret
  refine ⟨rfl, ⟨a, n, c, by simp, ?_, ?_, ?_, ?_, ha.below' (below_alloc w _), hn, hc, hm, h0, fun x hx => by have := hlt x hx; omega⟩, below_alloc w _⟩
  · rw [World.cell?_alloc_at _ _ _ _ rfl]; rfl
  · rw [World.cell?_alloc_at _ _ _ _ rfl]; rfl
  · exact World.frozen?_alloc_at _ _ _ _ rfl
  · exact World.frozen?_alloc_at _ _ _ _ rfl

theorem xFailC (p : Nat) (l : List Int) (e : Int) (w : World) (hr : RdX p (l, 0) w) : Calls Try.prog 50 #[.pointer (some ⟨p, 0, none⟩), .int .i64 e] w (RdxGives p (.tuple #[]) (l, e) w) := by
  have HE := xErrC p (l, 0) w hr
  have hr0 := Lib.hid hr
  obtain ⟨a, n, c, h1, h2, h3, h4, h4', -⟩ := hr
  go_enter Try.func50, Try.ntmps50
  go_wp2_with (go_at_call 29; (with_reducible refine HE.mono ?_); rintro e w' ⟨rfl, rfl⟩)
  go_end0
  exact ⟨rfl, hr0.out.fail, (Kept.refl _ _ _).setCell 1 _⟩

set_option maxHeartbeats 2000000 in
set_option maxRecDepth 100000 in
theorem xNumC (p : Nat) (l : List Int) (e0 : Int) (most : Int) (w : World) (hr : RdX p (l, e0) w) (hb : IsBytes l) (hm : 0 ≤ most ∧ most ≤ 18446744073709551615) :
    Calls Try.prog 42 #[.pointer (some ⟨p, 0, none⟩), .int .u64 most] w (RdxGives p (.int .u64 (numR (l, e0) most).2) (numR (l, e0) most).1 w) := by
  have HE := xErrC p (l, e0) w hr
  have hr0 := Lib.hid hr
  obtain ⟨a, n, c, h1, h2, h3, h4, h4', h5, h6, h7, h8, h9, h10⟩ := hr
  simp only at h3 h5 h6 HE
  have HG := fun w ha => getC l a c w ha hb (by omega)
  rw [h6] at HG
  unfold GotIs at HG
  unfold RdxGives
  by_cases q0 : e0 = 0
  · subst q0
    have HF := fun e => xFailC p l e w hr0.out
    unfold RdxGives at HF
    by_cases q1 : (got l 0 0).2.2 = 0
    · by_cases q2 : most < (got l 0 0).1
      · have E : Hid (numR (l, 0) most = ((l, 3), 0)) := by unfold Hid numR; rw [if_neg (by simp), if_neg (by simp [q1]), if_pos q2]
        rw [q1] at HG
        generalize (got l 0 0).1 = V at *
        generalize (got l 0 0).2.1 = K at *
        clear q1
        go_enter Try.func42, Try.ntmps42
        go_wp2_with (first
          | (go_at_call 29; (with_reducible refine HE.mono ?_); rintro e w' ⟨rfl, rfl⟩)
          | (go_at_call 49; (with_reducible refine (HG _ h5).mono ?_); rintro e w' ⟨rfl, rfl⟩)
          | (go_at_call 50; (with_reducible refine (HF _).mono ?_); rintro e w' ⟨rfl, hx, hk⟩))
        go_ret
        rw [E.out]
        exact ⟨rfl, hx, hk⟩
      · obtain ⟨V, L, e1, e2, l1, l2, e3⟩ := numR_good (r := (l, 0)) hb rfl q1 q2
        have E := Lib.hid e3
        simp only at e1 e2 l2
        rw [q1, e1, e2] at HG
        rw [e1] at q2
        clear e1 e2 e3 q1 HF
        obtain ⟨B, off, rfl⟩ : ∃ B off, a = some ⟨B, off, none⟩ := by
          obtain ⟨B, off, e, -⟩ := h5.at 0 (by omega)
          exact ⟨B, off, e⟩
        have h5' := h5
        rw [← List.take_append_drop L l, List.map_append] at h5'
        have hcut := h5'.cut_if (c := c) L (by rw [List.length_map, List.length_take]; omega) (fun e => by
          have : (l.drop L).length = 0 := by rw [List.length_drop]; omega
          rw [List.length_eq_zero_iff.mp this]; rfl)
        have hdl : (l.drop L).length = n - L := by rw [List.length_drop, h6]
        clear h5'
        have hL : (L : Int) ≤ (n : Int) := by omega
        unfold maxLen at h8
        have hap : ∀ o, Apart (some ⟨B, o, none⟩) p := fun o x hx => by cases hx; exact h10 ⟨B, off, none⟩ rfl
        by_cases hcL : c = L
        all_goals
          first
            | (rw [if_pos hcL] at hcut; subst hcL)
            | rw [if_neg hcL] at hcut
          go_enter Try.func42, Try.ntmps42
          go_wp2_with (first
            | (go_at_call 29; (with_reducible refine HE.mono ?_); rintro e w' ⟨rfl, rfl⟩)
            | (go_at_call 49; (with_reducible refine (HG _ h5).mono ?_); rintro e w' ⟨rfl, rfl⟩))
          go_ret
          rw [E.out]
          exact ⟨rfl, hr0.out.step hcut (by omega) (by omega) (by unfold maxLen; omega) (fun h => by cases h) (hap _), (Kept.refl _ _ _).setCell 0 _⟩
    · have E : Hid (numR (l, 0) most = ((l, (got l 0 0).2.2), 0)) := by unfold Hid numR; rw [if_neg (by simp), if_pos q1]
      generalize (got l 0 0).1 = V at *
      generalize (got l 0 0).2.1 = K at *
      generalize (got l 0 0).2.2 = R at *
      have q1b : (R == 0) = false := by simp [q1]
      have q1' : (R != 0) = true := by simp [q1]
      go_enter Try.func42, Try.ntmps42
      go_wp2_with (first
        | (go_at_call 29; (with_reducible refine HE.mono ?_); rintro e w' ⟨rfl, rfl⟩)
        | (go_at_call 49; (with_reducible refine (HG _ h5).mono ?_); rintro e w' ⟨rfl, rfl⟩)
        | (go_at_call 50; (with_reducible refine (HF _).mono ?_); rintro e w' ⟨rfl, hx, hk⟩))
      go_ret
      rw [E.out]
      exact ⟨rfl, hx, hk⟩
  · have E : Hid (numR (l, e0) most = ((l, e0), 0)) := by unfold Hid numR; rw [if_pos q0]
    have q0b : (e0 == 0) = false := by simp [q0]
    have q0' : (e0 != 0) = true := by simp [q0]
    go_enter Try.func42, Try.ntmps42
    go_wp2_with (go_at_call 29; (with_reducible refine HE.mono ?_); rintro e w' ⟨rfl, rfl⟩)
    go_ret
    rw [E.out]
    exact ⟨rfl, hr0.out, Kept.refl _ _ _⟩
end Go.Proofs.Ytfdiomghoheljaa
