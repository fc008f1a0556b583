/- Contracts of layer 5's reader. -/
import Derived.Test.YtfdiomghoheljaaPack
namespace Go.Proofs.Ytfdiomghoheljaa
open Go.RowKit
set_option linter.unusedVariables false

/-- A reader at block p, without an error, in front of the bytes l. -/
def Rd (p : Nat) (l : List Int) (w : World) : Prop :=
  ∃ a n c, p < w.heap.size ∧ w.cell? ⟨p, 0, none⟩ = some (.slice a n c) ∧ w.cell? ⟨p, 1, none⟩ = some (.int .i64 0) ∧ w.frozen? ⟨p, 0, none⟩ = false ∧ Reads w a (l.map (Value.int .u8)) ∧ l.length = n ∧ n ≤ c ∧ c ≤ maxLen ∧ (a = none → c = 0) ∧ Apart a p
theorem Rd.lt {p : Nat} {l : List Int} {w : World} (h : Rd p l w) : p < w.heap.size := h.choose_spec.choose_spec.choose_spec.1
theorem Rd.below {p : Nat} {l : List Int} {w w' : World} (h : Rd p l w) (hb : Below w.heap.size w w') : Rd p l w' := by
  obtain ⟨a, n, c, h1, h2, h3, h4, h5, h6⟩ := h
  exact ⟨a, n, c, Nat.lt_of_lt_of_le h1 hb.size, (hb.cell (p := ⟨p, 0, none⟩) h1).trans h2, (hb.cell (p := ⟨p, 1, none⟩) h1).trans h3, (hb.frozen (p := ⟨p, 0, none⟩) h1).trans h4, h5.below' hb, h6⟩
theorem Rd.drewN {p : Nat} {l : List Int} {w : World} (h : Rd p l w) (d : Nat) : Rd p l (w.drewN d) := by
  obtain ⟨a, n, c, h1, h2, h3, h4, h5, h6⟩ := h
  exact ⟨a, n, c, by simpa using h1, by simpa using h2, by simpa using h3, by simpa using h4, h5.drewN d, h6⟩
/-- It went on: what is left is another slice. -/
theorem Rd.heap {p : Nat} {l : List Int} {w w' : World} (h : Rd p l w) (e : w'.heap = w.heap) : Rd p l w' := by
  obtain ⟨a, n, c, h1, h2, h3, h4, h5, h6⟩ := h
  have hc : ∀ y, w'.cell? y = w.cell? y := fun y => World.cell?_of_block (by rw [e])
  have hf : ∀ y, w'.frozen? y = w.frozen? y := fun y => World.frozen?_of_block (by rw [e])
  exact ⟨a, n, c, by rw [e]; exact h1, (hc _).trans h2, (hc _).trans h3, (hf _).trans h4, h5.same hc, h6⟩
theorem Rd.step {p : Nat} {l r : List Int} {w : World} {a : Option Addr} {n c : Nat} (h : Rd p l w) (hr : Reads w a (r.map (Value.int .u8))) (hn : r.length = n) (hc : n ≤ c) (hm : c ≤ maxLen) (h0 : a = none → c = 0) (ha : Apart a p) :
    Rd p r (w.setCell ⟨p, 0, none⟩ (.slice a n c)) := by
  obtain ⟨a', n', c', h1, h2, h3, h4, -⟩ := h
  refine ⟨a, n, c, by simpa using h1, World.cell?_setCell_same w ⟨p, 0, none⟩ _ h2, ?_, by rw [World.frozen?_setCell]; exact h4, ?_, hn, hc, hm, h0, ha⟩
  · rw [World.cell?_setCell_other _ _ _ _ (by intro h; cases h)]; exact h3
  · intro i v hv
    obtain ⟨b, off, hb, hcell⟩ := hr i v hv
    refine ⟨b, off, hb, ?_⟩
    have hne : b ≠ p := ha _ hb
    rw [World.cell?_setCell_other _ _ _ _ (fun h => hne (congrArg Addr.block h).symm)]
    exact hcell

/-- A method of the reader answers v, and what is left is l. -/
def RdGives (p : Nat) (v : Value) (l : List Int) (w : World) (en : Ending) (w' : World) : Prop := en = .returned v ∧ Rd p l w' ∧ Kept p none w w'
theorem RdGives.early {p : Nat} {v : Value} {l : List Int} {w w1 w2 : World} {en : Ending} (h : RdGives p v l w1 en w2) (hb : Below w.heap.size w w1) : RdGives p v l w en w2 :=
  ⟨h.1, h.2.1, (Kept.of hb).trans (Near.refl _ _) h.2.2⟩

theorem rErrC (p : Nat) (l : List Int) (w : World) (hr : Rd p l w) : Calls Try.prog 29 #[.pointer (some ⟨p, 0, none⟩)] w fun e w' => e = .returned (.int .i64 0) ∧ w = w' := by
  obtain ⟨a, n, c, h1, h2, h3, h4, -⟩ := hr
  go_enter Try.func29, Try.ntmps29
  go_wp2
  go_ret
  exact ⟨rfl, rfl⟩
theorem rLeftC (p : Nat) (l : List Int) (n : Nat) (w : World) (hr : Rd p l w) (hn : l.length = n) : Calls Try.prog 30 #[.pointer (some ⟨p, 0, none⟩)] w fun e w' => e = .returned (.int .i64 (n : Int)) ∧ w = w' := by
  obtain ⟨a, n', c, h1, h2, h3, h4, h5, h6, -⟩ := hr
  obtain rfl : n' = n := h6.symm.trans hn
  go_enter Try.func30, Try.ntmps30
  go_wp2
  go_ret
  exact ⟨rfl, rfl⟩
theorem rEndC (p : Nat) (w : World) (hr : Rd p [] w) : Calls Try.prog 27 #[.pointer (some ⟨p, 0, none⟩)] w fun e w' => e = .returned (.int .i64 0) ∧ w = w' := by
  have H1 := rErrC p [] w hr
  have H2 := rLeftC p [] 0 w hr rfl
  go_enter Try.func27, Try.ntmps27
  go_wp2_with (first
    | (go_at_call 29; (with_reducible refine H1.mono ?_); rintro e w' ⟨rfl, rfl⟩)
    | (go_at_call 30; (with_reducible refine H2.mono ?_); rintro e w' ⟨rfl, rfl⟩))
  go_ret
  exact ⟨rfl, rfl⟩

set_option maxRecDepth 100000 in
theorem readC (l : List Int) (a : Option Addr) (n c : Nat) (w : World) (ha : Reads w a (l.map (Value.int .u8))) (hn : l.length = n) (hc : n ≤ c) (hm : c ≤ maxLen) (h0 : a = none → c = 0) (hlt : ∀ x, a = some x → x.block < w.heap.size) :
    Calls Try.prog 19 #[.slice a n c] w fun e w' => e = .returned (.pointer (some ⟨w.heap.size, 0, none⟩)) ∧ Rd w.heap.size l w' ∧ Below w.heap.size w w' := by
  go_enter Try.func19, Try.ntmps19
  go_wp2
  go_ret
  refine ⟨rfl, ⟨a, n, c, by simp, ?_, ?_, ?_, ha.below' (below_alloc w _), hn, hc, hm, h0, fun x hx => by have := hlt x hx; omega⟩, below_alloc w _⟩
  · rw [World.cell?_alloc_at _ _ _ _ rfl]; rfl
  · rw [World.cell?_alloc_at _ _ _ _ rfl]; rfl
  · exact World.frozen?_alloc_at _ _ _ _ rfl

set_option maxRecDepth 100000 in
theorem rNumC (p N : Nat) (r l : List Int) (most : Int) (w : World) (hr : Rd p l w) (hl : short N ++ r = l) (hb : IsBytes l) (h : N ≤ 18446744073709551615) (hm : (N : Int) ≤ most) :
    Calls Try.prog 42 #[.pointer (some ⟨p, 0, none⟩), .int .u64 most] w (RdGives p (.int .u64 (N : Int)) r w) := by
  have HE := rErrC p l w hr
  have hr' := Lib.hid hr
  obtain ⟨a, n, c, h1, h2, h3, h4, h5, h6, h7, h8, h9, h10⟩ := hr
  have HG := fun w ha => getC l a c w ha hb (by omega)
  have hgot := got_back N r h
  rw [hl] at hgot
  rw [hgot, h6] at HG
  unfold GotIs at HG
  obtain ⟨s1, -, -⟩ := short_bounds N
  have hln : (short N).length + r.length = n := by rw [← h6, ← hl, List.length_append]
  obtain ⟨B, off, rfl⟩ : ∃ B off, a = some ⟨B, off, none⟩ := by
    obtain ⟨B, off, e, -⟩ := h5.at 0 (by omega)
    exact ⟨B, off, e⟩
  have h5' := h5
  rw [← hl, List.map_append] at h5'
  have hcut := h5'.cut_if (c := c) (short N).length (List.length_map _) (fun e => by
    have : r.length = 0 := by omega
    rw [List.length_eq_zero_iff.mp this]; rfl)
  clear hgot h5' hl hb
  generalize (short N).length = L at *
  have hL : (L : Int) ≤ (n : Int) := by omega
  unfold maxLen at h8
  have hap : ∀ o, Apart (some ⟨B, o, none⟩) p := fun o x hx => by cases hx; exact h10 ⟨B, off, none⟩ rfl
  by_cases hcL : c = L
  all_goals
    first
      | (rw [if_pos hcL] at hcut; subst hcL)
      | rw [if_neg hcL] at hcut
    go_enter Try.func42, Try.ntmps42
    go_wp2_with (first
      | (go_at_call 29; (with_reducible refine HE.mono ?_); rintro e w' ⟨rfl, rfl⟩)
      | (go_at_call 49; (with_reducible refine (HG _ h5).mono ?_); rintro e w' ⟨rfl, rfl⟩))
    go_ret
    exact ⟨rfl, hr'.out.step hcut (by omega) (by omega) (by unfold maxLen; omega) (fun h => by cases h) (hap _), (Kept.refl _ _ _).setCell 0 _⟩

theorem infoB : (Try.prog.info? 4).map (fun i => (i.zero, i.size, i.bytes)) = some (some (.bool false), 1, 1) := by kernel_rfl

def flagsDone (f : List Bool) (k : Nat) : List Bool := (List.range f.length).map fun i => if i < k then f.getD i false else false
theorem flagsDone_zero (f : List Bool) (n : Nat) (h : f.length = n) : (List.replicate n (Value.bool false)) = (flagsDone f 0).map Value.bool := by
  subst h
  unfold flagsDone
  rw [List.map_map]
  apply List.ext_getElem
  · simp
  · intro i h1 h2; simp
theorem flagsDone_all (f : List Bool) (n : Nat) (h : f.length = n) : flagsDone f n = f := by
  subst h
  unfold flagsDone
  apply List.ext_getElem
  · simp
  · intro i h1 h2
    simp only [List.getElem_map, List.getElem_range]
    rw [if_pos h2, List.getD_eq_getElem?_getD, List.getElem?_eq_getElem h2]
    rfl
theorem flagsDone_set (f : List Bool) (k : Nat) : ((flagsDone f k).map Value.bool).set k (.bool (f.getD k false)) = (flagsDone f (k + 1)).map Value.bool := by
  unfold flagsDone
  apply List.ext_getElem
  · simp
  · intro i h1 h2
    simp only [List.getElem_set, List.getElem_map, List.getElem_range]
    by_cases h : k = i
    · subst h; simp
    · by_cases h3 : i < k
      · have : i < k + 1 := by omega
        simp [h, h3, this]
      · have : ¬ i < k + 1 := by omega
        simp [h, h3, this]

/-- Flags in new memory. -/
def FlagsGives (p : Nat) (f : List Bool) (n : Nat) (l : List Int) (w : World) (en : Ending) (w' : World) : Prop :=
  ∃ a c, en = .returned (.slice a n c) ∧ Owned w.heap.size 4 a n c (f.map Value.bool) w' ∧ Rd p l w' ∧ Kept p none w w'

theorem flag_test (f : List Bool) (k : Nat) (h : flagSum f < 256) : (bits BinOp.and IntKind.u8 ((flagSum f : Int) / 2 ^ k) 1 == 1) = f.getD k false := by
  have e : (flagSum f : Int) / 2 ^ k = ((flagSum f / 2 ^ k : Nat) : Int) := by push_cast; rfl
  have hb := flagSum_bit f k
  have hle : flagSum f / 2 ^ k ≤ flagSum f := Nat.div_le_self _ _
  rw [e, show (1 : Int) = ((1 : Nat) : Int) from rfl, u8_and_nat _ _ (by omega) (by decide), Nat.and_one_is_mod, hb]
  cases f.getD k false <;> rfl

end Go.Proofs.Ytfdiomghoheljaa
