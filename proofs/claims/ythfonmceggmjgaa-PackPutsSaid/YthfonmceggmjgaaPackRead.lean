/- Contracts of layer 5's reader. -/
import Derived.Test.YthfonmceggmjgaaPack
namespace Go.Proofs.Ythfonmceggmjgaa
open Go.RowKit
set_option linter.unusedVariables false

/-- A reader at block p, without an error, in front of the bytes l. -/
def Rd (p : Nat) (l : List Int) (w : World) : Prop :=
  ∃ a n c, p < w.heap.size ∧ w.cell? ⟨p, 0, none⟩ = some (.slice a n c) ∧ w.cell? ⟨p, 1, none⟩ = some (.int .i64 0) ∧ w.frozen? ⟨p, 0, none⟩ = false ∧ Reads w a (l.map (Value.int .u8)) ∧ l.length = n ∧ n ≤ c ∧ c ≤ maxLen ∧ (a = none → c = 0) ∧ Apart a p
theorem Rd.lt {p : Nat} {l : List Int} {w : World} (h : Rd p l w) : p < w.heap.size := h.choose_spec.choose_spec.choose_spec.1
theorem Rd.below {p : Nat} {l : List Int} {w w' : World} (h : Rd p l w) (hb : Below w.heap.size w w') : Rd p l w' := by
  obtain ⟨a, n, c, h1, h2, h3, h4, h5, h6⟩ := h
  exact ⟨a, n, c, Nat.lt_of_lt_of_le h1 hb.size, (hb.cell (p := ⟨p, 0, none⟩) h1).trans h2, (hb.cell (p := ⟨p, 1, none⟩) h1).trans h3, (hb.frozen (p := ⟨p, 0, none⟩) h1).trans h4, h5.below' hb, h6⟩
theorem Rd.drewN {p : Nat} {l : List Int} {w : World} (h : Rd p l w) (d : Nat) : Rd p l (w.drewN d) := by
  obtain ⟨a, n, c, h1, h2, h3, h4, h5, h6⟩ := h
  exact ⟨a, n, c, by simpa using h1, by simpa using h2, by simpa using h3, by simpa using h4, h5.drewN d, h6⟩
/-- It went on: what is left is another slice. -/
theorem Rd.step {p : Nat} {l r : List Int} {w : World} {a : Option Addr} {n c : Nat} (h : Rd p l w) (hr : Reads w a (r.map (Value.int .u8))) (hn : r.length = n) (hc : n ≤ c) (hm : c ≤ maxLen) (h0 : a = none → c = 0) (ha : Apart a p) :
    Rd p r (w.setCell ⟨p, 0, none⟩ (.slice a n c)) := by
  obtain ⟨a', n', c', h1, h2, h3, h4, -⟩ := h
  refine ⟨a, n, c, by simpa using h1, World.cell?_setCell_same w ⟨p, 0, none⟩ _ h2, ?_, by rw [World.frozen?_setCell]; exact h4, ?_, hn, hc, hm, h0, ha⟩
  · rw [World.cell?_setCell_other _ _ _ _ (by intro h; cases h)]; exact h3
  · intro i v hv
    obtain ⟨b, off, hb, hcell⟩ := hr i v hv
    refine ⟨b, off, hb, ?_⟩
    have hne : b ≠ p := ha _ hb
    rw [World.cell?_setCell_other _ _ _ _ (fun h => hne (congrArg Addr.block h).symm)]
    exact hcell

/-- A method of the reader answers v, and what is left is l. -/
def RdGives (p : Nat) (v : Value) (l : List Int) (w : World) (en : Ending) (w' : World) : Prop := en = .returned v ∧ Rd p l w' ∧ Kept p none w w'
theorem RdGives.early {p : Nat} {v : Value} {l : List Int} {w w1 w2 : World} {en : Ending} (h : RdGives p v l w1 en w2) (hb : Below w.heap.size w w1) : RdGives p v l w en w2 :=
  ⟨h.1, h.2.1, (Kept.of hb).trans (Near.refl _ _) h.2.2⟩

theorem rErrC (p : Nat) (l : List Int) (w : World) (hr : Rd p l w) : Calls Try.prog 28 #[.pointer (some ⟨p, 0, none⟩)] w fun e w' => e = .returned (.int .i64 0) ∧ w = w' := by
  obtain ⟨a, n, c, h1, h2, h3, h4, -⟩ := hr
  go_enter Try.func28, Try.ntmps28
  go_wp2
  go_ret
  exact ⟨rfl, rfl⟩
theorem rLeftC (p : Nat) (l : List Int) (n : Nat) (w : World) (hr : Rd p l w) (hn : l.length = n) : Calls Try.prog 27 #[.pointer (some ⟨p, 0, none⟩)] w fun e w' => e = .returned (.int .i64 (n : Int)) ∧ w = w' := by
  obtain ⟨a, n', c, h1, h2, h3, h4, h5, h6, -⟩ := hr
  obtain rfl : n' = n := h6.symm.trans hn
  go_enter Try.func27, Try.ntmps27
  go_wp2
  go_ret
  exact ⟨rfl, rfl⟩
theorem rEndC (p : Nat) (w : World) (hr : Rd p [] w) : Calls Try.prog 21 #[.pointer (some ⟨p, 0, none⟩)] w fun e w' => e = .returned (.int .i64 0) ∧ w = w' := by
  have H1 := rErrC p [] w hr
  have H2 := rLeftC p [] 0 w hr rfl
  go_enter Try.func21, Try.ntmps21
  go_wp2_with (first
    | (go_at_call 28; (with_reducible refine H1.mono ?_); rintro e w' ⟨rfl, rfl⟩)
    | (go_at_call 27; (with_reducible refine H2.mono ?_); rintro e w' ⟨rfl, rfl⟩))
  go_ret
  exact ⟨rfl, rfl⟩

set_option maxRecDepth 100000 in
theorem readC (l : List Int) (a : Option Addr) (n c : Nat) (w : World) (ha : Reads w a (l.map (Value.int .u8))) (hn : l.length = n) (hc : n ≤ c) (hm : c ≤ maxLen) (h0 : a = none → c = 0) (hlt : ∀ x, a = some x → x.block < w.heap.size) :
    Calls Try.prog 15 #[.slice a n c] w fun e w' => e = .returned (.pointer (some ⟨w.heap.size, 0, none⟩)) ∧ Rd w.heap.size l w' ∧ Below w.heap.size w w' := by
  go_enter Try.func15, Try.ntmps15
  go_wp2
  go_ret
  refine ⟨rfl, ⟨a, n, c, by simp, ?_, ?_, ?_, ha.below' (below_alloc w _), hn, hc, hm, h0, fun x hx => by have := hlt x hx; omega⟩, below_alloc w _⟩
  · rw [World.cell?_alloc_at _ _ _ _ rfl]; rfl
  · rw [World.cell?_alloc_at _ _ _ _ rfl]; rfl
  · exact World.frozen?_alloc_at _ _ _ _ rfl

set_option maxRecDepth 100000 in
theorem rNumC (p N : Nat) (r l : List Int) (most : Int) (w : World) (hr : Rd p l w) (hl : short N ++ r = l) (hb : IsBytes l) (h : N ≤ 18446744073709551615) (hm : (N : Int) ≤ most) :
    Calls Try.prog 16 #[.pointer (some ⟨p, 0, none⟩), .int .u64 most] w (RdGives p (.int .u64 (N : Int)) r w) := by
  have HE := rErrC p l w hr
  have hr' := Lib.hid hr
  obtain ⟨a, n, c, h1, h2, h3, h4, h5, h6, h7, h8, h9, h10⟩ := hr
  have HG := fun w ha => getC l a c w ha hb (by omega)
  have hgot := got_back N r h
  rw [hl] at hgot
  rw [hgot, h6] at HG
  unfold GotIs at HG
  obtain ⟨s1, -, -⟩ := short_bounds N
  have hln : (short N).length + r.length = n := by rw [← h6, ← hl, List.length_append]
  obtain ⟨B, off, rfl⟩ : ∃ B off, a = some ⟨B, off, none⟩ := by
    obtain ⟨B, off, e, -⟩ := h5.at 0 (by omega)
    exact ⟨B, off, e⟩
  have h5' := h5
  rw [← hl, List.map_append] at h5'
  have hcut := h5'.cut_if (c := c) (short N).length (List.length_map _) (fun e => by
    have : r.length = 0 := by omega
    rw [List.length_eq_zero_iff.mp this]; rfl)
  clear hgot h5' hl hb
  generalize (short N).length = L at *
  have hL : (L : Int) ≤ (n : Int) := by omega
  unfold maxLen at h8
  have hap : ∀ o, Apart (some ⟨B, o, none⟩) p := fun o x hx => by cases hx; exact h10 ⟨B, off, none⟩ rfl
  by_cases hcL : c = L
  all_goals
    first
      | (rw [if_pos hcL] at hcut; subst hcL)
      | rw [if_neg hcL] at hcut
    go_enter Try.func16, Try.ntmps16
    go_wp2_with (first
      | (go_at_call 28; (with_reducible refine HE.mono ?_); rintro e w' ⟨rfl, rfl⟩)
      | (go_at_call 32; (with_reducible refine (HG _ h5).mono ?_); rintro e w' ⟨rfl, rfl⟩))
    go_ret
    exact ⟨rfl, hr'.out.step hcut (by omega) (by omega) (by unfold maxLen; omega) (fun h => by cases h) (hap _), (Kept.refl _ _ _).setCell 0 _⟩

theorem amountC (m : Int) (K : Nat) (w : World) (h0 : -9223372036854775808 ≤ m) (h1 : m ≤ 9223372036854775807) (hK : m.natAbs = K) :
    Calls Try.prog 34 #[.int .i64 m] w fun e w' => e = .returned (.int .u64 (K : Int)) ∧ w = w' := by
  by_cases c : m < 0
  · have e1 : IntKind.u64.wrap m = m + 18446744073709551616 := by rw [IntKind.wrap_u64]; omega
    have e2 : IntKind.u64.wrap (-(m + 18446744073709551616)) = (K : Int) := by rw [IntKind.wrap_u64]; omega
    have e3 : (-(m + 18446744073709551616)) % 18446744073709551616 = (K : Int) := by omega
    have e4 : m % 18446744073709551616 = m + 18446744073709551616 := by omega
    go_enter Try.func34, Try.ntmps34
    go_wp2
    go_ret
    exact ⟨by simp, rfl⟩
  · have e1 : IntKind.u64.wrap m = (K : Int) := by rw [IntKind.wrap_u64]; omega
    go_enter Try.func34, Try.ntmps34
    go_wp2
    go_ret
    exact ⟨by simp, rfl⟩

set_option maxRecDepth 100000 in
theorem rIntC (p N K : Nat) (m : Int) (r l : List Int) (most : Int) (w : World) (hr : Rd p l w) (hl : short N ++ r = l) (hb : IsBytes l) (hN : foldI m = (N : Int)) (h : N ≤ 18446744073709551615) (h0 : -9223372036854775808 ≤ m) (h1 : m ≤ 9223372036854775807)
    (hK : m.natAbs = K) (hm : (K : Int) ≤ most) (hm1 : most ≤ 9223372036854775807) :
    Calls Try.prog 17 #[.pointer (some ⟨p, 0, none⟩), .int .i64 most] w (RdGives p (.int .i64 m) r w) := by
  have HE := rErrC p l w hr
  have HA := fun w => amountC m K w h0 h1 hK
  have hr' := Lib.hid hr
  obtain ⟨a, n, c, g1, g2, g3, g4, h5, h6, h7, h8, h9, h10⟩ := hr
  have HG := fun w ha => getIntC l a c w ha hb (by omega)
  have hgot := got_back N r h
  rw [hl] at hgot
  rw [hgot, h6] at HG
  dsimp only at HG
  rw [← hN, unfold_fold] at HG
  obtain ⟨s1, -, -⟩ := short_bounds N
  have hln : (short N).length + r.length = n := by rw [← h6, ← hl, List.length_append]
  obtain ⟨B, off, rfl⟩ : ∃ B off, a = some ⟨B, off, none⟩ := by
    obtain ⟨B, off, e, -⟩ := h5.at 0 (by omega)
    exact ⟨B, off, e⟩
  have h5' := h5
  rw [← hl, List.map_append] at h5'
  have hcut := h5'.cut_if (c := c) (short N).length (List.length_map _) (fun e => by
    have : r.length = 0 := by omega
    rw [List.length_eq_zero_iff.mp this]; rfl)
  clear hgot h5' hl hb hN hK
  generalize (short N).length = L at *
  have hL : (L : Int) ≤ (n : Int) := by omega
  unfold maxLen at h8
  have hap : ∀ o, Apart (some ⟨B, o, none⟩) p := fun o x hx => by cases hx; exact h10 ⟨B, off, none⟩ rfl
  have hmost : most % 18446744073709551616 = most := by omega
  have hmax : max most 0 = most := by omega
  by_cases hcL : c = L
  all_goals
    first
      | (rw [if_pos hcL] at hcut; subst hcL)
      | rw [if_neg hcL] at hcut
    go_enter Try.func17, Try.ntmps17
    go_wp2_with (first
      | (go_at_call 28; (with_reducible refine HE.mono ?_); rintro e w' ⟨rfl, rfl⟩)
      | (go_at_call 33; (with_reducible refine (HG _ h5).mono ?_); rintro e w' ⟨rfl, rfl⟩)
      | (go_at_call 34; (with_reducible refine (HA _).mono ?_); rintro e w' ⟨rfl, rfl⟩))
    all_goals
      go_ret
      exact ⟨rfl, hr'.out.step hcut (by omega) (by omega) (by unfold maxLen; omega) (fun h => by cases h) (hap _), (Kept.refl _ _ _).setCell 0 _⟩

set_option maxRecDepth 100000 in
theorem rTextC (p S : Nat) (s : ByteArray) (r l : List Int) (most : Int) (w : World) (hr : Rd p l w) (hS : s.size = S) (hl : textBytes s ++ r = l) (hb : IsBytes l) (hs : S ≤ 1000000000) (hm : (S : Int) ≤ most) (hm1 : most ≤ 9223372036854775807) :
    Calls Try.prog 18 #[.pointer (some ⟨p, 0, none⟩), .int .i64 most] w (RdGives p (.string s) r w) := by
  have HE := rErrC p l w hr
  have hr' := Lib.hid hr
  obtain ⟨a, n, c, g1, g2, g3, g4, h5, h6, h7, h8, h9, h10⟩ := hr
  have HG := fun w ha => getC l a c w ha hb (by omega)
  unfold textBytes at hl
  rw [hS, List.append_assoc] at hl
  have hgot := got_back S (strBytes s ++ r) (by omega)
  rw [hl] at hgot
  rw [hgot, h6] at HG
  unfold GotIs at HG
  obtain ⟨s1, -, -⟩ := short_bounds S
  have hten := short_ten S (by omega)
  have hsl : (strBytes s).length = S := (strBytes_len s).trans hS
  have hln : (short S).length + (S + r.length) = n := by rw [← h6, ← hl, List.length_append, List.length_append, hsl]
  obtain ⟨B, off, rfl⟩ : ∃ B off, a = some ⟨B, off, none⟩ := by
    obtain ⟨B, off, e, -⟩ := h5.at 0 (by omega)
    exact ⟨B, off, e⟩
  have h5' := h5
  rw [← hl, List.map_append, List.map_append] at h5'
  have hcut1 := h5'.cut_if (c := c) (short S).length (List.length_map _) (fun e => by
    have hr0 : r.length = 0 := by omega
    have hs0 : (strBytes s).length = 0 := by omega
    rw [List.length_eq_zero_iff.mp hr0, List.length_eq_zero_iff.mp hs0]; rfl)
  have hcut3 := hcut1.head
  clear hcut1
  rw [← List.append_assoc] at h5'
  have hcut2 := h5'.cut_if (c := c) ((short S).length + S) (by rw [List.length_append, List.length_map, List.length_map, hsl]) (fun e => by
    have hr0 : r.length = 0 := by omega
    rw [List.length_eq_zero_iff.mp hr0]; rfl)
  clear hgot h5' hl hb
  generalize (short S).length = L at *
  have hL : (L : Int) ≤ (n : Int) := by omega
  unfold maxLen at h8
  have hap : ∀ o, Apart (some ⟨B, o, none⟩) p := fun o x hx => by cases hx; exact h10 ⟨B, off, none⟩ rfl
  have hmost : most % 18446744073709551616 = most := by omega
  obtain ⟨G, hG⟩ : ∃ G, L + S = G := ⟨_, rfl⟩
  rw [hG] at hcut2
  have hG1 : (L : Int) + (S : Int) = (G : Int) := by omega
  have hG2 : (G : Int) - (L : Int) = (S : Int) := by omega
  have hG3 : (n : Int) - (L : Int) = ((n - L : Nat) : Int) := by omega
  have hG4 : (S : Int) ≤ ((n - L : Nat) : Int) := by omega
  have hG5 : (G : Int) ≤ (n : Int) := by omega
  have hG6 : (L : Int) ≤ (G : Int) := by omega
  have hG7 : G - L = S := by omega
  dsimp only at HG
  have hs0 : s.size = S := hS
  rcases (show (c = L ∧ c = G) ∨ (c ≠ L ∧ c = G) ∨ (c ≠ L ∧ c ≠ G) by omega) with ⟨q1, q2⟩ | ⟨q1, q2⟩ | ⟨q1, q2⟩
  all_goals
    first
      | (rw [if_pos q1] at hcut3; rw [if_pos q2] at hcut2; subst q1; subst q2)
      | (rw [if_neg q1] at hcut3; rw [if_pos q2] at hcut2; subst q2)
      | (rw [if_neg q1] at hcut3; rw [if_neg q2] at hcut2)
    have kb := fun C => run_string_of (P := Try.prog) w 26 9 5 _ S C s Try.underlying26 Try.underlying5 Try.underlying9 hcut3 hs0 ⟨_, rfl⟩
    go_enter Try.func18, Try.ntmps18
    go_wp2_with (first
      | (go_at_call 28; (with_reducible refine HE.mono ?_); rintro e w' ⟨rfl, rfl⟩)
      | (go_at_call 32; (with_reducible refine (HG _ h5).mono ?_); rintro e w' ⟨rfl, rfl⟩))
    all_goals
      go_ret
      exact ⟨rfl, hr'.out.step hcut2 (by omega) (by omega) (by unfold maxLen; omega) (fun h => by cases h) (hap _), (Kept.refl _ _ _).setCell 0 _⟩

theorem infoB : (Try.prog.info? 4).map (fun i => (i.zero, i.size, i.bytes)) = some (some (.bool false), 1, 1) := by kernel_rfl

def flagsDone (f : List Bool) (k : Nat) : List Bool := (List.range f.length).map fun i => if i < k then f.getD i false else false
theorem flagsDone_zero (f : List Bool) (n : Nat) (h : f.length = n) : (List.replicate n (Value.bool false)) = (flagsDone f 0).map Value.bool := by
  subst h
  unfold flagsDone
  rw [List.map_map]
  apply List.ext_getElem
  · simp
  · intro i h1 h2; simp
theorem flagsDone_all (f : List Bool) (n : Nat) (h : f.length = n) : flagsDone f n = f := by
  subst h
  unfold flagsDone
  apply List.ext_getElem
  · simp
  · intro i h1 h2
    simp only [List.getElem_map, List.getElem_range]
    rw [if_pos h2, List.getD_eq_getElem?_getD, List.getElem?_eq_getElem h2]
    rfl
theorem flagsDone_set (f : List Bool) (k : Nat) : ((flagsDone f k).map Value.bool).set k (.bool (f.getD k false)) = (flagsDone f (k + 1)).map Value.bool := by
  unfold flagsDone
  apply List.ext_getElem
  · simp
  · intro i h1 h2
    simp only [List.getElem_set, List.getElem_map, List.getElem_range]
    by_cases h : k = i
    · subst h; simp
    · by_cases h3 : i < k
      · have : i < k + 1 := by omega
        simp [h, h3, this]
      · have : ¬ i < k + 1 := by omega
        simp [h, h3, this]

/-- Flags in new memory. -/
def FlagsGives (p : Nat) (f : List Bool) (n : Nat) (l : List Int) (w : World) (en : Ending) (w' : World) : Prop :=
  ∃ a c, en = .returned (.slice a n c) ∧ Owned w.heap.size 4 a n c (f.map Value.bool) w' ∧ Rd p l w' ∧ Kept p none w w'

theorem flag_test (f : List Bool) (k : Nat) (h : flagSum f < 256) : (bits BinOp.and IntKind.u8 ((flagSum f : Int) / 2 ^ k) 1 == 1) = f.getD k false := by
  have e : (flagSum f : Int) / 2 ^ k = ((flagSum f / 2 ^ k : Nat) : Int) := by push_cast; rfl
  have hb := flagSum_bit f k
  have hle : flagSum f / 2 ^ k ≤ flagSum f := Nat.div_le_self _ _
  rw [e, show (1 : Int) = ((1 : Nat) : Int) from rfl, u8_and_nat _ _ (by omega) (by decide), Nat.and_one_is_mod, hb]
  cases f.getD k false <;> rfl

set_option maxRecDepth 100000 in
theorem rFlagsC (p n : Nat) (f : List Bool) (r l : List Int) (w : World) (hr : Rd p l w) (hl : (flagSum f : Int) :: r = l) (hf : f.length = n) (hn : n ≤ 8) :
    Calls Try.prog 20 #[.pointer (some ⟨p, 0, none⟩), .int .i64 (n : Int)] w (FlagsGives p f n r w) := by
  obtain ⟨i0, hi, hz0, hz1, hz2⟩ := info_parts infoB
  have HE := rErrC p l w hr
  have hr' := Lib.hid hr
  obtain ⟨a, n', c, g1, g2, g3, g4, h5, h6, h7, h8, h9, h10⟩ := hr
  have hlt := flagSum_lt f
  rw [hf] at hlt
  have h256 : 2 ^ n ≤ 256 := pow8_le n hn
  have HT := fun k => Lib.hid (flag_test f k (by omega))
  have hz : (flagSum f : Int) / 2 ^ n = 0 := by
    have e : (flagSum f : Int) / 2 ^ n = ((flagSum f / 2 ^ n : Nat) : Int) := by push_cast; rfl
    rw [e, Nat.div_eq_of_lt hlt]
    rfl
  have hln : 1 + r.length = n' := by rw [← h6, ← hl, List.length_cons]; omega
  obtain ⟨B, off, rfl⟩ : ∃ B off, a = some ⟨B, off, none⟩ := by
    obtain ⟨B, off, e, -⟩ := h5.at 0 (by omega)
    exact ⟨B, off, e⟩
  have h5' := h5
  rw [← hl] at h5'
  have c0 : w.cell? ⟨B, off, none⟩ = some (.int .u8 (flagSum f : Int)) := by
    obtain ⟨_, _, e, hc⟩ := h5' 0 _ rfl
    cases e
    exact hc
  have hcut := Reads.cut_if (c := c) (xs := [.int .u8 (flagSum f : Int)]) (ys := r.map (Value.int .u8)) h5' 1 rfl (fun e => by
    have : r.length = 0 := by omega
    rw [List.length_eq_zero_iff.mp this]; rfl)
  have HF0 := Lib.hid (flagsDone_zero f n hf)
  have HFA := Lib.hid (flagsDone_all f n hf)
  have HFL := Lib.hid hf
  have HFS := fun k => Lib.hid (flagsDone_set f k)
  clear h5' hl hf h256 hlt
  have hn1 : (1 : Int) ≤ (n' : Int) := by omega
  have hn0 : ¬ (n' : Int) = 0 := by omega
  have hn8 : (n : Int) ≤ 8 := by omega
  unfold maxLen at h8
  have hap : ∀ o, Apart (some ⟨B, o, none⟩) p := fun o x hx => by cases hx; exact h10 ⟨B, off, none⟩ rfl
  generalize hx : (flagSum f : Int) = x at *
  by_cases hcL : c = 1
  all_goals
    first
      | (rw [if_pos hcL] at hcut; subst hcL)
      | rw [if_neg hcL] at hcut
    go_enter Try.func20, Try.ntmps20
    go_wp2_with (first
      | (go_at_call 28; (with_reducible refine HE.mono ?_); rintro e w' ⟨rfl, rfl⟩)
      | (at_make; refine wpList_make_full _ rfl _ _ 32 rfl w.heap.size 4 i0 (.bool false) 1 Try.underlying32 hi hz0 hz1 .i64 .i64 (n : Int) (n : Int) n rfl rfl rfl rfl (by rw [hz2]; omega) (by unfold maxLen; omega) (by simp) ?_; intro w1 hown1 hgrow1))
    have hb1 := (Below.refl _ _).grown hgrow1 (Nat.le_refl _) (by intro k hk; cases hk)
    first
      | have hrd0 := hr'.out.step hcut (n := n' - 1) (c := c - 1) (by omega) (by omega) (by unfold maxLen; omega) (fun h => by cases h) (hap _)
      | have hrd0 := hr'.out.step hcut (n := 0) (c := 0) (by omega) (by omega) (by unfold maxLen; omega) (fun h => by cases h) (hap _)
    have hk0 := (Kept.refl p none w).setCell 0
    simp only [World.size_setCell] at hown1 hb1 ⊢
    obtain ⟨w0, hw0, hb0, hrd, hkp⟩ : ∃ w0, w0.heap.size = w.heap.size ∧ Below w.heap.size w0 w1 ∧ Rd p r w0 ∧ Kept p none w w0 := ⟨_, by simp, hb1, hrd0, hk0 _⟩
    clear hb1 hrd0 hk0 hgrow1
    rw [show (Value.bool false).cells = #[.bool false] from rfl, toList_madeCells_one, Nat.mul_one, HF0.out] at hown1
    go_loopw [51] (fun i wr => ∃ k : Nat, k ≤ n ∧ i = .int .i64 k ∧ wr.ownsRow w.heap.size 4 1 (.slice (some ⟨w.heap.size, 0, none⟩) n n) n ((flagsDone f k).map Value.bool) ∧ Below w.heap.size w0 wr) (fun i _ => n - (intOf i).toNat)
    case atStart => exact ⟨0, Nat.zero_le _, rfl, hown1, hb0⟩
    case round =>
      obtain ⟨k, hk, rfl, hown, hb⟩ := hrel
      clear hown1 hb0
      by_cases hlt : k < n
      · have hfl : (flagsDone f k).length = n := by simp [flagsDone, HFL.out]
        have hlt' : (k : Int) < (n : Int) := by omega
        obtain ⟨v, hc⟩ := row_cell hown k (by omega) (by simp [hfl]; omega)
        have hf := hown.frozenAt k
        have hT := (HT k).out
        have hFS := (HFS k).out
        generalize f.getD k false = t at hT hFS
        have HFSk := Lib.hid hFS
        clear hFS hfl HT HFS
        go_wp2
        go_roundw
        case rel =>
          have hs := hown.stored k (.bool t)
          rw [HFSk.out] at hs
          exact ⟨k + 1, by omega, by go_num, hs.1, hb.setCell (Nat.le_refl _) _⟩
        case measure => simp [intOf]; omega
      · have hkn : ¬ (k : Int) < (n : Int) := by omega
        go_wp2
        go_ret
        have : k = n := by omega
        subst this
        rw [HFA.out] at hown
        obtain ⟨_, _, e3, ho3⟩ := Owned.of hown
        cases e3
        exact ⟨_, _, rfl, ho3, hrd.below (by rw [hw0]; exact hb), hkp.trans (Near.refl _ _) (Kept.of (by rw [hw0]; exact hb))⟩
end Go.Proofs.Ythfonmceggmjgaa
