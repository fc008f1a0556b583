/- Contracts and plain words that the laws' proofs stand on, put together. -/
import Derived.Test.YthefieemngmnjaaGreatDoorLibAB
import Derived.Test.YthefieemngmnjaaGreatDoorLibAD
import Derived.Test.YthefieemngmnjaaGreatDoorLibAC
import Derived.Test.YthefieemngmnjaaGreatDoorLibAA
import Derived.Deep.RegionHeld3
import Derived.BigQuiet
/- Headers in plain words: the pair, the attributes, the text that is parted so. No program in it. -/
namespace Go.Proofs.YthefieemngmnjaaGreatDoor
set_option linter.unusedVariables false

/-- A text's name and value. -/
def pairL (s : List UInt8) : List UInt8 × List UInt8 :=
  if s.findIdx (· == 61) = s.length then (trimL s, []) else (trimL (s.take (s.findIdx (· == 61))), trimL (s.drop (s.findIdx (· == 61) + 1)))

/-- A header, parted. -/
def parseH (s : List UInt8) : (List UInt8 × List UInt8) × List (List UInt8 × List UInt8) × Int :=
  if 4096 < s.length then (([], []), [], 3)
  else if s.any ctl = true then (([], []), [], 1)
  else if ((splitL s 59).getD 0 []).findIdx (· == 61) = ((splitL s 59).getD 0 []).length ∨ (pairL ((splitL s 59).getD 0 [])).1 = [] then (([], []), [], 1)
  else if 256 < (pairL ((splitL s 59).getD 0 [])).1.length ∨ 1024 < (pairL ((splitL s 59).getD 0 [])).2.length then (([], []), [], 3)
  else (pairL ((splitL s 59).getD 0 []), ((splitL s 59).drop 1).map pairL, 0)

/-- The parts of a text hold no sign that they are parted by. -/
theorem split_no (c : UInt8) : ∀ (n : Nat) (l : List UInt8), l.length ≤ n → ∀ x ∈ splitL l c, ∀ y ∈ x, (y == c) = false
  | n, l, hn => by
    by_cases h : c ∈ l
    · obtain ⟨x, r, rfl, hx⟩ := List.eq_append_cons_of_mem h
      have hx' : ∀ y ∈ x, (y == c) = false := fun y hy => beq_eq_false_iff_ne.2 fun e => hx (e ▸ hy)
      match n, hn with
      | n + 1, hn =>
        rw [split_cons x _ c hx']
        intro z hz
        rcases List.mem_cons.1 hz with rfl | hz
        · exact hx'
        · exact split_no c n r (by simp at hn; omega) z hz
      | 0, hn => simp at hn
    · have hx' : ∀ y ∈ l, (y == c) = false := fun y hy => beq_eq_false_iff_ne.2 fun e => h (e ▸ hy)
      rw [split_one l c hx']
      intro z hz
      rw [List.mem_singleton.1 hz]
      exact hx'

theorem part_len (l : List UInt8) (c : UInt8) (k : Nat) (hk : k < (splitL l c).length) : ((splitL l c).getD k []).length ≤ l.length := by
  have h : (splitL l c).getD k [] ∈ splitL l c := by
    simp only [List.getD, List.getElem?_eq_getElem hk, Option.getD_some]
    exact List.getElem_mem _
  have := mem_join_le c _ _ h
  rw [joinL_all] at this
  exact this

theorem split_mem {c : UInt8} {l x : List UInt8} (h : x ∈ splitL l c) {y : UInt8} (hy : y ∈ x) : y ∈ l := by
  have := joinL_all l c
  rw [← this]
  have key : ∀ (P : List (List UInt8)), x ∈ P → y ∈ joinL c P := by
    intro P
    induction P with
    | nil => intro h; cases h
    | cons q r ih =>
      intro h
      cases r with
      | nil =>
        rw [List.mem_singleton.1 h] at hy
        exact hy
      | cons z r =>
        show y ∈ q ++ c :: joinL c (z :: r)
        rcases List.mem_cons.1 h with rfl | h
        · exact List.mem_append_left _ hy
        · exact List.mem_append_right _ (List.mem_cons_of_mem _ (ih h))
  exact key _ h

theorem find_none {l : List UInt8} {c : UInt8} (h : ∀ y ∈ l, (y == c) = false) : l.findIdx (· == c) = l.length := by
  rw [List.findIdx_eq_length]
  exact h

/-- A pair that may be printed. -/
structure Fine (x : List UInt8 × List UInt8) : Prop where
  name : trimmed x.1
  value : trimmed x.2
  eq1 : ∀ y ∈ x.1, (y == 61) = false
  semi1 : ∀ y ∈ x.1, (y == 59) = false
  semi2 : ∀ y ∈ x.2, (y == 59) = false
  ctl1 : ∀ y ∈ x.1, ctl y = false
  ctl2 : ∀ y ∈ x.2, ctl y = false

theorem pair_fine {s : List UInt8} (h1 : ∀ y ∈ s, (y == 59) = false) (h2 : ∀ y ∈ s, ctl y = false) : Fine (pairL s) := by
  unfold pairL
  split
  · rename_i h
    have hn : ∀ y ∈ s, (y == 61) = false := by
      have := List.findIdx_eq_length.1 h
      exact this
    exact ⟨trim_trimmed _, .inl rfl, fun y hy => hn y (trim_mem hy), fun y hy => h1 y (trim_mem hy), fun y hy => absurd hy (by simp), fun y hy => h2 y (trim_mem hy), fun y hy => absurd hy (by simp)⟩
  · have hn : ∀ y ∈ s.take (s.findIdx (· == 61)), (y == 61) = false := fun y hy => by
      obtain ⟨i, hi, rfl⟩ := List.getElem_of_mem hy
      rw [List.length_take] at hi
      rw [List.getElem_take]
      have := List.not_of_lt_findIdx (p := (· == 61)) (xs := s) (i := i) (by omega)
      simpa using this
    exact ⟨trim_trimmed _, trim_trimmed _, fun y hy => hn y (trim_mem hy), fun y hy => h1 y (List.mem_of_mem_take (trim_mem hy)), fun y hy => h1 y (List.mem_of_mem_drop (trim_mem hy)), fun y hy => h2 y (List.mem_of_mem_take (trim_mem hy)), fun y hy => h2 y (List.mem_of_mem_drop (trim_mem hy))⟩

/-- What was parted may be printed. -/
theorem parse_fine {s : List UInt8} (h : (parseH s).2.2 = 0) : Fine (parseH s).1 ∧ (∀ x ∈ (parseH s).2.1, Fine x) ∧ (parseH s).1.1 ≠ [] ∧ (parseH s).1.1.length ≤ 256 ∧ (parseH s).1.2.length ≤ 1024 := by
  unfold parseH at h ⊢
  split at h
  · cases h
  · rename_i h1
    rw [if_neg h1]
    split at h
    · cases h
    · rename_i h2
      rw [if_neg h2]
      split at h
      · cases h
      · rename_i h3
        rw [if_neg h3]
        split at h
        · cases h
        · rename_i h4
          rw [if_neg h4]
          have hc : ∀ y ∈ s, ctl y = false := by simpa using h2
          have hf : ∀ x ∈ splitL s 59, Fine (pairL x) := fun x hx => pair_fine (split_no 59 s.length s (Nat.le_refl _) x hx) fun y hy => hc y (split_mem hx hy)
          refine ⟨hf _ ?_, fun x hx => ?_, fun e => h3 (.inr e), by dsimp only; omega, by dsimp only; omega⟩
          · have := splitL_pos s 59
            simp only [List.getD, List.getElem?_eq_getElem (show 0 < (splitL s 59).length by omega), Option.getD_some]
            exact List.getElem_mem _
          · obtain ⟨y, hy, rfl⟩ := List.mem_map.1 hx
            exact hf y (List.mem_of_mem_drop hy)

theorem parse_err (s : List UInt8) : ((parseH s).2.2 = 0 ∨ (parseH s).2.2 = 1 ∨ (parseH s).2.2 = 3) ∧ ((parseH s).2.2 ≠ 0 → (parseH s).1 = ([], []) ∧ (parseH s).2.1 = []) := by
  unfold parseH
  split
  · exact ⟨.inr (.inr rfl), fun _ => ⟨rfl, rfl⟩⟩
  · split
    · exact ⟨.inr (.inl rfl), fun _ => ⟨rfl, rfl⟩⟩
    · split
      · exact ⟨.inr (.inl rfl), fun _ => ⟨rfl, rfl⟩⟩
      · split
        · exact ⟨.inr (.inr rfl), fun _ => ⟨rfl, rfl⟩⟩
        · exact ⟨.inl rfl, fun h => absurd rfl h⟩
end Go.Proofs.YthefieemngmnjaaGreatDoor

/- Contracts of the reference of layer 12: a pair. -/
namespace Go.Proofs.YthefieemngmnjaaGreatDoor
open Go.RowKit
set_option linter.unusedVariables false

/-- The cells of a pair of texts. -/
def encP (x : List UInt8 × List UInt8) : List Value := [.string (str x.1), .string (str x.2)]
def valP (x : List UInt8 × List UInt8) : Value := .agg #[.string (str x.1), .string (str x.2)]
theorem encP_len (x : List UInt8 × List UInt8) : (encP x).length = 2 := rfl
theorem encP_one (x : List UInt8 × List UInt8) : ∀ u ∈ encP x, u.oneCell' = true := by
  intro u hu
  simp only [encP, List.mem_cons, List.not_mem_nil, or_false] at hu
  rcases hu with rfl | rfl <;> rfl

theorem pair_at {w : World} {a : Option Addr} {n c : Nat} {L : List (List UInt8 × List UInt8)} (h : RowOf encP 2 w a n c L) (k : Nat) (hk : k < n) :
    ∃ x1 x2 g off, L[k]? = some (x1, x2) ∧ a = some ⟨g, off, none⟩ ∧ w.cell? ⟨g, off + k * 2, none⟩ = some (.string (str x1)) ∧ w.cell? ⟨g, off + k * 2 + 1, none⟩ = some (.string (str x2)) := by
  obtain ⟨⟨x1, x2⟩, g, off, h1, h2, h3⟩ := h.at k hk
  exact ⟨x1, x2, g, off, h1, h2, h3 0 _ rfl, h3 1 _ rfl⟩

theorem refFindEqC (l : List UInt8) (n : Nat) (w : World) (hl : l.length = n) (hm : n ≤ maxLen) :
    Calls Tryz.prog 35 #[.string (str l), .int .u8 61] w fun e w' => e = .returned (.int .i64 (findL l 61)) ∧ w = w' := refFindC l 61 n w hl hm

set_option maxRecDepth 100000 in
theorem refPairC (s : List UInt8) (n : Nat) (w : World) (hs : s.length = n) (hm : n ≤ 100000) :
    Calls Tryz.prog 60 #[.string (str s)] w fun e w' => e = .returned (valP (pairL s)) ∧ Below w.heap.size w w' := by
  have HF := fun w => refFindEqC s n w hs (by unfold maxLen; omega)
  have hb := Below.refl w.heap.size w
  have o0 := ObjAt.new w #[.string ⟨#[]⟩, .string ⟨#[]⟩] 60
  have hb1 := below_alloc w (.cells #[.string ⟨#[]⟩, .string ⟨#[]⟩] 60)
  have hle : s.findIdx (· == 61) ≤ n := by rw [← hs]; exact List.findIdx_le_length
  unfold findL at HF
  unfold pairL valP
  rw [hs] at HF ⊢
  by_cases h1 : s.findIdx (· == 61) = n
  · rw [if_pos h1] at HF ⊢
    have HT := fun w => refTrimC s n w hs (by unfold maxLen; omega)
    generalize trimL s = t at *
    have k5 : (-1 : Int) < 0 := by decide
    have o1 := ObjAt.new w #[.string (str t), .string ⟨#[]⟩] 60
    have r0 := o1.cell 0 rfl
    have r1 := o1.cell 1 rfl
    clear hle h1 o0 hb1 hm hs
    go_enter Tryz.func60, Tryz.ntmps60
    go_wp2_with (first
      | (go_at_call 35; (with_reducible refine (HF _).mono ?_); rintro e w1 ⟨rfl, rfl⟩)
      | (go_at_call 68; (with_reducible refine (HT _).mono ?_); rintro e w1 ⟨rfl, rfl⟩))
    exact bodyPost_ret (v := .agg #[.string (str t), .string ⟨#[]⟩]) (by simp [results, Tryz.results60, go_sem, r0, r1]) rfl ⟨rfl, hb.alloc (Nat.le_refl _) _⟩
  · rw [if_neg h1] at HF ⊢
    generalize s.findIdx (· == 61) = i at *
    have hx1 : (str s).extract 0 i = str (s.take i) := by rw [str_extract]; simp
    have hx2 : (str s).extract (i + 1) n = str (s.drop (i + 1)) := by rw [str_extract, List.take_of_length_le (by rw [List.length_drop, hs]; omega)]
    have hsz : (str s).size = n := by rw [str_size, hs]
    have HT1 := fun w => refTrimC (s.take i) i w (by rw [List.length_take]; omega) (by unfold maxLen; omega)
    have HT2 := fun w => refTrimC (s.drop (i + 1)) (n - (i + 1)) w (by rw [List.length_drop, hs]) (by unfold maxLen; omega)
    generalize s.take i = a at *
    generalize s.drop (i + 1) = b at *
    generalize trimL a = ta at *
    generalize trimL b = tb at *
    have k1 : (i : Int) ≤ (n : Int) := by omega
    have k2 : (i : Int) + 1 ≤ (n : Int) := by omega
    have k3 : (0 : Int) ≤ (i : Int) := by omega
    have k4 : (0 : Int) ≤ (i : Int) + 1 := by omega
    have k5 : ¬ (i : Int) < 0 := by omega
    obtain ⟨J, hJ⟩ : ∃ J, i + 1 = J := ⟨_, rfl⟩
    rw [hJ] at hx2
    have hwr : IntKind.i64.wrap ((i : Int) + 1) = (J : Int) := by rw [IntKind.wrap_i64]; omega
    have k6 : (J : Int) ≤ (n : Int) := by omega
    clear hs hm hle h1 hJ k2 k4
    go_enter Tryz.func60, Tryz.ntmps60
    go_wp2_with (go_at_call 35; (with_reducible refine (HF _).mono ?_); rintro e w1 ⟨rfl, rfl⟩)
    go_region_law (first
      | (go_simp; go_at_call 68; (with_reducible refine (HT1 _).mono ?_); rintro e w1 ⟨rfl, rfl⟩)
      | (go_simp; go_at_call 68; (with_reducible refine (HT2 _).mono ?_); rintro e w1 ⟨rfl, rfl⟩))
    all_goals
      have o1 := (ObjAt.new w #[.string (str ta), .string (str tb)] 60).drew
      have r0 := o1.cell 0 rfl
      have r1 := o1.cell 1 rfl
      go_wp2
      exact bodyPost_ret (v := .agg #[.string (str ta), .string (str tb)]) (by simp [results, Tryz.results60, go_sem, r0, r1]) rfl ⟨rfl, (hb.alloc (Nat.le_refl _) _).drew⟩
end Go.Proofs.YthefieemngmnjaaGreatDoor

/- Contracts of the reference of layer 12: a header, parted. -/
namespace Go.Proofs.YthefieemngmnjaaGreatDoor
open Go.RowKit
set_option linter.unusedVariables false

theorem infoRefPair : (Tryz.prog.info? 60).map (fun i => (i.zero, i.size, i.bytes)) = some (some (.agg #[.string ⟨#[]⟩, .string ⟨#[]⟩]), 2, 32) := by kernel_rfl

/-- What a header's parse gives: the pair, the attributes, the error. -/
def HParseIs (s : List UInt8) (w : World) (e : Ending) (w' : World) : Prop :=
  (∃ a n c, e = .returned (.tuple #[valP (parseH s).1, .slice a n c, .int .i64 (parseH s).2.2]) ∧ RowOf encP 2 w' a n c (parseH s).2.1) ∧ Below w.heap.size w w'

theorem RowOf.none {α : Type} (enc : α → List Value) (z : Nat) (w : World) : RowOf enc z w .none 0 0 ([] : List α) :=
  ⟨rfl, Nat.le_refl _, by unfold maxLen; omega, fun _ => rfl, fun i x h => by simp at h⟩

theorem refSplitSemiC (l : List UInt8) (n : Nat) (w : World) (hl : l.length = n) (hm : n ≤ 1000000000000) : Calls Tryz.prog 59 #[.string (str l), .int .u8 59] w (GivesStrs (splitL l 59) w) := refSplitC l 59 n w hl hm

theorem cell_strs {w : World} {g : Nat} {P : List (List UInt8)} (h : Reads w (some ⟨g, 0, none⟩) (strs P)) (k : Nat) (hk : k < P.length) : w.cell? ⟨g, k, none⟩ = some (.string (str (P.getD k []))) := by
  obtain ⟨b, off, e, hc⟩ := h k (.string (str (P.getD k []))) (by unfold strs; rw [List.getElem?_map, List.getElem?_eq_getElem hk]; simp [List.getD, hk])
  cases e
  rw [Nat.zero_add] at hc
  exact hc

set_option maxHeartbeats 2000000 in
set_option maxRecDepth 100000 in
theorem refHParseC (s : List UInt8) (n : Nat) (w : World) (hs : s.length = n) (hm : n ≤ 100000) :
    Calls Tryz.prog 27 #[.string (str s)] w (HParseIs s w) := by
  have hb := Below.refl w.heap.size w
  have o0 := ObjAt.new w #[.string ⟨#[]⟩, .string ⟨#[]⟩] 60
  have hb1 := below_alloc w (.cells #[.string ⟨#[]⟩, .string ⟨#[]⟩] 60)
  have hsz : (str s).size = n := by rw [str_size, hs]
  unfold HParseIs parseH valP
  rw [hs]
  by_cases h1 : 4096 < n
  · rw [if_pos h1]
    have h1' : (4096 : Int) < (n : Int) := by omega
    clear hs hm h1
    go_enter Tryz.func27, Tryz.ntmps27
    go_wp2
    have r0 := o0.cell 0 rfl
    have r1 := o0.cell 1 rfl
    exact bodyPost_ret (v := .tuple #[.agg #[.string ⟨#[]⟩, .string ⟨#[]⟩], .slice none 0 0, .int .i64 3]) (by simp [results, Tryz.results27, go_sem, r0, r1]) rfl ⟨⟨none, 0, 0, rfl, RowOf.none _ _ _⟩, hb1⟩
  rw [if_neg h1]
  have h1' : ¬ (4096 : Int) < (n : Int) := by omega
  have HC := fun w => refControlC s n w hs (by unfold maxLen; omega)
  by_cases h2 : s.any ctl = true
  · rw [if_pos h2]
    rw [h2] at HC
    clear hs hm h1 h2
    go_enter Tryz.func27, Tryz.ntmps27
    go_wp2_with (go_at_call 58; (with_reducible refine (HC _).mono ?_); rintro e w1 ⟨rfl, rfl⟩)
    have r0 := o0.cell 0 rfl
    have r1 := o0.cell 1 rfl
    exact bodyPost_ret (v := .tuple #[.agg #[.string ⟨#[]⟩, .string ⟨#[]⟩], .slice none 0 0, .int .i64 1]) (by simp [results, Tryz.results27, go_sem, r0, r1]) rfl ⟨⟨none, 0, 0, rfl, RowOf.none _ _ _⟩, hb1⟩
  rw [if_neg h2]
  rw [Bool.eq_false_iff.2 h2] at HC
  have HS := fun w => refSplitSemiC s n w hs (by omega)
  obtain ⟨K, hK⟩ : ∃ K, (splitL s 59).length = K := ⟨_, rfl⟩
  have hK1 := splitL_pos s 59
  have hK2 := splitL_le s 59
  rw [hK] at hK1
  rw [hK, hs] at hK2
  have hparts : ∀ k, k < K → ((splitL s 59).getD k []).length ≤ n := fun k hk => by rw [← hs]; exact part_len s 59 k (by rw [hK]; exact hk)
  unfold GivesStrs at HS
  rw [hK] at HS
  generalize splitL s 59 = parts at *
  obtain ⟨x0, hx0⟩ : ∃ x0, parts.getD 0 [] = x0 := ⟨_, rfl⟩
  have hx0l := hparts 0 (by omega)
  rw [hx0] at hx0l ⊢
  have HP0 := fun w => refPairC x0 x0.length w rfl (by omega)
  have HF0 := fun w => refFindEqC x0 x0.length w rfl (by unfold maxLen; omega)
  unfold valP at HP0
  have hf1 : (x0.findIdx (· == 61) = x0.length ∧ findL x0 61 = -1) ∨ (x0.findIdx (· == 61) ≠ x0.length ∧ 0 ≤ findL x0 61) := by
    unfold findL
    by_cases h : x0.findIdx (· == 61) = x0.length
    · exact .inl ⟨h, by rw [if_pos h]⟩
    · exact .inr ⟨h, by rw [if_neg h]; omega⟩
  generalize pairL x0 = p at *
  obtain ⟨p1, p2⟩ := p
  dsimp only at *
  have hk := str_toList
  have hnil : str [] = ⟨#[]⟩ := rfl
  rcases hf1 with ⟨hf1, hf2⟩ | ⟨hf1, hf2⟩
  · rw [if_pos (.inl hf1)]
    rw [hf2] at HF0
    have k0 : (-1 : Int) < 0 := by decide
    clear hf1 hf2 hs h1 h2 hparts hx0l
    go_enter Tryz.func27, Tryz.ntmps27
    go_wp2_with (first
      | (go_at_call 58; (with_reducible refine (HC _).mono ?_); rintro e w1 ⟨rfl, rfl⟩)
      | (go_at_call 59; (with_reducible refine (HS _).mono ?_); rintro e w2 ⟨a, c, rfl, ho, hx⟩; obtain ⟨g, rfl, -, hg⟩ := ho.head hK1; have c0 := cell_strs ho.reads 0 (by omega); rw [hx0] at c0; have o0 := o0.below hx o0.lt; have hb2 := hb1.trans (hx.mono hb1.size); clear hx)
      | (go_at_call 60; (with_reducible refine (HP0 _).mono ?_); rintro e w3 ⟨rfl, hx⟩; have hr := ho.reads.below' hx; have hr2 := hr.below' (below_alloc w3 (.cells #[.string (str p1), .string (str p2)] 60)); have hg3 := Nat.lt_of_lt_of_le hg hx.size; have o0 := o0.below hx o0.lt; have o0 := o0.below (below_alloc w3 (.cells #[.string (str p1), .string (str p2)] 60)) o0.lt; have hb3 := hb2.trans (hx.mono hb2.size); have hb4 := hb3.alloc hb3.size (.cells #[.string (str p1), .string (str p2)] 60); have o6 := ObjAt.new w3 #[.string (str p1), .string (str p2)] 60; generalize hv : w3.alloc (.cells #[.string (str p1), .string (str p2)] 60) = v at *; have c1 := cell_strs hr2 0 (by omega); rw [hx0] at c1; have d0 := o6.cell 0 rfl; have d1 := o6.cell 1 rfl; have r0 := o0.cell 0 rfl; have r1 := o0.cell 1 rfl; have f0 := o0.free 0; have f1 := o0.free 1; clear hx)
      | (go_at_call 35; (with_reducible refine (HF0 _).mono ?_); rintro e w5 ⟨rfl, rfl⟩))
    have o8 := (o0.set 0 (.string ⟨#[]⟩)).set 1 (.string ⟨#[]⟩)
    have q0 := o8.cell 0 rfl
    have q1 := o8.cell 1 rfl
    exact bodyPost_ret (v := .tuple #[.agg #[.string ⟨#[]⟩, .string ⟨#[]⟩], .slice none 0 0, .int .i64 1]) (by simp [results, Tryz.results27, go_sem, q0, q1]) rfl ⟨⟨none, 0, 0, rfl, RowOf.none _ _ _⟩, (hb4.setCell (p := ⟨w.heap.size, 0, none⟩) (Nat.le_refl _) _).setCell (p := ⟨w.heap.size, 1, none⟩) (Nat.le_refl _) _⟩
  · have k0 : ¬ findL x0 61 < 0 := by omega
    generalize findL x0 61 = F at *
    by_cases h3 : p1 = []
    · rw [if_pos (.inr h3)]
      subst h3
      rw [hnil] at HP0
      clear hf1 hs h1 h2 hparts hx0l
      go_enter Tryz.func27, Tryz.ntmps27
      go_wp2_with (first
        | (go_at_call 58; (with_reducible refine (HC _).mono ?_); rintro e w1 ⟨rfl, rfl⟩)
        | (go_at_call 59; (with_reducible refine (HS _).mono ?_); rintro e w2 ⟨a, c, rfl, ho, hx⟩; obtain ⟨g, rfl, -, hg⟩ := ho.head hK1; have c0 := cell_strs ho.reads 0 (by omega); rw [hx0] at c0; have o0 := o0.below hx o0.lt; have hb2 := hb1.trans (hx.mono hb1.size); clear hx)
        | (go_at_call 60; (with_reducible refine (HP0 _).mono ?_); rintro e w3 ⟨rfl, hx⟩; have hr := ho.reads.below' hx; have hr2 := hr.below' (below_alloc w3 (.cells #[.string ⟨#[]⟩, .string (str p2)] 60)); have hg3 := Nat.lt_of_lt_of_le hg hx.size; have o0 := o0.below hx o0.lt; have o0 := o0.below (below_alloc w3 (.cells #[.string ⟨#[]⟩, .string (str p2)] 60)) o0.lt; have hb3 := hb2.trans (hx.mono hb2.size); have hb4 := hb3.alloc hb3.size (.cells #[.string ⟨#[]⟩, .string (str p2)] 60); have o6 := ObjAt.new w3 #[.string ⟨#[]⟩, .string (str p2)] 60; generalize hv : w3.alloc (.cells #[.string ⟨#[]⟩, .string (str p2)] 60) = v at *; have c1 := cell_strs hr2 0 (by omega); rw [hx0] at c1; have d0 := o6.cell 0 rfl; have d1 := o6.cell 1 rfl; have r0 := o0.cell 0 rfl; have r1 := o0.cell 1 rfl; have f0 := o0.free 0; have f1 := o0.free 1; clear hx)
        | (go_at_call 35; (with_reducible refine (HF0 _).mono ?_); rintro e w5 ⟨rfl, rfl⟩))
      have o8 := (o0.set 0 (.string ⟨#[]⟩)).set 1 (.string ⟨#[]⟩)
      have q0 := o8.cell 0 rfl
      have q1 := o8.cell 1 rfl
      exact bodyPost_ret (v := .tuple #[.agg #[.string ⟨#[]⟩, .string ⟨#[]⟩], .slice none 0 0, .int .i64 1]) (by simp [results, Tryz.results27, go_sem, q0, q1]) rfl ⟨⟨none, 0, 0, rfl, RowOf.none _ _ _⟩, (hb4.setCell (p := ⟨w.heap.size, 0, none⟩) (Nat.le_refl _) _).setCell (p := ⟨w.heap.size, 1, none⟩) (Nat.le_refl _) _⟩
    · rw [if_neg (fun h => h.elim hf1 h3)]
      have e3 : (p1 == []) = false := beq_eq_false_iff_ne.2 h3
      obtain ⟨m1, hm1⟩ : ∃ m, p1.length = m := ⟨_, rfl⟩
      obtain ⟨m2, hm2⟩ : ∃ m, p2.length = m := ⟨_, rfl⟩
      have z1 : (str p1).size = m1 := by rw [str_size, hm1]
      have z2 : (str p2).size = m2 := by rw [str_size, hm2]
      rw [hm1, hm2]
      by_cases h4 : 256 < m1
      · rw [if_pos (.inl h4)]
        have k4 : (256 : Int) < (m1 : Int) := by omega
        clear hf1 hs h1 h2 hparts hx0l hm1 hm2
        go_enter Tryz.func27, Tryz.ntmps27
        go_wp2_with (first
          | (go_at_call 58; (with_reducible refine (HC _).mono ?_); rintro e w1 ⟨rfl, rfl⟩)
          | (go_at_call 59; (with_reducible refine (HS _).mono ?_); rintro e w2 ⟨a, c, rfl, ho, hx⟩; obtain ⟨g, rfl, -, hg⟩ := ho.head hK1; have c0 := cell_strs ho.reads 0 (by omega); rw [hx0] at c0; have o0 := o0.below hx o0.lt; have hb2 := hb1.trans (hx.mono hb1.size); clear hx)
          | (go_at_call 60; (with_reducible refine (HP0 _).mono ?_); rintro e w3 ⟨rfl, hx⟩; have hr := ho.reads.below' hx; have hr2 := hr.below' (below_alloc w3 (.cells #[.string (str p1), .string (str p2)] 60)); have hg3 := Nat.lt_of_lt_of_le hg hx.size; have o0 := o0.below hx o0.lt; have o0 := o0.below (below_alloc w3 (.cells #[.string (str p1), .string (str p2)] 60)) o0.lt; have hb3 := hb2.trans (hx.mono hb2.size); have hb4 := hb3.alloc hb3.size (.cells #[.string (str p1), .string (str p2)] 60); have o6 := ObjAt.new w3 #[.string (str p1), .string (str p2)] 60; generalize hv : w3.alloc (.cells #[.string (str p1), .string (str p2)] 60) = v at *; have c1 := cell_strs hr2 0 (by omega); rw [hx0] at c1; have d0 := o6.cell 0 rfl; have d1 := o6.cell 1 rfl; have r0 := o0.cell 0 rfl; have r1 := o0.cell 1 rfl; have f0 := o0.free 0; have f1 := o0.free 1; clear hx)
          | (go_at_call 35; (with_reducible refine (HF0 _).mono ?_); rintro e w5 ⟨rfl, rfl⟩))
        have o8 := (o0.set 0 (.string ⟨#[]⟩)).set 1 (.string ⟨#[]⟩)
        have q0 := o8.cell 0 rfl
        have q1 := o8.cell 1 rfl
        exact bodyPost_ret (v := .tuple #[.agg #[.string ⟨#[]⟩, .string ⟨#[]⟩], .slice none 0 0, .int .i64 3]) (by simp [results, Tryz.results27, go_sem, q0, q1]) rfl ⟨⟨none, 0, 0, rfl, RowOf.none _ _ _⟩, (hb4.setCell (p := ⟨w.heap.size, 0, none⟩) (Nat.le_refl _) _).setCell (p := ⟨w.heap.size, 1, none⟩) (Nat.le_refl _) _⟩
      · have k4 : ¬ (256 : Int) < (m1 : Int) := by omega
        by_cases h5 : 1024 < m2
        · rw [if_pos (.inr h5)]
          have k5 : (1024 : Int) < (m2 : Int) := by omega
          clear hf1 hs h1 h2 hparts hx0l hm1 hm2
          go_enter Tryz.func27, Tryz.ntmps27
          go_wp2_with (first
            | (go_at_call 58; (with_reducible refine (HC _).mono ?_); rintro e w1 ⟨rfl, rfl⟩)
            | (go_at_call 59; (with_reducible refine (HS _).mono ?_); rintro e w2 ⟨a, c, rfl, ho, hx⟩; obtain ⟨g, rfl, -, hg⟩ := ho.head hK1; have c0 := cell_strs ho.reads 0 (by omega); rw [hx0] at c0; have o0 := o0.below hx o0.lt; have hb2 := hb1.trans (hx.mono hb1.size); clear hx)
            | (go_at_call 60; (with_reducible refine (HP0 _).mono ?_); rintro e w3 ⟨rfl, hx⟩; have hr := ho.reads.below' hx; have hr2 := hr.below' (below_alloc w3 (.cells #[.string (str p1), .string (str p2)] 60)); have hg3 := Nat.lt_of_lt_of_le hg hx.size; have o0 := o0.below hx o0.lt; have o0 := o0.below (below_alloc w3 (.cells #[.string (str p1), .string (str p2)] 60)) o0.lt; have hb3 := hb2.trans (hx.mono hb2.size); have hb4 := hb3.alloc hb3.size (.cells #[.string (str p1), .string (str p2)] 60); have o6 := ObjAt.new w3 #[.string (str p1), .string (str p2)] 60; generalize hv : w3.alloc (.cells #[.string (str p1), .string (str p2)] 60) = v at *; have c1 := cell_strs hr2 0 (by omega); rw [hx0] at c1; have d0 := o6.cell 0 rfl; have d1 := o6.cell 1 rfl; have r0 := o0.cell 0 rfl; have r1 := o0.cell 1 rfl; have f0 := o0.free 0; have f1 := o0.free 1; clear hx)
            | (go_at_call 35; (with_reducible refine (HF0 _).mono ?_); rintro e w5 ⟨rfl, rfl⟩))
          have o8 := (o0.set 0 (.string ⟨#[]⟩)).set 1 (.string ⟨#[]⟩)
          have q0 := o8.cell 0 rfl
          have q1 := o8.cell 1 rfl
          exact bodyPost_ret (v := .tuple #[.agg #[.string ⟨#[]⟩, .string ⟨#[]⟩], .slice none 0 0, .int .i64 3]) (by simp [results, Tryz.results27, go_sem, q0, q1]) rfl ⟨⟨none, 0, 0, rfl, RowOf.none _ _ _⟩, (hb4.setCell (p := ⟨w.heap.size, 0, none⟩) (Nat.le_refl _) _).setCell (p := ⟨w.heap.size, 1, none⟩) (Nat.le_refl _) _⟩
        · rw [if_neg (fun h => h.elim h4 h5)]
          have k5 : ¬ (1024 : Int) < (m2 : Int) := by omega
          have hKl : Hid (parts.length = K) := hK
          obtain ⟨i0, hi, hz0, hz1, hz2⟩ := info_parts infoRefPair
          clear hf1 hs h1 h2 hx0l hm1 hm2
          go_enter Tryz.func27, Tryz.ntmps27
          go_wp2_with (first
            | (go_at_call 58; (with_reducible refine (HC _).mono ?_); rintro e w1 ⟨rfl, rfl⟩)
            | (go_at_call 59; (with_reducible refine (HS _).mono ?_); rintro e w2 ⟨a, c, rfl, ho, hx⟩; obtain ⟨g, rfl, -, hg⟩ := ho.head hK1; have c0 := cell_strs ho.reads 0 (by omega); rw [hx0] at c0; have o0 := o0.below hx o0.lt; have hb2 := hb1.trans (hx.mono hb1.size); clear hx)
            | (go_at_call 60; (with_reducible refine (HP0 _).mono ?_); rintro e w3 ⟨rfl, hx⟩; have hr := ho.reads.below' hx; have hr2 := hr.below' (below_alloc w3 (.cells #[.string (str p1), .string (str p2)] 60)); have hg3 := Nat.lt_of_lt_of_le hg hx.size; have o0 := o0.below hx o0.lt; have o0 := o0.below (below_alloc w3 (.cells #[.string (str p1), .string (str p2)] 60)) o0.lt; have hb3 := hb2.trans (hx.mono hb2.size); have hb4 := hb3.alloc hb3.size (.cells #[.string (str p1), .string (str p2)] 60); have o6 := ObjAt.new w3 #[.string (str p1), .string (str p2)] 60; generalize hv : w3.alloc (.cells #[.string (str p1), .string (str p2)] 60) = v at *; have c1 := cell_strs hr2 0 (by omega); rw [hx0] at c1; have d0 := o6.cell 0 rfl; have d1 := o6.cell 1 rfl; have r0 := o0.cell 0 rfl; have r1 := o0.cell 1 rfl; have f0 := o0.free 0; have f1 := o0.free 1; clear hx)
            | (go_at_call 35; (with_reducible refine (HF0 _).mono ?_); rintro e w5 ⟨rfl, rfl⟩))
          have hown0 := OwnZ.lit encP 2 60 v
          have hbel0 := below_alloc v (.cells #[] 60)
          go_loopw [7, 8] (fun l i wr => ∃ (k N : Nat) (a : Option Addr) (C : Nat), 1 ≤ k ∧ k ≤ K ∧ N + 1 = k ∧ l = .slice a N C ∧ i = .int .i64 (k : Int) ∧ OwnZ encP 2 v.heap.size 60 a N C (((parts.drop 1).take (k - 1)).map pairL) wr ∧ Below v.heap.size v wr) (fun _ i _ => K - (intOf i).toNat)
          case atStart => exact ⟨1, 0, _, _, Nat.le_refl _, hK1, rfl, rfl, rfl, hown0, hbel0⟩
          case round =>
            clear hown0 hbel0 c1 d0 d1 r0 r1 f0 f1 c0
            obtain ⟨k, N, a, C, hk1, hk, hN, rfl, rfl, hO, hB⟩ := hrel
            have hbs := hB.size
            by_cases hlt : k < K
            · have hlt' : (k : Int) < (K : Int) := by omega
              have hkl : k < parts.length := by rw [hKl.out]; exact hlt
              have hxk := hparts k hlt
              have ck := cell_strs (hr2.below hB (fun x e => by cases e; exact Nat.lt_of_lt_of_le hg3 (by rw [← hv]; simp))) k hkl
              have hsn : Hid (((parts.drop 1).take k).map pairL = ((parts.drop 1).take (k - 1)).map pairL ++ [pairL (parts.getD k [])]) := by
                obtain ⟨j, rfl⟩ : ∃ j, k = j + 1 := ⟨k - 1, by omega⟩
                unfold Hid
                rw [Nat.add_sub_cancel, List.take_succ_eq_append_getElem (by rw [List.length_drop]; omega), List.map_append]
                have e : (parts.drop 1)[j]'(by rw [List.length_drop]; omega) = parts.getD (j + 1) [] := by
                  rw [List.getElem_drop]
                  simp [List.getD, hkl, Nat.add_comm 1 j]
                rw [e]
                rfl
              have HPk := fun w => refPairC (parts.getD k []) (parts.getD k []).length w rfl (by omega)
              unfold valP at HPk
              generalize parts.getD k [] = x at *
              generalize pairL x = q at *
              obtain ⟨q1, q2⟩ := q
              dsimp only at *
              go_wp2_with (first
                | (go_at_call 60; (with_reducible refine (HPk _).mono ?_); rintro e w6 ⟨rfl, hx⟩; have hO := hO.below hx (Nat.le_refl _); have hB6 := hB.trans (hx.mono hB.size); clear hx)
                | (at_builtin; refine wpList_append_row1 encP_len (by decide) encP_one rfl (.tmp 51) (.tmp 57) 61 rfl 60 i0 (.agg #[.string ⟨#[]⟩, .string ⟨#[]⟩]) 32 Tryz.underlying61 hi hz0 hz1 hz2 rfl hO rfl (q1, q2) rfl rfl (N + 1) rfl (by unfold maxLen; omega) (by omega) hB6.size ?_; intro a2 c2 w7 hO7 hb7 hg7 ha7))
              go_roundw
              case rel => exact ⟨k + 1, N + 1, a2, c2, by omega, by omega, by omega, by rw [hN], by go_num, by rw [Nat.add_sub_cancel, hsn.out]; exact hO7, hB6.trans hb7⟩
              case measure => simp [intOf]; omega
            · obtain rfl : k = K := by omega
              have hall : Hid (((parts.drop 1).take (k - 1)).map pairL = (parts.drop 1).map pairL) := by
                unfold Hid
                rw [List.take_of_length_le (by rw [List.length_drop, hKl.out]; exact Nat.le_refl _)]
              have u0 := o0.below hB o0.lt
              have u6 := o6.below hB o6.lt
              have d0 := u6.cell 0 rfl
              have d1 := u6.cell 1 rfl
              have r0 := u0.cell 0 rfl
              have r1 := u0.cell 1 rfl
              have f0 := u0.free 0
              have f1 := u0.free 1
              have hap : Apart a w.heap.size := fun x e => by
                rcases hO.head with ⟨h, -⟩ | ⟨g', h, hge, -⟩
                · rw [h] at e; cases e
                · rw [h] at e; cases e
                  have := o0.lt
                  show g' ≠ w.heap.size
                  omega
              have hO2 := ((hO.setCell (p := ⟨w.heap.size, 0, none⟩) hap (.string (str p1))).setCell (p := ⟨w.heap.size, 1, none⟩) hap (.string (str p2))).row encP_len
              rw [hall.out] at hO2
              go_wp2
              have o8 := (u0.set 0 (.string (str p1))).set 1 (.string (str p2))
              have q0 := o8.cell 0 rfl
              have q1 := o8.cell 1 rfl
              exact bodyPost_ret (v := .tuple #[.agg #[.string (str p1), .string (str p2)], .slice a N C, .int .i64 0]) (by simp [results, Tryz.results27, go_sem, q0, q1]) rfl ⟨⟨a, N, C, rfl, hO2⟩, ((hb4.trans (hB.mono hb4.size)).setCell (p := ⟨w.heap.size, 0, none⟩) (Nat.le_refl _) _).setCell (p := ⟨w.heap.size, 1, none⟩) (Nat.le_refl _) _⟩
end Go.Proofs.YthefieemngmnjaaGreatDoor

/- Contracts of the reference of layer 12: the last of a name, the text, are attributes the same. -/
namespace Go.Proofs.YthefieemngmnjaaGreatDoor
open Go.RowKit
set_option linter.unusedVariables false

end Go.Proofs.YthefieemngmnjaaGreatDoor

/- How pairs of texts as arguments are opened. -/
namespace Go.Proofs.YthefieemngmnjaaGreatDoor
open Go.ChangeShapes Go.WideShapes Go.ChangeAt Go.RowKit
set_option linter.unusedVariables false

end Go.Proofs.YthefieemngmnjaaGreatDoor
