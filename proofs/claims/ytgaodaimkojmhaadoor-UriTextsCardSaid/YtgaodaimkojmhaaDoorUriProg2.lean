/- Contracts of layer 10: addresses. -/
import Derived.Test.YtgaodaimkojmhaaDoorUriProg
import Derived.Deep.RegionHeld3
import Derived.Deep.RegionLaw
namespace Go.Proofs.YtgaodaimkojmhaaDoor
open Go.RowKit
set_option linter.unusedVariables false

theorem butC2 (s : List UInt8) (w : World) :
    Calls Tryd.prog 14 #[.string (str s)] w fun e w' => ∃ b, e = .returned (.func (.func 31) #[] #[.pointer (some ⟨b, 0, none⟩)]) ∧ w'.cell? ⟨b, 0, none⟩ = some (.string (str s)) ∧ Below w.heap.size w w' := by
  refine (butC s w).mono ?_
  rintro e w' ⟨rfl, rfl⟩
  exact ⟨_, rfl, by simp, below_alloc w _⟩

/-- What Canon answers of a host's text. -/
theorem canon_host_of (r : List UInt8) : ∃ (X : List UInt8) (E : Int),
    (if 256 < (nameCut (headU r)).1.length then (Value.tuple #[.string (str []), .int .i64 3]) else if canonB ((nameCut (headU r)).1.map low) = true then .tuple #[.string (str ((nameCut (headU r)).1.map low)), .int .i64 0] else .tuple #[.string (str []), .int .i64 1]) = .tuple #[.string (str X), .int .i64 E] ∧
    ((E = 0 ∧ canonB (hostU r) = true ∧ X = hostU r ∧ (nameCut (headU r)).2 = portU r) ∨ ((E == 0) = false ∧ canonB (hostU r) = false)) := by
  have hN := nameN_le (headU r)
  have e : (headU r).take (nameN (headU r)) = r.take (nameN (headU r)) := by
    have h2 : (headU r).length ≤ findS r [47, 63, 35] := by unfold headU; rw [List.length_take]; omega
    conv => lhs; arg 2; unfold headU
    rw [List.take_take, Nat.min_eq_left (by omega)]
  rcases name_cut (headU r) with h | ⟨h, hc⟩
  · rw [h]
    dsimp only
    rw [e]
    have hh : (r.take (nameN (headU r))).map low = hostU r := rfl
    rw [hh]
    by_cases c1 : 256 < (r.take (nameN (headU r))).length
    · rw [if_pos c1]
      refine ⟨_, _, rfl, .inr ⟨rfl, ?_⟩⟩
      cases hc : canonB (hostU r) with
      | false => rfl
      | true =>
        have := canon_len hc
        rw [← hh, List.length_map] at this
        omega
    · rw [if_neg c1]
      cases hc : canonB (hostU r) with
      | false => exact ⟨_, _, if_neg Bool.false_ne_true, .inr ⟨rfl, rfl⟩⟩
      | true => exact ⟨_, _, if_pos rfl, .inl ⟨rfl, rfl, rfl, rfl⟩⟩
  · rw [h]
    rw [e] at hc
    dsimp only
    refine ⟨[], 1, ?_, .inr ⟨rfl, hc⟩⟩
    rw [if_neg (by decide), if_neg (by rw [List.map_nil, canon_nil]; exact Bool.false_ne_true)]

set_option maxHeartbeats 2000000 in
set_option maxRecDepth 100000 in
theorem uriParseC (l : List UInt8) (n : Nat) (w : World) (hl : l.length = n) (hm : n ≤ 5000) (hT : PTab Tryd.prog w) :
    Calls Tryd.prog 7 #[.string (str l)] w fun e w' => e = .returned (.tuple #[reqV (parseU l).1, .int .i64 (parseU l).2]) ∧ Below w.heap.size w w' := by
  have hsz : (str l).size = n := by rw [str_size, hl]
  have hb := below_alloc w (.cells #[.string (str []), .string (str []), .bool false, .bool false] 24)
  have hR0 := ReqAt.new w
  have HW := fun w (h : PTab Tryd.prog w) => wordCutC l n w hl (by omega) h
  have HBt := fun w => butC2 [] w
  have HAl := fun b w hc => allBC [] l n b w hc hl (by unfold maxLen; omega)
  simp only [but_none] at HAl
  have e00 : ({ data := #[] } : ByteArray) = str [] := rfl
  have hk := str_toList
  unfold parseU
  rw [hl]
  by_cases h1 : 1024 < n
  · have h1' : (1024 : Int) < (n : Int) := by omega
    rw [if_pos h1]
    clear HW HBt HAl hl hR0
    go_enter Tryd.func7, Tryd.ntmps7
    go_wp2
    exact bodyPost_ret (v := .tuple #[.agg #[.string (str []), .string (str []), .bool false, .bool false], .int .i64 3]) (by simp [results, Tryd.results7, go_sem]) rfl ⟨rfl, hb⟩
  have h1' : ¬ (1024 : Int) < (n : Int) := by omega
  rw [if_neg h1]
  unfold wordCut at HW
  cases hw : hasWord l with
  | false =>
    rw [if_pos (.inr rfl)]
    simp only [hw, Bool.false_eq_true, if_false] at HW
    clear hl
    generalize hWe : w.alloc (.cells #[.string (str []), .string (str []), .bool false, .bool false] 24) = W at *
    go_enter Tryd.func7, Tryd.ntmps7
    go_wp2_with (first
      | (go_at_call 12; (with_reducible refine (HW _ (hT.below hb)).mono ?_); rintro e w1 ⟨rfl, hx⟩; have hR0 := hR0.below hx hR0.lt; have hb := hb.trans (hx.mono hb.size); clear hx; obtain ⟨r0, f0⟩ := rows_at hR0 0 (by decide); obtain ⟨r1, f1⟩ := rows_at hR0 1 (by decide); obtain ⟨r2, f2⟩ := rows_at hR0 2 (by decide); obtain ⟨r3, f3⟩ := rows_at hR0 3 (by decide)))
    obtain ⟨g0, g1, g2, g3⟩ := hR0.set (.string (str [])) (.string (str [])) (.bool false) (.bool false)
    exact bodyPost_ret (v := .tuple #[.agg #[.string (str []), .string (str []), .bool false, .bool false], .int .i64 1]) (by simp [results, Tryd.results7, go_sem, g0, g1, g2, g3]) rfl ⟨rfl, (((hb.setCell (Nat.le_refl _) _).setCell (Nat.le_refl _) _).setCell (Nat.le_refl _) _).setCell (Nat.le_refl _) _⟩
  | true =>
  simp only [hw, if_true] at HW
  cases ha : l.all seenB with
  | false =>
    rw [if_pos (.inl rfl)]
    simp only [ha] at HAl
    clear hl
    generalize hWe : w.alloc (.cells #[.string (str []), .string (str []), .bool false, .bool false] 24) = W at *
    go_enter Tryd.func7, Tryd.ntmps7
    go_wp2_with (first
      | (go_at_call 12; (with_reducible refine (HW _ (hT.below hb)).mono ?_); rintro e w1 ⟨rfl, hx⟩; have hR0 := hR0.below hx hR0.lt; have hb := hb.trans (hx.mono hb.size); clear hx; obtain ⟨r0, f0⟩ := rows_at hR0 0 (by decide); obtain ⟨r1, f1⟩ := rows_at hR0 1 (by decide); obtain ⟨r2, f2⟩ := rows_at hR0 2 (by decide); obtain ⟨r3, f3⟩ := rows_at hR0 3 (by decide))
      | (go_at_call 14; (with_reducible refine (HBt _).mono ?_); rintro e w1 ⟨bb, rfl, hcb, hx⟩; have hR0 := hR0.below hx hR0.lt; have hb := hb.trans (hx.mono hb.size); clear hx; obtain ⟨r0, f0⟩ := rows_at hR0 0 (by decide); obtain ⟨r1, f1⟩ := rows_at hR0 1 (by decide); obtain ⟨r2, f2⟩ := rows_at hR0 2 (by decide); obtain ⟨r3, f3⟩ := rows_at hR0 3 (by decide))
      | (go_at_call 13; (with_reducible refine (HAl _ _ hcb).mono ?_); rintro e w1 ⟨rfl, rfl⟩))
    obtain ⟨g0, g1, g2, g3⟩ := hR0.set (.string (str [])) (.string (str [])) (.bool false) (.bool false)
    exact bodyPost_ret (v := .tuple #[.agg #[.string (str []), .string (str []), .bool false, .bool false], .int .i64 1]) (by simp [results, Tryd.results7, go_sem, g0, g1, g2, g3]) rfl ⟨rfl, (((hb.setCell (Nat.le_refl _) _).setCell (Nat.le_refl _) _).setCell (Nat.le_refl _) _).setCell (Nat.le_refl _) _⟩
  | true =>
  rw [if_neg (by rintro (c | c) <;> cases c)]
  simp only [ha] at HAl
  have hA : wordN l + 3 ≤ n := by
    unfold hasWord at hw
    rw [decide_eq_true_iff, hl] at hw
    omega
  have hlA : (l.take (wordN l)).length = wordN l := by rw [List.length_take]; omega
  have HS2 := fun w => sameC (l.take (wordN l)) [104, 116, 116, 112, 115] (wordN l) 5 w hlA (by unfold maxLen; omega) rfl (by decide)
  have HS1 := fun w => sameC (l.take (wordN l)) [104, 116, 116, 112] (wordN l) 4 w hlA (by unfold maxLen; omega) rfl (by decide)
  obtain ⟨q1, hq1⟩ : ∃ q, (schemeU l == [104, 116, 116, 112]) = q := ⟨_, rfl⟩
  obtain ⟨q2, hq2⟩ : ∃ q, (schemeU l == [104, 116, 116, 112, 115]) = q := ⟨_, rfl⟩
  have hd1 : (schemeU l ≠ [104, 116, 116, 112] ∧ schemeU l ≠ [104, 116, 116, 112, 115]) ↔ (q1 = false ∧ q2 = false) := by
    rw [← hq1, ← hq2, beq_eq_false_iff_ne, beq_eq_false_iff_ne]
  have hs2 : ((l.take (wordN l)).map low == [104, 116, 116, 112, 115].map low) = q2 := hq2
  have hs1 : ((l.take (wordN l)).map low == [104, 116, 116, 112].map low) = q1 := hq1
  simp only [hs2] at HS2
  simp only [hs1] at HS1
  change ∀ w, Calls Tryd.prog 15 #[.string (str (l.take (wordN l))), .string ⟨#[104, 116, 116, 112, 115]⟩] w _ at HS2
  change ∀ w, Calls Tryd.prog 15 #[.string (str (l.take (wordN l))), .string ⟨#[104, 116, 116, 112]⟩] w _ at HS1
  rw [hq2]
  have hR : (restU l).length = n - (wordN l + 3) := by unfold restU; rw [List.length_drop, hl]
  have hra : (restU l).all seenB = true := all_drop ha _
  generalize restU l = r at *
  generalize schemeU l = sc at *
  generalize l.take (wordN l) = la at *
  generalize wordN l = A at *
  clear hs1 hs2 hlA ha hw
  by_cases hs : q1 = false ∧ q2 = false
  · rw [if_pos (hd1.2 hs)]
    obtain ⟨rfl, rfl⟩ := hs
    clear hl hR hra hq1 hq2 hd1
    generalize hWe : w.alloc (.cells #[.string (str []), .string (str []), .bool false, .bool false] 24) = W at *
    go_enter Tryd.func7, Tryd.ntmps7
    go_wp2_with (first
      | (go_at_call 12; (with_reducible refine (HW _ (hT.below hb)).mono ?_); rintro e w1 ⟨rfl, hx⟩; have hR0 := hR0.below hx hR0.lt; have hb := hb.trans (hx.mono hb.size); clear hx; obtain ⟨r0, f0⟩ := rows_at hR0 0 (by decide); obtain ⟨r1, f1⟩ := rows_at hR0 1 (by decide); obtain ⟨r2, f2⟩ := rows_at hR0 2 (by decide); obtain ⟨r3, f3⟩ := rows_at hR0 3 (by decide))
      | (go_at_call 14; (with_reducible refine (HBt _).mono ?_); rintro e w1 ⟨bb, rfl, hcb, hx⟩; have hR0 := hR0.below hx hR0.lt; have hb := hb.trans (hx.mono hb.size); clear hx; obtain ⟨r0, f0⟩ := rows_at hR0 0 (by decide); obtain ⟨r1, f1⟩ := rows_at hR0 1 (by decide); obtain ⟨r2, f2⟩ := rows_at hR0 2 (by decide); obtain ⟨r3, f3⟩ := rows_at hR0 3 (by decide))
      | (go_at_call 13; (with_reducible refine (HAl _ _ hcb).mono ?_); rintro e w1 ⟨rfl, rfl⟩)
      | (go_at_call 15; (with_reducible refine (HS2 _).mono ?_); rintro e w1 ⟨rfl, hx⟩; have hR0 := hR0.below hx hR0.lt; have hb := hb.trans (hx.mono hb.size); clear hx; obtain ⟨r0, f0⟩ := rows_at hR0 0 (by decide); obtain ⟨r1, f1⟩ := rows_at hR0 1 (by decide); obtain ⟨r2, f2⟩ := rows_at hR0 2 (by decide); obtain ⟨r3, f3⟩ := rows_at hR0 3 (by decide))
      | (go_at_call 15; (with_reducible refine (HS1 _).mono ?_); rintro e w1 ⟨rfl, hx⟩; have hR0 := hR0.below hx hR0.lt; have hb := hb.trans (hx.mono hb.size); clear hx; obtain ⟨r0, f0⟩ := rows_at hR0 0 (by decide); obtain ⟨r1, f1⟩ := rows_at hR0 1 (by decide); obtain ⟨r2, f2⟩ := rows_at hR0 2 (by decide); obtain ⟨r3, f3⟩ := rows_at hR0 3 (by decide)))
    obtain ⟨g0, g1, g2, g3⟩ := hR0.set (.string (str [])) (.string (str [])) (.bool false) (.bool false)
    exact bodyPost_ret (v := .tuple #[.agg #[.string (str []), .string (str []), .bool false, .bool false], .int .i64 15]) (by simp [results, Tryd.results7, go_sem, g0, g1, g2, g3]) rfl ⟨rfl, (((hb.setCell (Nat.le_refl _) _).setCell (Nat.le_refl _) _).setCell (Nat.le_refl _) _).setCell (Nat.le_refl _) _⟩
  rw [if_neg (fun c => hs (hd1.1 c))]
  have hor : q2 = true ∨ (q2 = false ∧ q1 = true) := by
    cases q2
    · cases q1
      · exact absurd ⟨rfl, rfl⟩ hs
      · exact .inr ⟨rfl, rfl⟩
    · exact .inl rfl
  obtain ⟨m, hm2⟩ : ∃ m, r.length = m := ⟨_, rfl⟩
  have HE := fun w => cutAheadC r [47, 63, 35] m w hm2 (by omega) hra (by decide) (by decide)
  change ∀ w, Calls Tryd.prog 16 #[.string (str r), .string ⟨#[47, 63, 35]⟩] w _ at HE
  have hhl : (headU r).length ≤ 100000 := by unfold headU; rw [List.length_take]; omega
  have HN := fun w => hostPortC (headU r) _ w rfl hhl (all_take hra _)
  have hpl : (r.drop (findS r [47, 63, 35])).length ≤ 100000 := by rw [List.length_drop]; omega
  have HPa := fun w => pathOfC (r.drop (findS r [47, 63, 35])) _ w rfl hpl (all_drop hra _)
  obtain ⟨X, E, hXE, hcase⟩ := canon_host_of r
  have hnl : (nameCut (headU r)).1.length ≤ 100000 ∧ (nameCut (headU r)).2.length ≤ 100000 := by
    rcases name_cut (headU r) with h | ⟨h, -⟩
    · rw [h]; dsimp only; rw [List.length_take, List.length_drop]; omega
    · rw [h]; exact ⟨by simp, hhl⟩
  have HC := fun w (h : PTab Tryd.prog w) => canonC (nameCut (headU r)).1 _ w rfl (by unfold maxLen; omega) h
  unfold CanonIs at HC
  simp only [hXE] at HC
  have HP := fun w => isPortC (nameCut (headU r)).2 _ w rfl (by omega)
  change ∀ w, Calls Tryd.prog 16 #[.string (str r), .string ⟨#[47, 63, 35]⟩] w (fun e w' => e = .returned (.tuple #[.string (str (headU r)), .string (str (r.drop (findS r [47, 63, 35])))]) ∧ Below w.heap.size w w') at HE
  generalize (nameCut (headU r)).1 = nm at *
  generalize (nameCut (headU r)).2 = pt at *
  generalize headU r = hd at *
  generalize r.drop (findS r [47, 63, 35]) = p0 at *
  generalize hostU r = ho at *
  generalize portU r = po at *
  clear hm2 hhl hpl hnl hl hR hra hq1 hq2 hd1 hs hXE
  rcases hcase with ⟨rfl, hcb0, rfl, rfl⟩ | ⟨hE, hcb0⟩
  · cases hpb : portB pt with
    | false =>
      rw [if_pos (.inr rfl)]
      simp only [hpb] at HP
      clear hpb hcb0
      rcases hor with rfl | ⟨rfl, rfl⟩
      all_goals
        generalize hWe : w.alloc (.cells #[.string (str []), .string (str []), .bool false, .bool false] 24) = W at *
        go_enter Tryd.func7, Tryd.ntmps7
        go_wp2_with (first
          | (go_at_call 12; (with_reducible refine (HW _ (hT.below hb)).mono ?_); rintro e w1 ⟨rfl, hx⟩; have hR0 := hR0.below hx hR0.lt; have hb := hb.trans (hx.mono hb.size); clear hx; obtain ⟨r0, f0⟩ := rows_at hR0 0 (by decide); obtain ⟨r1, f1⟩ := rows_at hR0 1 (by decide); obtain ⟨r2, f2⟩ := rows_at hR0 2 (by decide); obtain ⟨r3, f3⟩ := rows_at hR0 3 (by decide))
          | (go_at_call 14; (with_reducible refine (HBt _).mono ?_); rintro e w1 ⟨bb, rfl, hcb, hx⟩; have hR0 := hR0.below hx hR0.lt; have hb := hb.trans (hx.mono hb.size); clear hx; obtain ⟨r0, f0⟩ := rows_at hR0 0 (by decide); obtain ⟨r1, f1⟩ := rows_at hR0 1 (by decide); obtain ⟨r2, f2⟩ := rows_at hR0 2 (by decide); obtain ⟨r3, f3⟩ := rows_at hR0 3 (by decide))
          | (go_at_call 13; (with_reducible refine (HAl _ _ hcb).mono ?_); rintro e w1 ⟨rfl, rfl⟩)
          | (go_at_call 15; (with_reducible refine (HS2 _).mono ?_); rintro e w1 ⟨rfl, hx⟩; have hR0 := hR0.below hx hR0.lt; have hb := hb.trans (hx.mono hb.size); clear hx; obtain ⟨r0, f0⟩ := rows_at hR0 0 (by decide); obtain ⟨r1, f1⟩ := rows_at hR0 1 (by decide); obtain ⟨r2, f2⟩ := rows_at hR0 2 (by decide); obtain ⟨r3, f3⟩ := rows_at hR0 3 (by decide))
          | (go_at_call 15; (with_reducible refine (HS1 _).mono ?_); rintro e w1 ⟨rfl, hx⟩; have hR0 := hR0.below hx hR0.lt; have hb := hb.trans (hx.mono hb.size); clear hx; obtain ⟨r0, f0⟩ := rows_at hR0 0 (by decide); obtain ⟨r1, f1⟩ := rows_at hR0 1 (by decide); obtain ⟨r2, f2⟩ := rows_at hR0 2 (by decide); obtain ⟨r3, f3⟩ := rows_at hR0 3 (by decide))
          | (go_at_call 16; (with_reducible refine (HE _).mono ?_); rintro e w1 ⟨rfl, hx⟩; have hR0 := hR0.below hx hR0.lt; have hb := hb.trans (hx.mono hb.size); clear hx; obtain ⟨r0, f0⟩ := rows_at hR0 0 (by decide); obtain ⟨r1, f1⟩ := rows_at hR0 1 (by decide); obtain ⟨r2, f2⟩ := rows_at hR0 2 (by decide); obtain ⟨r3, f3⟩ := rows_at hR0 3 (by decide))
          | (go_at_call 17; (with_reducible refine (HN _).mono ?_); rintro e w1 ⟨rfl, hx⟩; have hR0 := hR0.below hx hR0.lt; have hb := hb.trans (hx.mono hb.size); clear hx; obtain ⟨r0, f0⟩ := rows_at hR0 0 (by decide); obtain ⟨r1, f1⟩ := rows_at hR0 1 (by decide); obtain ⟨r2, f2⟩ := rows_at hR0 2 (by decide); obtain ⟨r3, f3⟩ := rows_at hR0 3 (by decide))
          | (go_at_call 18; (with_reducible refine (HC _ (hT.below hb)).mono ?_); rintro e w1 ⟨rfl, hx⟩; have hR0 := hR0.below hx hR0.lt; have hb := hb.trans (hx.mono hb.size); clear hx; obtain ⟨r0, f0⟩ := rows_at hR0 0 (by decide); obtain ⟨r1, f1⟩ := rows_at hR0 1 (by decide); obtain ⟨r2, f2⟩ := rows_at hR0 2 (by decide); obtain ⟨r3, f3⟩ := rows_at hR0 3 (by decide))
          | (go_at_call 19; (with_reducible refine (HP _).mono ?_); rintro e w1 ⟨rfl, hx⟩; have hR0 := hR0.below hx hR0.lt; have hb := hb.trans (hx.mono hb.size); clear hx; obtain ⟨r0, f0⟩ := rows_at hR0 0 (by decide); obtain ⟨r1, f1⟩ := rows_at hR0 1 (by decide); obtain ⟨r2, f2⟩ := rows_at hR0 2 (by decide); obtain ⟨r3, f3⟩ := rows_at hR0 3 (by decide))
          | (go_at_call 20; (with_reducible refine (HPa _).mono ?_); rintro e w1 ⟨rfl, hx⟩; have hR0 := hR0.below hx hR0.lt; have hb := hb.trans (hx.mono hb.size); clear hx; obtain ⟨r0, f0⟩ := rows_at hR0 0 (by decide); obtain ⟨r1, f1⟩ := rows_at hR0 1 (by decide); obtain ⟨r2, f2⟩ := rows_at hR0 2 (by decide); obtain ⟨r3, f3⟩ := rows_at hR0 3 (by decide)))
        obtain ⟨g0, g1, g2, g3⟩ := hR0.set (.string (str [])) (.string (str [])) (.bool false) (.bool false)
        exact bodyPost_ret (v := .tuple #[.agg #[.string (str []), .string (str []), .bool false, .bool false], .int .i64 1]) (by simp [results, Tryd.results7, go_sem, g0, g1, g2, g3]) rfl ⟨rfl, (((hb.setCell (Nat.le_refl _) _).setCell (Nat.le_refl _) _).setCell (Nat.le_refl _) _).setCell (Nat.le_refl _) _⟩
    | true =>
      rw [if_neg (by rw [hcb0]; rintro (c | c) <;> cases c)]
      simp only [hpb] at HP
      clear hpb hcb0
      rcases hor with rfl | ⟨rfl, rfl⟩
      · generalize hWe : w.alloc (.cells #[.string (str []), .string (str []), .bool false, .bool false] 24) = W at *
        go_enter Tryd.func7, Tryd.ntmps7
        go_wp2_with (first
          | (go_at_call 12; (with_reducible refine (HW _ (hT.below hb)).mono ?_); rintro e w1 ⟨rfl, hx⟩; have hR0 := hR0.below hx hR0.lt; have hb := hb.trans (hx.mono hb.size); clear hx; obtain ⟨r0, f0⟩ := rows_at hR0 0 (by decide); obtain ⟨r1, f1⟩ := rows_at hR0 1 (by decide); obtain ⟨r2, f2⟩ := rows_at hR0 2 (by decide); obtain ⟨r3, f3⟩ := rows_at hR0 3 (by decide))
          | (go_at_call 14; (with_reducible refine (HBt _).mono ?_); rintro e w1 ⟨bb, rfl, hcb, hx⟩; have hR0 := hR0.below hx hR0.lt; have hb := hb.trans (hx.mono hb.size); clear hx; obtain ⟨r0, f0⟩ := rows_at hR0 0 (by decide); obtain ⟨r1, f1⟩ := rows_at hR0 1 (by decide); obtain ⟨r2, f2⟩ := rows_at hR0 2 (by decide); obtain ⟨r3, f3⟩ := rows_at hR0 3 (by decide))
          | (go_at_call 13; (with_reducible refine (HAl _ _ hcb).mono ?_); rintro e w1 ⟨rfl, rfl⟩)
          | (go_at_call 15; (with_reducible refine (HS2 _).mono ?_); rintro e w1 ⟨rfl, hx⟩; have hR0 := hR0.below hx hR0.lt; have hb := hb.trans (hx.mono hb.size); clear hx; obtain ⟨r0, f0⟩ := rows_at hR0 0 (by decide); obtain ⟨r1, f1⟩ := rows_at hR0 1 (by decide); obtain ⟨r2, f2⟩ := rows_at hR0 2 (by decide); obtain ⟨r3, f3⟩ := rows_at hR0 3 (by decide))
          | (go_at_call 15; (with_reducible refine (HS1 _).mono ?_); rintro e w1 ⟨rfl, hx⟩; have hR0 := hR0.below hx hR0.lt; have hb := hb.trans (hx.mono hb.size); clear hx; obtain ⟨r0, f0⟩ := rows_at hR0 0 (by decide); obtain ⟨r1, f1⟩ := rows_at hR0 1 (by decide); obtain ⟨r2, f2⟩ := rows_at hR0 2 (by decide); obtain ⟨r3, f3⟩ := rows_at hR0 3 (by decide))
          | (go_at_call 16; (with_reducible refine (HE _).mono ?_); rintro e w1 ⟨rfl, hx⟩; have hR0 := hR0.below hx hR0.lt; have hb := hb.trans (hx.mono hb.size); clear hx; obtain ⟨r0, f0⟩ := rows_at hR0 0 (by decide); obtain ⟨r1, f1⟩ := rows_at hR0 1 (by decide); obtain ⟨r2, f2⟩ := rows_at hR0 2 (by decide); obtain ⟨r3, f3⟩ := rows_at hR0 3 (by decide))
          | (go_at_call 17; (with_reducible refine (HN _).mono ?_); rintro e w1 ⟨rfl, hx⟩; have hR0 := hR0.below hx hR0.lt; have hb := hb.trans (hx.mono hb.size); clear hx; obtain ⟨r0, f0⟩ := rows_at hR0 0 (by decide); obtain ⟨r1, f1⟩ := rows_at hR0 1 (by decide); obtain ⟨r2, f2⟩ := rows_at hR0 2 (by decide); obtain ⟨r3, f3⟩ := rows_at hR0 3 (by decide))
          | (go_at_call 18; (with_reducible refine (HC _ (hT.below hb)).mono ?_); rintro e w1 ⟨rfl, hx⟩; have hR0 := hR0.below hx hR0.lt; have hb := hb.trans (hx.mono hb.size); clear hx; obtain ⟨r0, f0⟩ := rows_at hR0 0 (by decide); obtain ⟨r1, f1⟩ := rows_at hR0 1 (by decide); obtain ⟨r2, f2⟩ := rows_at hR0 2 (by decide); obtain ⟨r3, f3⟩ := rows_at hR0 3 (by decide))
          | (go_at_call 19; (with_reducible refine (HP _).mono ?_); rintro e w1 ⟨rfl, hx⟩; have hR0 := hR0.below hx hR0.lt; have hb := hb.trans (hx.mono hb.size); clear hx; obtain ⟨r0, f0⟩ := rows_at hR0 0 (by decide); obtain ⟨r1, f1⟩ := rows_at hR0 1 (by decide); obtain ⟨r2, f2⟩ := rows_at hR0 2 (by decide); obtain ⟨r3, f3⟩ := rows_at hR0 3 (by decide))
          | (go_at_call 20; (with_reducible refine (HPa _).mono ?_); rintro e w1 ⟨rfl, hx⟩; have hR0 := hR0.below hx hR0.lt; have hb := hb.trans (hx.mono hb.size); clear hx; obtain ⟨r0, f0⟩ := rows_at hR0 0 (by decide); obtain ⟨r1, f1⟩ := rows_at hR0 1 (by decide); obtain ⟨r2, f2⟩ := rows_at hR0 2 (by decide); obtain ⟨r3, f3⟩ := rows_at hR0 3 (by decide)))
        obtain ⟨g0, g1, g2, g3⟩ := hR0.set (.string (str X)) (.string (str (pathU p0))) (.bool true) (.bool false)
        exact bodyPost_ret (v := .tuple #[.agg #[.string (str X), .string (str (pathU p0)), .bool true, .bool false], .int .i64 0]) (by simp [results, Tryd.results7, go_sem, g0, g1, g2, g3]) rfl ⟨rfl, (((hb.setCell (Nat.le_refl _) _).setCell (Nat.le_refl _) _).setCell (Nat.le_refl _) _).setCell (Nat.le_refl _) _⟩
      · generalize hWe : w.alloc (.cells #[.string (str []), .string (str []), .bool false, .bool false] 24) = W at *
        go_enter Tryd.func7, Tryd.ntmps7
        go_wp2_with (first
          | (go_at_call 12; (with_reducible refine (HW _ (hT.below hb)).mono ?_); rintro e w1 ⟨rfl, hx⟩; have hR0 := hR0.below hx hR0.lt; have hb := hb.trans (hx.mono hb.size); clear hx; obtain ⟨r0, f0⟩ := rows_at hR0 0 (by decide); obtain ⟨r1, f1⟩ := rows_at hR0 1 (by decide); obtain ⟨r2, f2⟩ := rows_at hR0 2 (by decide); obtain ⟨r3, f3⟩ := rows_at hR0 3 (by decide))
          | (go_at_call 14; (with_reducible refine (HBt _).mono ?_); rintro e w1 ⟨bb, rfl, hcb, hx⟩; have hR0 := hR0.below hx hR0.lt; have hb := hb.trans (hx.mono hb.size); clear hx; obtain ⟨r0, f0⟩ := rows_at hR0 0 (by decide); obtain ⟨r1, f1⟩ := rows_at hR0 1 (by decide); obtain ⟨r2, f2⟩ := rows_at hR0 2 (by decide); obtain ⟨r3, f3⟩ := rows_at hR0 3 (by decide))
          | (go_at_call 13; (with_reducible refine (HAl _ _ hcb).mono ?_); rintro e w1 ⟨rfl, rfl⟩)
          | (go_at_call 15; (with_reducible refine (HS2 _).mono ?_); rintro e w1 ⟨rfl, hx⟩; have hR0 := hR0.below hx hR0.lt; have hb := hb.trans (hx.mono hb.size); clear hx; obtain ⟨r0, f0⟩ := rows_at hR0 0 (by decide); obtain ⟨r1, f1⟩ := rows_at hR0 1 (by decide); obtain ⟨r2, f2⟩ := rows_at hR0 2 (by decide); obtain ⟨r3, f3⟩ := rows_at hR0 3 (by decide))
          | (go_at_call 15; (with_reducible refine (HS1 _).mono ?_); rintro e w1 ⟨rfl, hx⟩; have hR0 := hR0.below hx hR0.lt; have hb := hb.trans (hx.mono hb.size); clear hx; obtain ⟨r0, f0⟩ := rows_at hR0 0 (by decide); obtain ⟨r1, f1⟩ := rows_at hR0 1 (by decide); obtain ⟨r2, f2⟩ := rows_at hR0 2 (by decide); obtain ⟨r3, f3⟩ := rows_at hR0 3 (by decide))
          | (go_at_call 16; (with_reducible refine (HE _).mono ?_); rintro e w1 ⟨rfl, hx⟩; have hR0 := hR0.below hx hR0.lt; have hb := hb.trans (hx.mono hb.size); clear hx; obtain ⟨r0, f0⟩ := rows_at hR0 0 (by decide); obtain ⟨r1, f1⟩ := rows_at hR0 1 (by decide); obtain ⟨r2, f2⟩ := rows_at hR0 2 (by decide); obtain ⟨r3, f3⟩ := rows_at hR0 3 (by decide))
          | (go_at_call 17; (with_reducible refine (HN _).mono ?_); rintro e w1 ⟨rfl, hx⟩; have hR0 := hR0.below hx hR0.lt; have hb := hb.trans (hx.mono hb.size); clear hx; obtain ⟨r0, f0⟩ := rows_at hR0 0 (by decide); obtain ⟨r1, f1⟩ := rows_at hR0 1 (by decide); obtain ⟨r2, f2⟩ := rows_at hR0 2 (by decide); obtain ⟨r3, f3⟩ := rows_at hR0 3 (by decide))
          | (go_at_call 18; (with_reducible refine (HC _ (hT.below hb)).mono ?_); rintro e w1 ⟨rfl, hx⟩; have hR0 := hR0.below hx hR0.lt; have hb := hb.trans (hx.mono hb.size); clear hx; obtain ⟨r0, f0⟩ := rows_at hR0 0 (by decide); obtain ⟨r1, f1⟩ := rows_at hR0 1 (by decide); obtain ⟨r2, f2⟩ := rows_at hR0 2 (by decide); obtain ⟨r3, f3⟩ := rows_at hR0 3 (by decide))
          | (go_at_call 19; (with_reducible refine (HP _).mono ?_); rintro e w1 ⟨rfl, hx⟩; have hR0 := hR0.below hx hR0.lt; have hb := hb.trans (hx.mono hb.size); clear hx; obtain ⟨r0, f0⟩ := rows_at hR0 0 (by decide); obtain ⟨r1, f1⟩ := rows_at hR0 1 (by decide); obtain ⟨r2, f2⟩ := rows_at hR0 2 (by decide); obtain ⟨r3, f3⟩ := rows_at hR0 3 (by decide))
          | (go_at_call 20; (with_reducible refine (HPa _).mono ?_); rintro e w1 ⟨rfl, hx⟩; have hR0 := hR0.below hx hR0.lt; have hb := hb.trans (hx.mono hb.size); clear hx; obtain ⟨r0, f0⟩ := rows_at hR0 0 (by decide); obtain ⟨r1, f1⟩ := rows_at hR0 1 (by decide); obtain ⟨r2, f2⟩ := rows_at hR0 2 (by decide); obtain ⟨r3, f3⟩ := rows_at hR0 3 (by decide)))
        obtain ⟨g0, g1, g2, g3⟩ := hR0.set (.string (str X)) (.string (str (pathU p0))) (.bool false) (.bool false)
        exact bodyPost_ret (v := .tuple #[.agg #[.string (str X), .string (str (pathU p0)), .bool false, .bool false], .int .i64 0]) (by simp [results, Tryd.results7, go_sem, g0, g1, g2, g3]) rfl ⟨rfl, (((hb.setCell (Nat.le_refl _) _).setCell (Nat.le_refl _) _).setCell (Nat.le_refl _) _).setCell (Nat.le_refl _) _⟩
  · rw [if_pos (.inl hcb0)]
    have hE2 : (E != 0) = true := by rw [bne, hE]; rfl
    clear hcb0
    generalize portB pt = pb at *
    rcases hor with rfl | ⟨rfl, rfl⟩
    all_goals
      generalize hWe : w.alloc (.cells #[.string (str []), .string (str []), .bool false, .bool false] 24) = W at *
      go_enter Tryd.func7, Tryd.ntmps7
      go_wp2_with (first
        | (go_at_call 12; (with_reducible refine (HW _ (hT.below hb)).mono ?_); rintro e w1 ⟨rfl, hx⟩; have hR0 := hR0.below hx hR0.lt; have hb := hb.trans (hx.mono hb.size); clear hx; obtain ⟨r0, f0⟩ := rows_at hR0 0 (by decide); obtain ⟨r1, f1⟩ := rows_at hR0 1 (by decide); obtain ⟨r2, f2⟩ := rows_at hR0 2 (by decide); obtain ⟨r3, f3⟩ := rows_at hR0 3 (by decide))
        | (go_at_call 14; (with_reducible refine (HBt _).mono ?_); rintro e w1 ⟨bb, rfl, hcb, hx⟩; have hR0 := hR0.below hx hR0.lt; have hb := hb.trans (hx.mono hb.size); clear hx; obtain ⟨r0, f0⟩ := rows_at hR0 0 (by decide); obtain ⟨r1, f1⟩ := rows_at hR0 1 (by decide); obtain ⟨r2, f2⟩ := rows_at hR0 2 (by decide); obtain ⟨r3, f3⟩ := rows_at hR0 3 (by decide))
        | (go_at_call 13; (with_reducible refine (HAl _ _ hcb).mono ?_); rintro e w1 ⟨rfl, rfl⟩)
        | (go_at_call 15; (with_reducible refine (HS2 _).mono ?_); rintro e w1 ⟨rfl, hx⟩; have hR0 := hR0.below hx hR0.lt; have hb := hb.trans (hx.mono hb.size); clear hx; obtain ⟨r0, f0⟩ := rows_at hR0 0 (by decide); obtain ⟨r1, f1⟩ := rows_at hR0 1 (by decide); obtain ⟨r2, f2⟩ := rows_at hR0 2 (by decide); obtain ⟨r3, f3⟩ := rows_at hR0 3 (by decide))
        | (go_at_call 15; (with_reducible refine (HS1 _).mono ?_); rintro e w1 ⟨rfl, hx⟩; have hR0 := hR0.below hx hR0.lt; have hb := hb.trans (hx.mono hb.size); clear hx; obtain ⟨r0, f0⟩ := rows_at hR0 0 (by decide); obtain ⟨r1, f1⟩ := rows_at hR0 1 (by decide); obtain ⟨r2, f2⟩ := rows_at hR0 2 (by decide); obtain ⟨r3, f3⟩ := rows_at hR0 3 (by decide))
        | (go_at_call 16; (with_reducible refine (HE _).mono ?_); rintro e w1 ⟨rfl, hx⟩; have hR0 := hR0.below hx hR0.lt; have hb := hb.trans (hx.mono hb.size); clear hx; obtain ⟨r0, f0⟩ := rows_at hR0 0 (by decide); obtain ⟨r1, f1⟩ := rows_at hR0 1 (by decide); obtain ⟨r2, f2⟩ := rows_at hR0 2 (by decide); obtain ⟨r3, f3⟩ := rows_at hR0 3 (by decide))
        | (go_at_call 17; (with_reducible refine (HN _).mono ?_); rintro e w1 ⟨rfl, hx⟩; have hR0 := hR0.below hx hR0.lt; have hb := hb.trans (hx.mono hb.size); clear hx; obtain ⟨r0, f0⟩ := rows_at hR0 0 (by decide); obtain ⟨r1, f1⟩ := rows_at hR0 1 (by decide); obtain ⟨r2, f2⟩ := rows_at hR0 2 (by decide); obtain ⟨r3, f3⟩ := rows_at hR0 3 (by decide))
        | (go_at_call 18; (with_reducible refine (HC _ (hT.below hb)).mono ?_); rintro e w1 ⟨rfl, hx⟩; have hR0 := hR0.below hx hR0.lt; have hb := hb.trans (hx.mono hb.size); clear hx; obtain ⟨r0, f0⟩ := rows_at hR0 0 (by decide); obtain ⟨r1, f1⟩ := rows_at hR0 1 (by decide); obtain ⟨r2, f2⟩ := rows_at hR0 2 (by decide); obtain ⟨r3, f3⟩ := rows_at hR0 3 (by decide))
        | (go_at_call 19; (with_reducible refine (HP _).mono ?_); rintro e w1 ⟨rfl, hx⟩; have hR0 := hR0.below hx hR0.lt; have hb := hb.trans (hx.mono hb.size); clear hx; obtain ⟨r0, f0⟩ := rows_at hR0 0 (by decide); obtain ⟨r1, f1⟩ := rows_at hR0 1 (by decide); obtain ⟨r2, f2⟩ := rows_at hR0 2 (by decide); obtain ⟨r3, f3⟩ := rows_at hR0 3 (by decide))
        | (go_at_call 20; (with_reducible refine (HPa _).mono ?_); rintro e w1 ⟨rfl, hx⟩; have hR0 := hR0.below hx hR0.lt; have hb := hb.trans (hx.mono hb.size); clear hx; obtain ⟨r0, f0⟩ := rows_at hR0 0 (by decide); obtain ⟨r1, f1⟩ := rows_at hR0 1 (by decide); obtain ⟨r2, f2⟩ := rows_at hR0 2 (by decide); obtain ⟨r3, f3⟩ := rows_at hR0 3 (by decide)))
      obtain ⟨g0, g1, g2, g3⟩ := hR0.set (.string (str [])) (.string (str [])) (.bool false) (.bool false)
      exact bodyPost_ret (v := .tuple #[.agg #[.string (str []), .string (str []), .bool false, .bool false], .int .i64 1]) (by simp [results, Tryd.results7, go_sem, g0, g1, g2, g3]) rfl ⟨rfl, (((hb.setCell (Nat.le_refl _) _).setCell (Nat.le_refl _) _).setCell (Nat.le_refl _) _).setCell (Nat.le_refl _) _⟩
end Go.Proofs.YtgaodaimkojmhaaDoor
