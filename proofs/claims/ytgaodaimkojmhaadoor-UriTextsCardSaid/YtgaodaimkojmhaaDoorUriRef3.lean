/- Contracts of the reference of layer 10: an address's request. -/
import Derived.Test.YtgaodaimkojmhaaDoorUriRef2
import Derived.Test.YtgaodaimkojmhaaDoorAsciiRef
namespace Go.Proofs.YtgaodaimkojmhaaDoor
open Go.RowKit
set_option linter.unusedVariables false

/-- A request as a value. -/
def reqV (q : Req) : Value := .agg #[.string (str q.1), .string (str q.2.1), .bool q.2.2, .bool false]

theorem rows_at {w : World} {b : Nat} {c : Array Value} {e : TypeId} (h : w.heap[b]? = some (.cells c e (0, 0))) (i : Nat) (hi : i < c.size) : w.cell? ⟨b, i, none⟩ = some c[i] ∧ w.frozen? ⟨b, i, none⟩ = false := by
  constructor
  · unfold World.cell?
    simp [h, hi]
  · unfold World.frozen?
    simp [h]

/-- The cells of a request that holds nothing yet. -/
def ReqAt (w : World) (B : Nat) : Prop := w.heap[B]? = some (.cells #[.string (str []), .string (str []), .bool false, .bool false] 24 (0, 0))

theorem ReqAt.below {w w' : World} {B K : Nat} (h : ReqAt w B) (hb : Below K w w') (hlt : B < K) : ReqAt w' B := (hb.block B hlt).trans h

theorem ReqAt.lt {w : World} {B : Nat} (h : ReqAt w B) : B < w.heap.size := by
  rcases Nat.lt_or_ge B w.heap.size with h1 | h1
  · exact h1
  · unfold ReqAt at h
    rw [Array.getElem?_eq_none h1] at h
    cases h

theorem ReqAt.new (w : World) : ReqAt (w.alloc (.cells #[.string (str []), .string (str []), .bool false, .bool false] 24)) w.heap.size := by
  unfold ReqAt World.alloc
  simp

/-- What a request's cells hold behind four stores. -/
theorem ReqAt.set {w : World} {B : Nat} (h : ReqAt w B) (v0 v1 v2 v3 : Value) :
    ((((w.setCell ⟨B, 0, none⟩ v0).setCell ⟨B, 1, none⟩ v1).setCell ⟨B, 2, none⟩ v2).setCell ⟨B, 3, none⟩ v3).cell? ⟨B, 0, none⟩ = some v0 ∧
    ((((w.setCell ⟨B, 0, none⟩ v0).setCell ⟨B, 1, none⟩ v1).setCell ⟨B, 2, none⟩ v2).setCell ⟨B, 3, none⟩ v3).cell? ⟨B, 1, none⟩ = some v1 ∧
    ((((w.setCell ⟨B, 0, none⟩ v0).setCell ⟨B, 1, none⟩ v1).setCell ⟨B, 2, none⟩ v2).setCell ⟨B, 3, none⟩ v3).cell? ⟨B, 2, none⟩ = some v2 ∧
    ((((w.setCell ⟨B, 0, none⟩ v0).setCell ⟨B, 1, none⟩ v1).setCell ⟨B, 2, none⟩ v2).setCell ⟨B, 3, none⟩ v3).cell? ⟨B, 3, none⟩ = some v3 := by
  have ne : ∀ i j, i ≠ j → (⟨B, i, none⟩ : Addr) ≠ ⟨B, j, none⟩ := fun i j h c => by
    simp only [Addr.mk.injEq] at c
    exact h c.2.1
  obtain ⟨c0, -⟩ := rows_at h 0 (by decide)
  obtain ⟨c1, -⟩ := rows_at h 1 (by decide)
  obtain ⟨c2, -⟩ := rows_at h 2 (by decide)
  obtain ⟨c3, -⟩ := rows_at h 3 (by decide)
  have a0 := World.cell?_setCell_same w _ v0 c0
  have a1 := (World.cell?_setCell_other w _ _ v0 (ne 0 1 (by decide))).trans c1
  have a2 := (World.cell?_setCell_other w _ _ v0 (ne 0 2 (by decide))).trans c2
  have a3 := (World.cell?_setCell_other w _ _ v0 (ne 0 3 (by decide))).trans c3
  generalize w.setCell ⟨B, 0, none⟩ v0 = w at *
  have b1 := World.cell?_setCell_same w _ v1 a1
  have b0 := (World.cell?_setCell_other w _ _ v1 (ne 1 0 (by decide))).trans a0
  have b2 := (World.cell?_setCell_other w _ _ v1 (ne 1 2 (by decide))).trans a2
  have b3 := (World.cell?_setCell_other w _ _ v1 (ne 1 3 (by decide))).trans a3
  generalize w.setCell ⟨B, 1, none⟩ v1 = w at *
  have d2 := World.cell?_setCell_same w _ v2 b2
  have d0 := (World.cell?_setCell_other w _ _ v2 (ne 2 0 (by decide))).trans b0
  have d1 := (World.cell?_setCell_other w _ _ v2 (ne 2 1 (by decide))).trans b1
  have d3 := (World.cell?_setCell_other w _ _ v2 (ne 2 3 (by decide))).trans b3
  generalize w.setCell ⟨B, 2, none⟩ v2 = w at *
  exact ⟨(World.cell?_setCell_other w _ _ v3 (ne 3 0 (by decide))).trans d0, (World.cell?_setCell_other w _ _ v3 (ne 3 1 (by decide))).trans d1, (World.cell?_setCell_other w _ _ v3 (ne 3 2 (by decide))).trans d2, World.cell?_setCell_same w _ v3 d3⟩

set_option maxHeartbeats 2000000 in
set_option maxRecDepth 100000 in
theorem refUParseC (l : List UInt8) (n : Nat) (w : World) (hl : l.length = n) (hm : n ≤ 100000) :
    Calls Tryd.prog 8 #[.string (str l)] w fun e w' => e = .returned (.tuple #[reqV (parseU l).1, .int .i64 (parseU l).2]) ∧ Below w.heap.size w w' := by
  have hsz : (str l).size = n := by rw [str_size, hl]
  have hb := below_alloc w (.cells #[.string (str []), .string (str []), .bool false, .bool false] 24)
  have hR0 := ReqAt.new w
  have HW := fun w => refWordC l n w hl (by omega)
  have HV := fun w => refVisibleC l n w hl (by unfold maxLen; omega)
  have e00 : ({ data := #[] } : ByteArray) = str [] := rfl
  have hk := str_toList
  unfold parseU
  rw [hl]
  by_cases h1 : 1024 < n
  · have h1' : (1024 : Int) < (n : Int) := by omega
    rw [if_pos h1]
    clear HW HV hl hR0
    go_enter Tryd.func8, Tryd.ntmps8
    go_wp2
    exact bodyPost_ret (v := .tuple #[.agg #[.string (str []), .string (str []), .bool false, .bool false], .int .i64 3]) (by simp [results, Tryd.results8, go_sem]) rfl ⟨rfl, hb⟩
  · have h1' : ¬ (1024 : Int) < (n : Int) := by omega
    rw [if_neg h1]
    by_cases h2 : l.all seenB = false ∨ hasWord l = false
    · rw [if_pos h2]
      clear hl hR0
      generalize l.all seenB = a at *
      generalize hasWord l = b at *
      have hneg : (-1 : Int) < 0 := by omega
      cases a
      · generalize (if b = true then (wordN l : Int) else -1) = v at HW
        go_enter Tryd.func8, Tryd.ntmps8
        go_wp2_with (first
          | (go_at_call 21; (with_reducible refine (HW _).mono ?_); rintro e w1 ⟨rfl, rfl⟩)
          | (go_at_call 22; (with_reducible refine (HV _).mono ?_); rintro e w1 ⟨rfl, rfl⟩))
        exact bodyPost_ret (v := .tuple #[.agg #[.string (str []), .string (str []), .bool false, .bool false], .int .i64 1]) (by simp [results, Tryd.results8, go_sem]) rfl ⟨rfl, hb⟩
      · obtain rfl : b = false := by rcases h2 with h | h; cases h; exact h
        simp only [Bool.false_eq_true, if_false] at HW
        go_enter Tryd.func8, Tryd.ntmps8
        go_wp2_with (first
          | (go_at_call 21; (with_reducible refine (HW _).mono ?_); rintro e w1 ⟨rfl, rfl⟩)
          | (go_at_call 22; (with_reducible refine (HV _).mono ?_); rintro e w1 ⟨rfl, rfl⟩))
        exact bodyPost_ret (v := .tuple #[.agg #[.string (str []), .string (str []), .bool false, .bool false], .int .i64 1]) (by simp [results, Tryd.results8, go_sem]) rfl ⟨rfl, hb⟩
    · rw [if_neg h2]
      have hv : l.all seenB = true := by cases c : l.all seenB with | true => rfl | false => exact absurd (.inl c) h2
      have hw : hasWord l = true := by cases c : hasWord l with | true => rfl | false => exact absurd (.inr c) h2
      rw [hv] at HV
      simp only [hw, if_true] at HW
      have hA : wordN l + 3 ≤ n := by
        unfold hasWord at hw
        rw [decide_eq_true_iff, hl] at hw
        omega
      have hx1 : (str l).extract 0 (wordN l) = str (l.take (wordN l)) := by rw [str_extract]; simp
      have hx2 : (str l).extract (wordN l + 3) n = str (restU l) := by rw [str_extract, List.take_of_length_le (by rw [List.length_drop]; omega)]; rfl
      have hR : (restU l).length = n - (wordN l + 3) := by unfold restU; rw [List.length_drop, hl]
      have HL := fun w => refLowerC (l.take (wordN l)) (wordN l) w (by rw [List.length_take]; omega) (by unfold maxLen; omega)
      change ∀ w, Calls _ _ _ w (GivesStr (schemeU l) w) at HL
      unfold GivesStr at HL
      have hA0 : (0 : Int) ≤ (wordN l : Int) := by omega
      have hA1 : (wordN l : Int) ≤ (n : Int) := by omega
      have hA2 : (wordN l : Int) + 3 ≤ (n : Int) := by omega
      have hA3 : ¬ (wordN l : Int) < 0 := by omega
      obtain ⟨q1, hq1⟩ : ∃ q, (schemeU l == [104, 116, 116, 112]) = q := ⟨_, rfl⟩
      obtain ⟨q2, hq2⟩ : ∃ q, (schemeU l == [104, 116, 116, 112, 115]) = q := ⟨_, rfl⟩
      have hd1 : (schemeU l ≠ [104, 116, 116, 112] ∧ schemeU l ≠ [104, 116, 116, 112, 115]) ↔ (q1 = false ∧ q2 = false) := by
        rw [← hq1, ← hq2, beq_eq_false_iff_ne, beq_eq_false_iff_ne]
      have e1 : ({ data := #[104, 116, 116, 112] } : ByteArray) = str [104, 116, 116, 112] := rfl
      have e2 : ({ data := #[104, 116, 116, 112, 115] } : ByteArray) = str [104, 116, 116, 112, 115] := rfl
      have hn1 : (schemeU l != [104, 116, 116, 112]) = !q1 := by rw [bne, hq1]
      have hn2 : (schemeU l != [104, 116, 116, 112, 115]) = !q2 := by rw [bne, hq2]
      rw [hq2]
      generalize restU l = r at *
      generalize schemeU l = sc at *
      generalize l.take (wordN l) = la at *
      generalize wordN l = A at *
      generalize hWe : w.alloc (.cells #[.string (str []), .string (str []), .bool false, .bool false] 24) = W at *
      clear hl h2 hv hw
      by_cases hs : q1 = false ∧ q2 = false
      · rw [if_pos (hd1.2 hs)]
        obtain ⟨rfl, rfl⟩ := hs
        go_enter Tryd.func8, Tryd.ntmps8
        go_wp2_with (first
          | (go_at_call 21; (with_reducible refine (HW _).mono ?_); rintro e w1 ⟨rfl, rfl⟩)
          | (go_at_call 22; (with_reducible refine (HV _).mono ?_); rintro e w1 ⟨rfl, rfl⟩)
          | (go_at_call 23; (with_reducible refine (HL _).mono ?_); rintro e w1 ⟨rfl, hx⟩; have hR0 := hR0.below hx hR0.lt; have hb := hb.trans (hx.mono hb.size); clear hx; obtain ⟨r0, f0⟩ := rows_at hR0 0 (by decide); obtain ⟨r1, f1⟩ := rows_at hR0 1 (by decide); obtain ⟨r2, f2⟩ := rows_at hR0 2 (by decide); obtain ⟨r3, f3⟩ := rows_at hR0 3 (by decide)))
        obtain ⟨g0, g1, g2, g3⟩ := hR0.set (.string (str [])) (.string (str [])) (.bool false) (.bool false)
        exact bodyPost_ret (v := .tuple #[.agg #[.string (str []), .string (str []), .bool false, .bool false], .int .i64 15]) (by simp [results, Tryd.results8, go_sem, g0, g1, g2, g3]) rfl ⟨rfl, (((hb.setCell (Nat.le_refl _) _).setCell (Nat.le_refl _) _).setCell (Nat.le_refl _) _).setCell (Nat.le_refl _) _⟩
      · rw [if_neg (fun c => hs (hd1.1 c))]
        have hor : q1 = true ∨ (q1 = false ∧ q2 = true) := by
          cases q1
          · cases q2
            · exact absurd ⟨rfl, rfl⟩ hs
            · exact .inr ⟨rfl, rfl⟩
          · exact .inl rfl
        obtain ⟨m, hm2⟩ : ∃ m, r.length = m := ⟨_, rfl⟩
        have szr : (str r).size = m := by rw [str_size, hm2]
        have hmn : m ≤ 100000 := by omega
        have HE := fun w => refFindEndC r m w hm2 (by unfold maxLen; omega)
        have hkle := findS_le r [47, 63, 35]
        rw [hm2] at hkle
        have hx3 : (str r).extract 0 (findS r [47, 63, 35]) = str (headU r) := by rw [str_extract]; simp [headU]
        have hhl : (headU r).length = findS r [47, 63, 35] := by unfold headU; rw [List.length_take]; omega
        have HN := fun w => refUNameC (headU r) (findS r [47, 63, 35]) w hhl (by omega)
        have hNle := nameN_le (headU r)
        rw [hhl] at hNle
        have hx4 : (str r).extract 0 (nameN (headU r)) = str (r.take (nameN (headU r))) := by rw [str_extract]; simp
        have HL2 := fun w => refLowerC (r.take (nameN (headU r))) (nameN (headU r)) w (by rw [List.length_take]; omega) (by unfold maxLen; omega)
        change ∀ w, Calls _ _ _ w (GivesStr (hostU r) w) at HL2
        unfold GivesStr at HL2
        have hhost : (hostU r).length = nameN (headU r) := by unfold hostU; rw [List.length_map, List.length_take]; omega
        have HC := fun w => refCanonC (hostU r) (nameN (headU r)) w hhost (by unfold maxLen; omega)
        have hx5 : (str r).extract (nameN (headU r)) (findS r [47, 63, 35]) = str (portU r) := by
          rw [str_extract]
          unfold portU
          rw [← List.drop_take]
          rfl
        have hpl : (portU r).length = findS r [47, 63, 35] - nameN (headU r) := by unfold portU; rw [List.length_drop, hhl]
        have HP := fun w => refPortC (portU r) _ w hpl (by omega)
        have hx6 : (str r).extract (findS r [47, 63, 35]) m = str (r.drop (findS r [47, 63, 35])) := by rw [str_extract, List.take_of_length_le (by rw [List.length_drop]; omega)]
        have hdl : (r.drop (findS r [47, 63, 35])).length = m - findS r [47, 63, 35] := by rw [List.length_drop, hm2]
        generalize headU r = hd at *
        generalize hostU r = ho at *
        generalize portU r = po at *
        generalize r.take (nameN hd) = rt at *
        generalize hN0 : nameN hd = N at *
        generalize hK0 : findS r [47, 63, 35] = K at *
        generalize r.drop K = p0 at *
        have v1 : (K : Int) ≤ (m : Int) := by omega
        have v2 : (N : Int) ≤ (K : Int) := by omega
        have v3 : (N : Int) ≤ (m : Int) := by omega
        have v4 : (0 : Int) ≤ (K : Int) := by omega
        have v5 : (0 : Int) ≤ (N : Int) := by omega
        clear hm2 hhl hhost hpl hN0 hK0 hd1 hs
        by_cases hcp : canonB ho = false ∨ portB po = false
        · rw [if_pos hcp]
          have HT := HE
          obtain ⟨cb, hcb⟩ : ∃ c, canonB ho = c := ⟨_, rfl⟩
          obtain ⟨pb, hpb⟩ : ∃ c, portB po = c := ⟨_, rfl⟩
          rw [hcb] at HC hcp
          rw [hpb] at HP hcp
          clear hcb hpb hdl hx6
          have hor2 : cb = false ∨ (cb = true ∧ pb = false) := by
            cases cb
            · exact .inl rfl
            · exact .inr ⟨rfl, hcp.resolve_left (fun h => by cases h)⟩
          clear hcp
          rcases hor with rfl | ⟨rfl, rfl⟩ <;> rcases hor2 with rfl | ⟨rfl, rfl⟩
          all_goals
            go_enter Tryd.func8, Tryd.ntmps8
            go_wp2_with (first
              | (go_at_call 21; (with_reducible refine (HW _).mono ?_); rintro e w1 ⟨rfl, rfl⟩)
              | (go_at_call 22; (with_reducible refine (HV _).mono ?_); rintro e w1 ⟨rfl, rfl⟩)
              | (go_at_call 23; (with_reducible refine (HL _).mono ?_); rintro e w1 ⟨rfl, hx⟩; have hR0 := hR0.below hx hR0.lt; have hb := hb.trans (hx.mono hb.size); clear hx; obtain ⟨r0, f0⟩ := rows_at hR0 0 (by decide); obtain ⟨r1, f1⟩ := rows_at hR0 1 (by decide); obtain ⟨r2, f2⟩ := rows_at hR0 2 (by decide); obtain ⟨r3, f3⟩ := rows_at hR0 3 (by decide))
              | (go_at_call 23; (with_reducible refine (HL2 _).mono ?_); rintro e w1 ⟨rfl, hx⟩; have hR0 := hR0.below hx hR0.lt; have hb := hb.trans (hx.mono hb.size); clear hx; obtain ⟨r0, f0⟩ := rows_at hR0 0 (by decide); obtain ⟨r1, f1⟩ := rows_at hR0 1 (by decide); obtain ⟨r2, f2⟩ := rows_at hR0 2 (by decide); obtain ⟨r3, f3⟩ := rows_at hR0 3 (by decide))
              | (go_at_call 24; (with_reducible refine (HE _).mono ?_); rintro e w1 ⟨rfl, rfl⟩)
              | (go_at_call 24; (with_reducible refine (HT _).mono ?_); rintro e w1 ⟨rfl, rfl⟩)
              | (go_at_call 25; (with_reducible refine (HN _).mono ?_); rintro e w1 ⟨rfl, rfl⟩)
              | (go_at_call 26; (with_reducible refine (HC _).mono ?_); rintro e w1 ⟨rfl, hx⟩; have hR0 := hR0.below hx hR0.lt; have hb := hb.trans (hx.mono hb.size); clear hx; obtain ⟨r0, f0⟩ := rows_at hR0 0 (by decide); obtain ⟨r1, f1⟩ := rows_at hR0 1 (by decide); obtain ⟨r2, f2⟩ := rows_at hR0 2 (by decide); obtain ⟨r3, f3⟩ := rows_at hR0 3 (by decide))
              | (go_at_call 27; (with_reducible refine (HP _).mono ?_); rintro e w1 ⟨rfl, rfl⟩))
            obtain ⟨g0, g1, g2, g3⟩ := hR0.set (.string (str [])) (.string (str [])) (.bool false) (.bool false)
            exact bodyPost_ret (v := .tuple #[.agg #[.string (str []), .string (str []), .bool false, .bool false], .int .i64 1]) (by simp [results, Tryd.results8, go_sem, g0, g1, g2, g3]) rfl ⟨rfl, (((hb.setCell (Nat.le_refl _) _).setCell (Nat.le_refl _) _).setCell (Nat.le_refl _) _).setCell (Nat.le_refl _) _⟩
        · rw [if_neg hcp]
          have hcb : canonB ho = true := by cases c : canonB ho with | true => rfl | false => exact absurd (.inl c) hcp
          have hpb : portB po = true := by cases c : portB po with | true => rfl | false => exact absurd (.inr c) hcp
          rw [hcb] at HC
          rw [hpb] at HP
          obtain ⟨M, hM⟩ : ∃ M, p0.length = M := ⟨_, rfl⟩
          have szp : (str p0).size = M := by rw [str_size, hM]
          have HT := fun w => refFindTwoC p0 M w hM (by unfold maxLen; omega)
          have hFle := findS_le p0 [63, 35]
          rw [hM] at hFle
          have hx7 : (str p0).extract 0 (findS p0 [63, 35]) = str (p0.take (findS p0 [63, 35])) := by rw [str_extract]; simp
          have hyl : (p0.take (findS p0 [63, 35])).length = findS p0 [63, 35] := by rw [List.length_take]; omega
          have v6 : (findS p0 [63, 35] : Int) ≤ (M : Int) := by omega
          have v7 : (0 : Int) ≤ (findS p0 [63, 35] : Int) := by omega
          have hMn : M ≤ 100000 := by omega
          unfold pathU
          generalize p0.take (findS p0 [63, 35]) = y at *
          generalize findS p0 [63, 35] = F at *
          clear hcp hcb hpb hdl hM
          by_cases hy0 : y = []
          · subst hy0
            rw [if_pos (.inl rfl)]
            have e47 : ({ data := #[47] } : ByteArray) = str [47] := rfl
            have hcat : str [47] ++ str [] = str [47] := by rw [str_append]; rfl
            rcases hor with rfl | ⟨rfl, rfl⟩
            · go_enter Tryd.func8, Tryd.ntmps8
              go_wp2_with (first
                | (go_at_call 21; (with_reducible refine (HW _).mono ?_); rintro e w1 ⟨rfl, rfl⟩)
                | (go_at_call 22; (with_reducible refine (HV _).mono ?_); rintro e w1 ⟨rfl, rfl⟩)
                | (go_at_call 23; (with_reducible refine (HL _).mono ?_); rintro e w1 ⟨rfl, hx⟩; have hR0 := hR0.below hx hR0.lt; have hb := hb.trans (hx.mono hb.size); clear hx; obtain ⟨r0, f0⟩ := rows_at hR0 0 (by decide); obtain ⟨r1, f1⟩ := rows_at hR0 1 (by decide); obtain ⟨r2, f2⟩ := rows_at hR0 2 (by decide); obtain ⟨r3, f3⟩ := rows_at hR0 3 (by decide))
                | (go_at_call 23; (with_reducible refine (HL2 _).mono ?_); rintro e w1 ⟨rfl, hx⟩; have hR0 := hR0.below hx hR0.lt; have hb := hb.trans (hx.mono hb.size); clear hx; obtain ⟨r0, f0⟩ := rows_at hR0 0 (by decide); obtain ⟨r1, f1⟩ := rows_at hR0 1 (by decide); obtain ⟨r2, f2⟩ := rows_at hR0 2 (by decide); obtain ⟨r3, f3⟩ := rows_at hR0 3 (by decide))
                | (go_at_call 24; (with_reducible refine (HE _).mono ?_); rintro e w1 ⟨rfl, rfl⟩)
                | (go_at_call 24; (with_reducible refine (HT _).mono ?_); rintro e w1 ⟨rfl, rfl⟩)
                | (go_at_call 25; (with_reducible refine (HN _).mono ?_); rintro e w1 ⟨rfl, rfl⟩)
                | (go_at_call 26; (with_reducible refine (HC _).mono ?_); rintro e w1 ⟨rfl, hx⟩; have hR0 := hR0.below hx hR0.lt; have hb := hb.trans (hx.mono hb.size); clear hx; obtain ⟨r0, f0⟩ := rows_at hR0 0 (by decide); obtain ⟨r1, f1⟩ := rows_at hR0 1 (by decide); obtain ⟨r2, f2⟩ := rows_at hR0 2 (by decide); obtain ⟨r3, f3⟩ := rows_at hR0 3 (by decide))
                | (go_at_call 27; (with_reducible refine (HP _).mono ?_); rintro e w1 ⟨rfl, rfl⟩))
              obtain ⟨g0, g1, g2, g3⟩ := hR0.set (.string (str ho)) (.string (str [47])) (.bool q2) (.bool false)
              exact bodyPost_ret (v := .tuple #[.agg #[.string (str ho), .string (str [47]), .bool q2, .bool false], .int .i64 0]) (by simp [results, Tryd.results8, go_sem, g0, g1, g2, g3]) rfl ⟨rfl, (((hb.setCell (Nat.le_refl _) _).setCell (Nat.le_refl _) _).setCell (Nat.le_refl _) _).setCell (Nat.le_refl _) _⟩
            · go_enter Tryd.func8, Tryd.ntmps8
              go_wp2_with (first
                | (go_at_call 21; (with_reducible refine (HW _).mono ?_); rintro e w1 ⟨rfl, rfl⟩)
                | (go_at_call 22; (with_reducible refine (HV _).mono ?_); rintro e w1 ⟨rfl, rfl⟩)
                | (go_at_call 23; (with_reducible refine (HL _).mono ?_); rintro e w1 ⟨rfl, hx⟩; have hR0 := hR0.below hx hR0.lt; have hb := hb.trans (hx.mono hb.size); clear hx; obtain ⟨r0, f0⟩ := rows_at hR0 0 (by decide); obtain ⟨r1, f1⟩ := rows_at hR0 1 (by decide); obtain ⟨r2, f2⟩ := rows_at hR0 2 (by decide); obtain ⟨r3, f3⟩ := rows_at hR0 3 (by decide))
                | (go_at_call 23; (with_reducible refine (HL2 _).mono ?_); rintro e w1 ⟨rfl, hx⟩; have hR0 := hR0.below hx hR0.lt; have hb := hb.trans (hx.mono hb.size); clear hx; obtain ⟨r0, f0⟩ := rows_at hR0 0 (by decide); obtain ⟨r1, f1⟩ := rows_at hR0 1 (by decide); obtain ⟨r2, f2⟩ := rows_at hR0 2 (by decide); obtain ⟨r3, f3⟩ := rows_at hR0 3 (by decide))
                | (go_at_call 24; (with_reducible refine (HE _).mono ?_); rintro e w1 ⟨rfl, rfl⟩)
                | (go_at_call 24; (with_reducible refine (HT _).mono ?_); rintro e w1 ⟨rfl, rfl⟩)
                | (go_at_call 25; (with_reducible refine (HN _).mono ?_); rintro e w1 ⟨rfl, rfl⟩)
                | (go_at_call 26; (with_reducible refine (HC _).mono ?_); rintro e w1 ⟨rfl, hx⟩; have hR0 := hR0.below hx hR0.lt; have hb := hb.trans (hx.mono hb.size); clear hx; obtain ⟨r0, f0⟩ := rows_at hR0 0 (by decide); obtain ⟨r1, f1⟩ := rows_at hR0 1 (by decide); obtain ⟨r2, f2⟩ := rows_at hR0 2 (by decide); obtain ⟨r3, f3⟩ := rows_at hR0 3 (by decide))
                | (go_at_call 27; (with_reducible refine (HP _).mono ?_); rintro e w1 ⟨rfl, rfl⟩))
              obtain ⟨g0, g1, g2, g3⟩ := hR0.set (.string (str ho)) (.string (str [47])) (.bool true) (.bool false)
              exact bodyPost_ret (v := .tuple #[.agg #[.string (str ho), .string (str [47]), .bool true, .bool false], .int .i64 0]) (by simp [results, Tryd.results8, go_sem, g0, g1, g2, g3]) rfl ⟨rfl, (((hb.setCell (Nat.le_refl _) _).setCell (Nat.le_refl _) _).setCell (Nat.le_refl _) _).setCell (Nat.le_refl _) _⟩
          · have hyn : (y == []) = false := by rw [beq_eq_false_iff_ne]; exact hy0
            have hF0 : 0 < F := by
              rcases Nat.eq_zero_or_pos F with h | h
              · exact absurd (List.eq_nil_of_length_eq_zero (hyl.trans h)) hy0
              · exact h
            have hF0' : (0 : Int) < (F : Int) := by omega
            have szy : (str y).size = F := by rw [str_size, hyl]
            have i0 := fun w => first_str (P := Tryd.prog) w 9 y Tryd.underlying9 (by omega)
            obtain ⟨b0, e0, f0⟩ : ∃ b0, (((y.getD 0 0).toNat : Int) == 47) = b0 ∧ (y.getD 0 0 == 47) = b0 := ⟨_, rfl, u8_is _ 47 (by omega)⟩
            have e0' : (((y.getD 0 0).toNat : Int) != 47) = !b0 := by rw [bne, e0]
            cases b0 with
            | true =>
              have hy47 : y.getD 0 0 = 47 := beq_iff_eq.1 f0
              rw [if_neg (by rintro (c | c); exact hy0 c; exact c hy47)]
              rw [Bool.not_true] at e0'
              generalize (y.getD 0 0).toNat = x at *
              clear hy47 f0 hy0 hyl
              rcases hor with rfl | ⟨rfl, rfl⟩
              · go_enter Tryd.func8, Tryd.ntmps8
                go_wp2_with (first
                  | (go_at_call 21; (with_reducible refine (HW _).mono ?_); rintro e w1 ⟨rfl, rfl⟩)
                  | (go_at_call 22; (with_reducible refine (HV _).mono ?_); rintro e w1 ⟨rfl, rfl⟩)
                  | (go_at_call 23; (with_reducible refine (HL _).mono ?_); rintro e w1 ⟨rfl, hx⟩; have hR0 := hR0.below hx hR0.lt; have hb := hb.trans (hx.mono hb.size); clear hx; obtain ⟨r0, f0⟩ := rows_at hR0 0 (by decide); obtain ⟨r1, f1⟩ := rows_at hR0 1 (by decide); obtain ⟨r2, f2⟩ := rows_at hR0 2 (by decide); obtain ⟨r3, f3⟩ := rows_at hR0 3 (by decide))
                  | (go_at_call 23; (with_reducible refine (HL2 _).mono ?_); rintro e w1 ⟨rfl, hx⟩; have hR0 := hR0.below hx hR0.lt; have hb := hb.trans (hx.mono hb.size); clear hx; obtain ⟨r0, f0⟩ := rows_at hR0 0 (by decide); obtain ⟨r1, f1⟩ := rows_at hR0 1 (by decide); obtain ⟨r2, f2⟩ := rows_at hR0 2 (by decide); obtain ⟨r3, f3⟩ := rows_at hR0 3 (by decide))
                  | (go_at_call 24; (with_reducible refine (HE _).mono ?_); rintro e w1 ⟨rfl, rfl⟩)
                  | (go_at_call 24; (with_reducible refine (HT _).mono ?_); rintro e w1 ⟨rfl, rfl⟩)
                  | (go_at_call 25; (with_reducible refine (HN _).mono ?_); rintro e w1 ⟨rfl, rfl⟩)
                  | (go_at_call 26; (with_reducible refine (HC _).mono ?_); rintro e w1 ⟨rfl, hx⟩; have hR0 := hR0.below hx hR0.lt; have hb := hb.trans (hx.mono hb.size); clear hx; obtain ⟨r0, f0⟩ := rows_at hR0 0 (by decide); obtain ⟨r1, f1⟩ := rows_at hR0 1 (by decide); obtain ⟨r2, f2⟩ := rows_at hR0 2 (by decide); obtain ⟨r3, f3⟩ := rows_at hR0 3 (by decide))
                  | (go_at_call 27; (with_reducible refine (HP _).mono ?_); rintro e w1 ⟨rfl, rfl⟩))
                obtain ⟨g0, g1, g2, g3⟩ := hR0.set (.string (str ho)) (.string (str y)) (.bool q2) (.bool false)
                exact bodyPost_ret (v := .tuple #[.agg #[.string (str ho), .string (str y), .bool q2, .bool false], .int .i64 0]) (by simp [results, Tryd.results8, go_sem, g0, g1, g2, g3]) rfl ⟨rfl, (((hb.setCell (Nat.le_refl _) _).setCell (Nat.le_refl _) _).setCell (Nat.le_refl _) _).setCell (Nat.le_refl _) _⟩
              · go_enter Tryd.func8, Tryd.ntmps8
                go_wp2_with (first
                  | (go_at_call 21; (with_reducible refine (HW _).mono ?_); rintro e w1 ⟨rfl, rfl⟩)
                  | (go_at_call 22; (with_reducible refine (HV _).mono ?_); rintro e w1 ⟨rfl, rfl⟩)
                  | (go_at_call 23; (with_reducible refine (HL _).mono ?_); rintro e w1 ⟨rfl, hx⟩; have hR0 := hR0.below hx hR0.lt; have hb := hb.trans (hx.mono hb.size); clear hx; obtain ⟨r0, f0⟩ := rows_at hR0 0 (by decide); obtain ⟨r1, f1⟩ := rows_at hR0 1 (by decide); obtain ⟨r2, f2⟩ := rows_at hR0 2 (by decide); obtain ⟨r3, f3⟩ := rows_at hR0 3 (by decide))
                  | (go_at_call 23; (with_reducible refine (HL2 _).mono ?_); rintro e w1 ⟨rfl, hx⟩; have hR0 := hR0.below hx hR0.lt; have hb := hb.trans (hx.mono hb.size); clear hx; obtain ⟨r0, f0⟩ := rows_at hR0 0 (by decide); obtain ⟨r1, f1⟩ := rows_at hR0 1 (by decide); obtain ⟨r2, f2⟩ := rows_at hR0 2 (by decide); obtain ⟨r3, f3⟩ := rows_at hR0 3 (by decide))
                  | (go_at_call 24; (with_reducible refine (HE _).mono ?_); rintro e w1 ⟨rfl, rfl⟩)
                  | (go_at_call 24; (with_reducible refine (HT _).mono ?_); rintro e w1 ⟨rfl, rfl⟩)
                  | (go_at_call 25; (with_reducible refine (HN _).mono ?_); rintro e w1 ⟨rfl, rfl⟩)
                  | (go_at_call 26; (with_reducible refine (HC _).mono ?_); rintro e w1 ⟨rfl, hx⟩; have hR0 := hR0.below hx hR0.lt; have hb := hb.trans (hx.mono hb.size); clear hx; obtain ⟨r0, f0⟩ := rows_at hR0 0 (by decide); obtain ⟨r1, f1⟩ := rows_at hR0 1 (by decide); obtain ⟨r2, f2⟩ := rows_at hR0 2 (by decide); obtain ⟨r3, f3⟩ := rows_at hR0 3 (by decide))
                  | (go_at_call 27; (with_reducible refine (HP _).mono ?_); rintro e w1 ⟨rfl, rfl⟩))
                obtain ⟨g0, g1, g2, g3⟩ := hR0.set (.string (str ho)) (.string (str y)) (.bool true) (.bool false)
                exact bodyPost_ret (v := .tuple #[.agg #[.string (str ho), .string (str y), .bool true, .bool false], .int .i64 0]) (by simp [results, Tryd.results8, go_sem, g0, g1, g2, g3]) rfl ⟨rfl, (((hb.setCell (Nat.le_refl _) _).setCell (Nat.le_refl _) _).setCell (Nat.le_refl _) _).setCell (Nat.le_refl _) _⟩
            | false =>
              have hy47 : y.getD 0 0 ≠ 47 := beq_eq_false_iff_ne.1 f0
              rw [if_pos (.inr hy47)]
              rw [Bool.not_false] at e0'
              have ha := fun (w : World) => run_add_str (P := Tryd.prog) w [47] y (by simp; omega)
              have e47 : ({ data := #[47] } : ByteArray) = str [47] := rfl
              have ecat : [47] ++ y = 47 :: y := rfl
              rw [ecat] at ha
              rw [← e47] at ha
              generalize (y.getD 0 0).toNat = x at *
              generalize 47 :: y = y2 at *
              clear hy47 f0 hy0 hyl ecat e47
              rcases hor with rfl | ⟨rfl, rfl⟩
              · go_enter Tryd.func8, Tryd.ntmps8
                go_wp2_with (first
                  | (go_at_call 21; (with_reducible refine (HW _).mono ?_); rintro e w1 ⟨rfl, rfl⟩)
                  | (go_at_call 22; (with_reducible refine (HV _).mono ?_); rintro e w1 ⟨rfl, rfl⟩)
                  | (go_at_call 23; (with_reducible refine (HL _).mono ?_); rintro e w1 ⟨rfl, hx⟩; have hR0 := hR0.below hx hR0.lt; have hb := hb.trans (hx.mono hb.size); clear hx; obtain ⟨r0, f0⟩ := rows_at hR0 0 (by decide); obtain ⟨r1, f1⟩ := rows_at hR0 1 (by decide); obtain ⟨r2, f2⟩ := rows_at hR0 2 (by decide); obtain ⟨r3, f3⟩ := rows_at hR0 3 (by decide))
                  | (go_at_call 23; (with_reducible refine (HL2 _).mono ?_); rintro e w1 ⟨rfl, hx⟩; have hR0 := hR0.below hx hR0.lt; have hb := hb.trans (hx.mono hb.size); clear hx; obtain ⟨r0, f0⟩ := rows_at hR0 0 (by decide); obtain ⟨r1, f1⟩ := rows_at hR0 1 (by decide); obtain ⟨r2, f2⟩ := rows_at hR0 2 (by decide); obtain ⟨r3, f3⟩ := rows_at hR0 3 (by decide))
                  | (go_at_call 24; (with_reducible refine (HE _).mono ?_); rintro e w1 ⟨rfl, rfl⟩)
                  | (go_at_call 24; (with_reducible refine (HT _).mono ?_); rintro e w1 ⟨rfl, rfl⟩)
                  | (go_at_call 25; (with_reducible refine (HN _).mono ?_); rintro e w1 ⟨rfl, rfl⟩)
                  | (go_at_call 26; (with_reducible refine (HC _).mono ?_); rintro e w1 ⟨rfl, hx⟩; have hR0 := hR0.below hx hR0.lt; have hb := hb.trans (hx.mono hb.size); clear hx; obtain ⟨r0, f0⟩ := rows_at hR0 0 (by decide); obtain ⟨r1, f1⟩ := rows_at hR0 1 (by decide); obtain ⟨r2, f2⟩ := rows_at hR0 2 (by decide); obtain ⟨r3, f3⟩ := rows_at hR0 3 (by decide))
                  | (go_at_call 27; (with_reducible refine (HP _).mono ?_); rintro e w1 ⟨rfl, rfl⟩))
                obtain ⟨g0, g1, g2, g3⟩ := hR0.set (.string (str ho)) (.string (str y2)) (.bool q2) (.bool false)
                exact bodyPost_ret (v := .tuple #[.agg #[.string (str ho), .string (str y2), .bool q2, .bool false], .int .i64 0]) (by simp [results, Tryd.results8, go_sem, g0, g1, g2, g3]) rfl ⟨rfl, (((hb.setCell (Nat.le_refl _) _).setCell (Nat.le_refl _) _).setCell (Nat.le_refl _) _).setCell (Nat.le_refl _) _⟩
              · go_enter Tryd.func8, Tryd.ntmps8
                go_wp2_with (first
                  | (go_at_call 21; (with_reducible refine (HW _).mono ?_); rintro e w1 ⟨rfl, rfl⟩)
                  | (go_at_call 22; (with_reducible refine (HV _).mono ?_); rintro e w1 ⟨rfl, rfl⟩)
                  | (go_at_call 23; (with_reducible refine (HL _).mono ?_); rintro e w1 ⟨rfl, hx⟩; have hR0 := hR0.below hx hR0.lt; have hb := hb.trans (hx.mono hb.size); clear hx; obtain ⟨r0, f0⟩ := rows_at hR0 0 (by decide); obtain ⟨r1, f1⟩ := rows_at hR0 1 (by decide); obtain ⟨r2, f2⟩ := rows_at hR0 2 (by decide); obtain ⟨r3, f3⟩ := rows_at hR0 3 (by decide))
                  | (go_at_call 23; (with_reducible refine (HL2 _).mono ?_); rintro e w1 ⟨rfl, hx⟩; have hR0 := hR0.below hx hR0.lt; have hb := hb.trans (hx.mono hb.size); clear hx; obtain ⟨r0, f0⟩ := rows_at hR0 0 (by decide); obtain ⟨r1, f1⟩ := rows_at hR0 1 (by decide); obtain ⟨r2, f2⟩ := rows_at hR0 2 (by decide); obtain ⟨r3, f3⟩ := rows_at hR0 3 (by decide))
                  | (go_at_call 24; (with_reducible refine (HE _).mono ?_); rintro e w1 ⟨rfl, rfl⟩)
                  | (go_at_call 24; (with_reducible refine (HT _).mono ?_); rintro e w1 ⟨rfl, rfl⟩)
                  | (go_at_call 25; (with_reducible refine (HN _).mono ?_); rintro e w1 ⟨rfl, rfl⟩)
                  | (go_at_call 26; (with_reducible refine (HC _).mono ?_); rintro e w1 ⟨rfl, hx⟩; have hR0 := hR0.below hx hR0.lt; have hb := hb.trans (hx.mono hb.size); clear hx; obtain ⟨r0, f0⟩ := rows_at hR0 0 (by decide); obtain ⟨r1, f1⟩ := rows_at hR0 1 (by decide); obtain ⟨r2, f2⟩ := rows_at hR0 2 (by decide); obtain ⟨r3, f3⟩ := rows_at hR0 3 (by decide))
                  | (go_at_call 27; (with_reducible refine (HP _).mono ?_); rintro e w1 ⟨rfl, rfl⟩))
                obtain ⟨g0, g1, g2, g3⟩ := hR0.set (.string (str ho)) (.string (str y2)) (.bool true) (.bool false)
                exact bodyPost_ret (v := .tuple #[.agg #[.string (str ho), .string (str y2), .bool true, .bool false], .int .i64 0]) (by simp [results, Tryd.results8, go_sem, g0, g1, g2, g3]) rfl ⟨rfl, (((hb.setCell (Nat.le_refl _) _).setCell (Nat.le_refl _) _).setCell (Nat.le_refl _) _).setCell (Nat.le_refl _) _⟩
end Go.Proofs.YtgaodaimkojmhaaDoor
