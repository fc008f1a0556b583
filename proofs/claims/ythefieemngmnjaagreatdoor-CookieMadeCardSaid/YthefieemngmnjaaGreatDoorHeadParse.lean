/- Contracts of layer 12: Parse. -/
import Derived.Test.YthefieemngmnjaaGreatDoorLibAA
import Derived.Test.YthefieemngmnjaaGreatDoorLibAE
namespace Go.Proofs.YthefieemngmnjaaGreatDoor
open Go.RowKit
set_option linter.unusedVariables false

theorem infoHeadPair : (Tryz.prog.info? 47).map (fun i => (i.zero, i.size, i.bytes)) = some (some (.agg #[.string ⟨#[]⟩, .string ⟨#[]⟩]), 2, 32) := by kernel_rfl

theorem Reads.setOther {w : World} {g o : Nat} {xs : List Value} (h : Reads w (some ⟨g, o, none⟩) xs) {p : Addr} (hne : p.block ≠ g) (u : Value) : Reads (w.setCell p u) (some ⟨g, o, none⟩) xs := fun i v hv => by
  obtain ⟨b, off, e, hc⟩ := h i v hv
  cases e
  exact ⟨g, o, rfl, (World.cell?_of_block (heap_setCell_other w p g u (Ne.symm hne))).trans hc⟩

theorem trim_len_le (l : List UInt8) : (trimL l).length ≤ l.length := by
  unfold trimL
  simp
  omega

theorem trim_nil : trimL ([] : List UInt8) = [] := by rfl

theorem pair_cut (x : List UInt8) : pairL x = (trimL (cutL x 61).1, trimL (cutL x 61).2.1) := by
  unfold pairL cutL
  by_cases h : x.findIdx (· == 61) = x.length
  · rw [if_pos h, if_pos h, trim_nil]
  · rw [if_neg h, if_neg h]

theorem cut_is (x : List UInt8) : (cutL x 61).2.2 = false ↔ x.findIdx (· == 61) = x.length := by
  unfold cutL
  by_cases h : x.findIdx (· == 61) = x.length
  · rw [if_pos h]; simp [h]
  · rw [if_neg h]; simp [h]

theorem cut_len (x : List UInt8) : (cutL x 61).1.length ≤ x.length ∧ (cutL x 61).2.1.length ≤ x.length := by
  unfold cutL
  by_cases h : x.findIdx (· == 61) = x.length
  · rw [if_pos h]; simp
  · rw [if_neg h]; simp; omega

theorem headSplitC (l : List UInt8) (n : Nat) (w : World) (hl : l.length = n) (hm : n ≤ 1000000000000) : Calls Tryz.prog 48 #[.string (str l), .int .u8 59] w (GivesStrs (splitL l 59) w) := splitC l 59 n w hl hm

theorem headCutC (l : List UInt8) (n : Nat) (w : World) (hl : l.length = n) (hm : n ≤ maxLen) :
    Calls Tryz.prog 49 #[.string (str l), .int .u8 61] w fun e w' => e = .returned (.tuple #[.string (str (cutL l 61).1), .string (str (cutL l 61).2.1), .bool (cutL l 61).2.2]) ∧ Below w.heap.size w w' := cutC l 61 n w hl hm

/-- What a header is, by its first part's cut. -/
theorem parse_first {s : List UInt8} (h1 : s.length ≤ 4096) (h2 : s.any ctl = false) :
    let c := cutL ((splitL s 59).getD 0 []) 61
    (c.2.2 = false ∨ trimL c.1 = [] → parseH s = (([], []), [], 1)) ∧
    (c.2.2 = true → trimL c.1 ≠ [] → 256 < (trimL c.1).length ∨ 1024 < (trimL c.2.1).length → parseH s = (([], []), [], 3)) ∧
    (c.2.2 = true → trimL c.1 ≠ [] → (trimL c.1).length ≤ 256 → (trimL c.2.1).length ≤ 1024 → parseH s = ((trimL c.1, trimL c.2.1), ((splitL s 59).drop 1).map pairL, 0)) := by
  intro c
  have hp := pair_cut ((splitL s 59).getD 0 [])
  have hi := cut_is ((splitL s 59).getD 0 [])
  have e : parseH s = if ((splitL s 59).getD 0 []).findIdx (· == 61) = ((splitL s 59).getD 0 []).length ∨ (pairL ((splitL s 59).getD 0 [])).1 = [] then (([], []), [], 1)
    else if 256 < (pairL ((splitL s 59).getD 0 [])).1.length ∨ 1024 < (pairL ((splitL s 59).getD 0 [])).2.length then (([], []), [], 3)
    else (pairL ((splitL s 59).getD 0 []), ((splitL s 59).drop 1).map pairL, 0) := by
    unfold parseH
    rw [if_neg (by omega), if_neg (by rw [h2]; decide)]
  rw [e, hp]
  refine ⟨fun h => ?_, fun ht hn h => ?_, fun ht hn h3 h4 => ?_⟩
  · rw [if_pos (h.imp hi.1 id)]
  · rw [if_neg (fun h' => h'.elim (fun h' => by have := hi.2 h'; rw [show (cutL _ 61).2.2 = true from ht] at this; cases this) hn), if_pos h]
  · rw [if_neg (fun h' => h'.elim (fun h' => by have := hi.2 h'; rw [show (cutL _ 61).2.2 = true from ht] at this; cases this) hn), if_neg (fun h' => h'.elim (fun h' => absurd h' (Nat.not_lt.2 h3)) (fun h' => absurd h' (Nat.not_lt.2 h4)))]

set_option maxHeartbeats 2000000 in
set_option maxRecDepth 100000 in
theorem headParseC (s : List UInt8) (n : Nat) (w : World) (hs : s.length = n) (hm : n ≤ 100000) :
    Calls Tryz.prog 20 #[.string (str s)] w (HParseIs s w) := by
  have hb := Below.refl w.heap.size w
  have o2 := ObjAt.new w #[.string ⟨#[]⟩, .string ⟨#[]⟩] 47
  have hb1 := below_alloc w (.cells #[.string ⟨#[]⟩, .string ⟨#[]⟩] 47)
  have hsz : (str s).size = n := by rw [str_size, hs]
  unfold HParseIs valP
  by_cases h1 : 4096 < n
  · have hp : parseH s = (([], []), [], 3) := by unfold parseH; rw [if_pos (by rw [hs]; exact h1)]
    rw [hp]
    have h1' : (4096 : Int) < (n : Int) := by omega
    clear hs hm h1 hp
    have d0 := o2.cell 0 rfl
    have d1 := o2.cell 1 rfl
    have f0 := o2.free 0
    have f1 := o2.free 1
    generalize hv : w.alloc (.cells #[.string ⟨#[]⟩, .string ⟨#[]⟩] 47) = v at *
    go_enter Tryz.func20, Tryz.ntmps20
    go_wp2
    go_step3
    go_wp2
    rw [Exit.noGoto_ret]
    have o3 := (o2.set 0 (.string ⟨#[]⟩)).set 1 (.string ⟨#[]⟩)
    have r0 := o3.cell 0 rfl
    have r1 := o3.cell 1 rfl
    exact bodyPost_ret (v := .tuple #[.agg #[.string ⟨#[]⟩, .string ⟨#[]⟩], .slice none 0 0, .int .i64 3]) (by simp [results, Tryz.results20, go_sem, r0, r1]) rfl ⟨⟨none, 0, 0, rfl, RowOf.none _ _ _⟩, (hb1.setCell (p := ⟨w.heap.size, 0, none⟩) (Nat.le_refl _) _).setCell (p := ⟨w.heap.size, 1, none⟩) (Nat.le_refl _) _⟩
  have h1' : ¬ (4096 : Int) < (n : Int) := by omega
  have HC := fun w => controlC s n w hs (by unfold maxLen; omega)
  by_cases h2 : s.any ctl = true
  · have hp : parseH s = (([], []), [], 1) := by unfold parseH; rw [if_neg (by rw [hs]; exact h1), if_pos h2]
    rw [hp]
    rw [h2] at HC
    clear hs hm h1 h2 hp
    have d0 := o2.cell 0 rfl
    have d1 := o2.cell 1 rfl
    have f0 := o2.free 0
    have f1 := o2.free 1
    generalize hv : w.alloc (.cells #[.string ⟨#[]⟩, .string ⟨#[]⟩] 47) = v at *
    go_enter Tryz.func20, Tryz.ntmps20
    go_wp2
    go_step3
    go_wp2_with (go_at_call 47; (with_reducible refine (HC _).mono ?_); rintro e w1 ⟨rfl, rfl⟩)
    rw [Exit.noGoto_ret]
    have o3 := (o2.set 0 (.string ⟨#[]⟩)).set 1 (.string ⟨#[]⟩)
    have r0 := o3.cell 0 rfl
    have r1 := o3.cell 1 rfl
    exact bodyPost_ret (v := .tuple #[.agg #[.string ⟨#[]⟩, .string ⟨#[]⟩], .slice none 0 0, .int .i64 1]) (by simp [results, Tryz.results20, go_sem, r0, r1]) rfl ⟨⟨none, 0, 0, rfl, RowOf.none _ _ _⟩, (hb1.setCell (p := ⟨w.heap.size, 0, none⟩) (Nat.le_refl _) _).setCell (p := ⟨w.heap.size, 1, none⟩) (Nat.le_refl _) _⟩
  have h2' := Bool.eq_false_iff.2 h2
  rw [h2'] at HC
  have HS := fun w => headSplitC s n w hs (by omega)
  obtain ⟨K, hK⟩ : ∃ K, (splitL s 59).length = K := ⟨_, rfl⟩
  have hK1 := splitL_pos s 59
  have hK2 := splitL_le s 59
  rw [hK] at hK1
  rw [hK, hs] at hK2
  have hparts := Lib.hid (show ∀ k, k < K → ((splitL s 59).getD k []).length ≤ n from fun k hk => by rw [← hs]; exact part_len s 59 k (by rw [hK]; exact hk))
  unfold GivesStrs at HS
  rw [hK] at HS
  have hF := Lib.hid (parse_first (by omega) h2')
  dsimp only at hF
  generalize splitL s 59 = parts at *
  have hKl : Hid (parts.length = K) := hK
  obtain ⟨i0, hi, hz0, hz1, hz2⟩ := info_parts infoHeadPair
  have x59 : ∀ w : World, _ := fun w : World => run_index_str (P := Tryz.prog) w 9 [59] .i64 0 Tryz.underlying9 (by decide)
  have x61 : ∀ w : World, _ := fun w : World => run_index_str (P := Tryz.prog) w 9 [61] .i64 0 Tryz.underlying9 (by decide)
  rw [show str [59] = ⟨#[59]⟩ from rfl, show ((([59] : List UInt8).getD 0 0).toNat : Int) = 59 from rfl, show ((0 : Nat) : Int) = 0 from rfl] at x59
  rw [show str [61] = ⟨#[61]⟩ from rfl, show ((([61] : List UInt8).getD 0 0).toNat : Int) = 61 from rfl, show ((0 : Nat) : Int) = 0 from rfl] at x61
  have hk := str_toList
  have hnil : str [] = ⟨#[]⟩ := rfl
  have o5 := ObjAt.new (w.alloc (.cells #[.string ⟨#[]⟩, .string ⟨#[]⟩] 47)) #[.string ⟨#[]⟩, .string ⟨#[]⟩] 47
  have o2' := o2.below (below_alloc (w.alloc (.cells #[.string ⟨#[]⟩, .string ⟨#[]⟩] 47)) (.cells #[.string ⟨#[]⟩, .string ⟨#[]⟩] 47)) o2.lt
  have hb2 := hb1.alloc hb1.size (.cells #[.string ⟨#[]⟩, .string ⟨#[]⟩] 47)
  rw [World.size_alloc] at o5
  clear hs h1 h2 h2' hK o2 hb1 hb
  generalize hv0 : (w.alloc (.cells #[.string ⟨#[]⟩, .string ⟨#[]⟩] 47)).alloc (.cells #[.string ⟨#[]⟩, .string ⟨#[]⟩] 47) = v0 at *
  go_enter Tryz.func20, Tryz.ntmps20
  go_wp2
  go_step3
  go_wp2_with (go_at_call 47; (with_reducible refine (HC _).mono ?_); rintro e w1 ⟨rfl, rfl⟩)
  go_step3
  go_wp2_with (first
    | (go_at_call 47; (with_reducible refine (HC _).mono ?_); rintro e w1 ⟨rfl, rfl⟩)
    | (go_at_call 48; (with_reducible refine (HS _).mono ?_); rintro e w2 ⟨a, c, rfl, ho, hx⟩; obtain ⟨g, rfl, hgb, hg⟩ := ho.head hK1; have hr := ho.reads; have o2 := o2'.below hx o2'.lt; have l5 := o5.lt; have o5 := o5.below hx o5.lt; have hb3 := hb2.trans (hx.mono hb2.size); have hw2 := Nat.le_trans (Nat.succ_le_of_lt l5) hx.size; clear hx))
  have hne5 : w.heap.size + 1 ≠ g := by omega
  have hr0 := Lib.hid hr
  have hO0 := Lib.hid (OwnZ.none encP 2 w2.heap.size 47 w2)
  have hs2 := Nat.le_refl w2.heap.size
  clear HC HS hr ho o2' hgb hb2
  go_loopw [6, 7, 25] (fun l e i wr => ∃ (k N : Nat) (a : Option Addr) (C : Nat) (u : List UInt8 × List UInt8), k ≤ K ∧ N = k - 1 ∧ l = .slice a N C ∧ e = .int .i64 0 ∧ i = .int .i64 (k : Int) ∧ Hid (OwnZ encP 2 w2.heap.size 47 a N C (((parts.drop 1).take (k - 1)).map pairL) wr) ∧
    ObjAt wr w.heap.size [.string ⟨#[]⟩, .string ⟨#[]⟩] ∧ ObjAt wr (w.heap.size + 1) [.string (str u.1), .string (str u.2)] ∧ Hid (Reads wr (some ⟨g, 0, none⟩) (strs parts)) ∧ (k = 0 → u = ([], []) ∧ a = none) ∧ (0 < k → parseH s = (u, (parts.drop 1).map pairL, 0)) ∧ w2.heap.size ≤ wr.heap.size ∧ Hid (Below w.heap.size w wr)) (fun _ _ i _ => K - (intOf i).toNat)
  case atStart => exact ⟨0, 0, none, 0, ([], []), Nat.zero_le _, rfl, rfl, rfl, rfl, hO0, o2, o5, hr0, fun _ => ⟨rfl, rfl⟩, fun h => absurd h (by decide), hs2, hb3⟩
  case round =>
    clear hO0 hr0 o2 o5 hb3
    obtain ⟨k, N, a, C, u, hkK, hN, rfl, rfl, rfl, hO, o2, o5, hr, hu0, hu1, hs2, hb⟩ := hrel
    have hbs := hb.out.size
    have lt5 := o5.lt
    have e0 := o2.cell 0 rfl
    have e1 := o2.cell 1 rfl
    have g0 := o2.free 0
    have g1 := o2.free 1
    by_cases hlt : k < K
    · have hlt' : (k : Int) < (K : Int) := by omega
      have hkl : k < parts.length := by rw [hKl.out]; exact hlt
      have hxk := hparts.out k hlt
      have ck := cell_strs hr.out k hkl
      have hsn : Hid (0 < k → ((parts.drop 1).take k).map pairL = ((parts.drop 1).take (k - 1)).map pairL ++ [pairL (parts.getD k [])]) := fun hk0 => by
        obtain ⟨j, rfl⟩ : ∃ j, k = j + 1 := ⟨k - 1, by omega⟩
        rw [Nat.add_sub_cancel, List.take_succ_eq_append_getElem (by rw [List.length_drop]; omega), List.map_append]
        have e : (parts.drop 1)[j]'(by rw [List.length_drop]; omega) = parts.getD (j + 1) [] := by
          rw [List.getElem_drop]
          simp [List.getD, hkl, Nat.add_comm 1 j]
        rw [e]
        rfl
      rw [pair_cut] at hsn
      have hF0 : Hid (k = 0 → _) := fun e => by have h := hF.out; rw [← e] at h; exact h
      have hcl := cut_len (parts.getD k [])
      have HX := fun w => headCutC (parts.getD k []) (parts.getD k []).length w rfl (by unfold maxLen; omega)
      generalize parts.getD k [] = x at *
      generalize cutL x 61 = cc at *
      obtain ⟨c1, c2, t⟩ := cc
      dsimp only at *
      have HT1 := fun w => trimC c1 c1.length w rfl (by unfold maxLen; omega)
      have HT2 := fun w => trimC c2 c2.length w rfl (by unfold maxLen; omega)
      have hq1 := Lib.hid (trim_len_le c1)
      generalize trimL c1 = q1 at *
      generalize trimL c2 = q2 at *
      obtain ⟨m1, hm1⟩ : ∃ m, q1.length = m := ⟨_, rfl⟩
      obtain ⟨m2, hm2⟩ : ∃ m, q2.length = m := ⟨_, rfl⟩
      have z1 : (str q1).size = m1 := by rw [str_size, hm1]
      have z2 : (str q2).size = m2 := by rw [str_size, hm2]
      rw [hm1, hm2] at hF0
      clear hm1 hm2 hcl hxk
      rcases Nat.eq_zero_or_pos k with h0 | h0
      · have hF1 := Lib.hid (hF0.out h0)
        obtain ⟨hu, ha⟩ := hu0 h0
        subst h0 hu ha
        obtain rfl : N = 0 := by omega
        have k0 : ¬ ((0 : Nat) : Int) > 0 := by decide
        simp only [hnil] at o5
        have r0 := o5.cell 0 rfl
        have r1 := o5.cell 1 rfl
        have f0 := o5.free 0
        have f1 := o5.free 1
        clear hF0 hsn hu0 hu1 hN
        cases t with
        | false =>
          have hp := Lib.hid (hF1.out.1 (.inl rfl))
          clear hF1
          go_wp2_with (first
            | (go_at_call 49; (with_reducible refine (HX _).mono ?_); rintro e w3 ⟨rfl, hx⟩; have hx := Lib.hid (hx.trans ((below_alloc w3 (.cells #[.string (str q1), .string (str q2)] 47)).mono hx.size)); have o6 := ObjAt.new w3 #[.string (str q1), .string (str q2)] 47; have o2 := o2.below hx.out o2.lt; have o5 := o5.below hx.out o5.lt; have hr := Lib.hid (hr.out.below' hx.out); have hO := Lib.hid (hO.out.below hx.out (Nat.le_refl _)); have hb := Lib.hid (hb.out.trans (hx.out.mono hbs)); have hs2 := Nat.le_trans hs2 hx.out.size; generalize hv : w3.alloc (.cells #[.string (str q1), .string (str q2)] 47) = v at *; have d0 := o6.cell 0 rfl; have d1 := o6.cell 1 rfl; have e0 := o2.cell 0 rfl; have e1 := o2.cell 1 rfl; have g0 := o2.free 0; have g1 := o2.free 1; have r0 := o5.cell 0 rfl; have r1 := o5.cell 1 rfl; have f0 := o5.free 0; have f1 := o5.free 1)
            | (go_at_call 50; (with_reducible refine (HT1 _).mono ?_); rintro e w4 ⟨rfl, rfl⟩)
            | (go_at_call 50; (with_reducible refine (HT2 _).mono ?_); rintro e w4 ⟨rfl, rfl⟩))
          rw [Exit.noGoto_ret]
          have o9 := (o2.set 0 (.string ⟨#[]⟩)).set 1 (.string ⟨#[]⟩)
          have q0 := o9.cell 0 rfl
          have q1' := o9.cell 1 rfl
          exact bodyPost_ret (v := .tuple #[.agg #[.string ⟨#[]⟩, .string ⟨#[]⟩], .slice none 0 C, .int .i64 1]) (by simp [results, Tryz.results20, go_sem, q0, q1']) rfl ⟨⟨none, 0, C, by rw [hp.out]; rfl, by rw [hp.out]; exact by have h := ((hO.out.setCell (p := ⟨w.heap.size, 0, none⟩) (fun x e => by cases e) (.string ⟨#[]⟩)).setCell (p := ⟨w.heap.size, 1, none⟩) (fun x e => by cases e) (.string ⟨#[]⟩)).row encP_len; exact h⟩, (hb.out.setCell (p := ⟨w.heap.size, 0, none⟩) (Nat.le_refl _) _).setCell (p := ⟨w.heap.size, 1, none⟩) (Nat.le_refl _) _⟩
        | true =>
          by_cases h3 : q1 = []
          · have e3 : (q1 == []) = true := by rw [h3]; rfl
            have hp := Lib.hid (hF1.out.1 (.inr h3))
            clear hF1 h3
            go_wp2_with (first
              | (go_at_call 49; (with_reducible refine (HX _).mono ?_); rintro e w3 ⟨rfl, hx⟩; have hx := Lib.hid (hx.trans ((below_alloc w3 (.cells #[.string (str q1), .string (str q2)] 47)).mono hx.size)); have o6 := ObjAt.new w3 #[.string (str q1), .string (str q2)] 47; have o2 := o2.below hx.out o2.lt; have o5 := o5.below hx.out o5.lt; have hr := Lib.hid (hr.out.below' hx.out); have hO := Lib.hid (hO.out.below hx.out (Nat.le_refl _)); have hb := Lib.hid (hb.out.trans (hx.out.mono hbs)); have hs2 := Nat.le_trans hs2 hx.out.size; generalize hv : w3.alloc (.cells #[.string (str q1), .string (str q2)] 47) = v at *; have d0 := o6.cell 0 rfl; have d1 := o6.cell 1 rfl; have e0 := o2.cell 0 rfl; have e1 := o2.cell 1 rfl; have g0 := o2.free 0; have g1 := o2.free 1; have r0 := o5.cell 0 rfl; have r1 := o5.cell 1 rfl; have f0 := o5.free 0; have f1 := o5.free 1)
              | (go_at_call 50; (with_reducible refine (HT1 _).mono ?_); rintro e w4 ⟨rfl, rfl⟩)
              | (go_at_call 50; (with_reducible refine (HT2 _).mono ?_); rintro e w4 ⟨rfl, rfl⟩))
            rw [Exit.noGoto_ret]
            have o9 := (o2.set 0 (.string ⟨#[]⟩)).set 1 (.string ⟨#[]⟩)
            have q0 := o9.cell 0 rfl
            have q1' := o9.cell 1 rfl
            exact bodyPost_ret (v := .tuple #[.agg #[.string ⟨#[]⟩, .string ⟨#[]⟩], .slice none 0 C, .int .i64 1]) (by simp [results, Tryz.results20, go_sem, q0, q1']) rfl ⟨⟨none, 0, C, by rw [hp.out]; rfl, by rw [hp.out]; exact by have h := ((hO.out.setCell (p := ⟨w.heap.size, 0, none⟩) (fun x e => by cases e) (.string ⟨#[]⟩)).setCell (p := ⟨w.heap.size, 1, none⟩) (fun x e => by cases e) (.string ⟨#[]⟩)).row encP_len; exact h⟩, (hb.out.setCell (p := ⟨w.heap.size, 0, none⟩) (Nat.le_refl _) _).setCell (p := ⟨w.heap.size, 1, none⟩) (Nat.le_refl _) _⟩
          · have e3 : (q1 == []) = false := beq_eq_false_iff_ne.2 h3
            by_cases h4 : 256 < m1
            · have k4 : (256 : Int) < (m1 : Int) := by omega
              have hp := Lib.hid (hF1.out.2.1 rfl h3 (.inl h4))
              clear hF1 h3 h4
              go_wp2_with (first
                | (go_at_call 49; (with_reducible refine (HX _).mono ?_); rintro e w3 ⟨rfl, hx⟩; have hx := Lib.hid (hx.trans ((below_alloc w3 (.cells #[.string (str q1), .string (str q2)] 47)).mono hx.size)); have o6 := ObjAt.new w3 #[.string (str q1), .string (str q2)] 47; have o2 := o2.below hx.out o2.lt; have o5 := o5.below hx.out o5.lt; have hr := Lib.hid (hr.out.below' hx.out); have hO := Lib.hid (hO.out.below hx.out (Nat.le_refl _)); have hb := Lib.hid (hb.out.trans (hx.out.mono hbs)); have hs2 := Nat.le_trans hs2 hx.out.size; generalize hv : w3.alloc (.cells #[.string (str q1), .string (str q2)] 47) = v at *; have d0 := o6.cell 0 rfl; have d1 := o6.cell 1 rfl; have e0 := o2.cell 0 rfl; have e1 := o2.cell 1 rfl; have g0 := o2.free 0; have g1 := o2.free 1; have r0 := o5.cell 0 rfl; have r1 := o5.cell 1 rfl; have f0 := o5.free 0; have f1 := o5.free 1)
                | (go_at_call 50; (with_reducible refine (HT1 _).mono ?_); rintro e w4 ⟨rfl, rfl⟩)
                | (go_at_call 50; (with_reducible refine (HT2 _).mono ?_); rintro e w4 ⟨rfl, rfl⟩))
              rw [Exit.noGoto_ret]
              have o9 := (o2.set 0 (.string ⟨#[]⟩)).set 1 (.string ⟨#[]⟩)
              have q0 := o9.cell 0 rfl
              have q1' := o9.cell 1 rfl
              exact bodyPost_ret (v := .tuple #[.agg #[.string ⟨#[]⟩, .string ⟨#[]⟩], .slice none 0 C, .int .i64 3]) (by simp [results, Tryz.results20, go_sem, q0, q1']) rfl ⟨⟨none, 0, C, by rw [hp.out]; rfl, by rw [hp.out]; exact by have h := ((hO.out.setCell (p := ⟨w.heap.size, 0, none⟩) (fun x e => by cases e) (.string ⟨#[]⟩)).setCell (p := ⟨w.heap.size, 1, none⟩) (fun x e => by cases e) (.string ⟨#[]⟩)).row encP_len; exact h⟩, (hb.out.setCell (p := ⟨w.heap.size, 0, none⟩) (Nat.le_refl _) _).setCell (p := ⟨w.heap.size, 1, none⟩) (Nat.le_refl _) _⟩
            · have k4 : ¬ (256 : Int) < (m1 : Int) := by omega
              by_cases h5 : 1024 < m2
              · have k5 : (1024 : Int) < (m2 : Int) := by omega
                have hp := Lib.hid (hF1.out.2.1 rfl h3 (.inr h5))
                clear hF1 h3 h4 h5
                go_wp2_with (first
                  | (go_at_call 49; (with_reducible refine (HX _).mono ?_); rintro e w3 ⟨rfl, hx⟩; have hx := Lib.hid (hx.trans ((below_alloc w3 (.cells #[.string (str q1), .string (str q2)] 47)).mono hx.size)); have o6 := ObjAt.new w3 #[.string (str q1), .string (str q2)] 47; have o2 := o2.below hx.out o2.lt; have o5 := o5.below hx.out o5.lt; have hr := Lib.hid (hr.out.below' hx.out); have hO := Lib.hid (hO.out.below hx.out (Nat.le_refl _)); have hb := Lib.hid (hb.out.trans (hx.out.mono hbs)); have hs2 := Nat.le_trans hs2 hx.out.size; generalize hv : w3.alloc (.cells #[.string (str q1), .string (str q2)] 47) = v at *; have d0 := o6.cell 0 rfl; have d1 := o6.cell 1 rfl; have e0 := o2.cell 0 rfl; have e1 := o2.cell 1 rfl; have g0 := o2.free 0; have g1 := o2.free 1; have r0 := o5.cell 0 rfl; have r1 := o5.cell 1 rfl; have f0 := o5.free 0; have f1 := o5.free 1)
                  | (go_at_call 50; (with_reducible refine (HT1 _).mono ?_); rintro e w4 ⟨rfl, rfl⟩)
                  | (go_at_call 50; (with_reducible refine (HT2 _).mono ?_); rintro e w4 ⟨rfl, rfl⟩))
                rw [Exit.noGoto_ret]
                have o9 := (o2.set 0 (.string ⟨#[]⟩)).set 1 (.string ⟨#[]⟩)
                have q0 := o9.cell 0 rfl
                have q1' := o9.cell 1 rfl
                exact bodyPost_ret (v := .tuple #[.agg #[.string ⟨#[]⟩, .string ⟨#[]⟩], .slice none 0 C, .int .i64 3]) (by simp [results, Tryz.results20, go_sem, q0, q1']) rfl ⟨⟨none, 0, C, by rw [hp.out]; rfl, by rw [hp.out]; exact by have h := ((hO.out.setCell (p := ⟨w.heap.size, 0, none⟩) (fun x e => by cases e) (.string ⟨#[]⟩)).setCell (p := ⟨w.heap.size, 1, none⟩) (fun x e => by cases e) (.string ⟨#[]⟩)).row encP_len; exact h⟩, (hb.out.setCell (p := ⟨w.heap.size, 0, none⟩) (Nat.le_refl _) _).setCell (p := ⟨w.heap.size, 1, none⟩) (Nat.le_refl _) _⟩
              · have k5 : ¬ (1024 : Int) < (m2 : Int) := by omega
                have hp := Lib.hid (hF1.out.2.2 rfl h3 (Nat.not_lt.1 h4) (Nat.not_lt.1 h5))
                clear hF1 h3 h4 h5
                go_wp2_with (first
                  | (go_at_call 49; (with_reducible refine (HX _).mono ?_); rintro e w3 ⟨rfl, hx⟩; have hx := Lib.hid (hx.trans ((below_alloc w3 (.cells #[.string (str q1), .string (str q2)] 47)).mono hx.size)); have o6 := ObjAt.new w3 #[.string (str q1), .string (str q2)] 47; have o2 := o2.below hx.out o2.lt; have o5 := o5.below hx.out o5.lt; have hr := Lib.hid (hr.out.below' hx.out); have hO := Lib.hid (hO.out.below hx.out (Nat.le_refl _)); have hb := Lib.hid (hb.out.trans (hx.out.mono hbs)); have hs2 := Nat.le_trans hs2 hx.out.size; generalize hv : w3.alloc (.cells #[.string (str q1), .string (str q2)] 47) = v at *; have d0 := o6.cell 0 rfl; have d1 := o6.cell 1 rfl; have e0 := o2.cell 0 rfl; have e1 := o2.cell 1 rfl; have g0 := o2.free 0; have g1 := o2.free 1; have r0 := o5.cell 0 rfl; have r1 := o5.cell 1 rfl; have f0 := o5.free 0; have f1 := o5.free 1)
                  | (go_at_call 50; (with_reducible refine (HT1 _).mono ?_); rintro e w4 ⟨rfl, rfl⟩)
                  | (go_at_call 50; (with_reducible refine (HT2 _).mono ?_); rintro e w4 ⟨rfl, rfl⟩))
                go_roundw
                case rel => exact ⟨1, 0, none, C, (q1, q2), by omega, by omega, rfl, rfl, by go_num, (hO.out.setCell (p := ⟨w.heap.size + 1, 0, none⟩) (fun x e => by cases e) (.string (str q1))).setCell (p := ⟨w.heap.size + 1, 1, none⟩) (fun x e => by cases e) (.string (str q2)), (o2.other (p := ⟨w.heap.size + 1, 0, none⟩) (by simp) _).other (p := ⟨w.heap.size + 1, 1, none⟩) (by simp) _, (o5.set 0 (.string (str q1))).set 1 (.string (str q2)), (hr.out.setOther (p := ⟨w.heap.size + 1, 0, none⟩) hne5 (.string (str q1))).setOther (p := ⟨w.heap.size + 1, 1, none⟩) hne5 (.string (str q2)), fun h => absurd h (by decide), fun _ => hp.out, by simpa using hs2, (hb.out.setCell (p := ⟨w.heap.size + 1, 0, none⟩) (by simp) _).setCell (p := ⟨w.heap.size + 1, 1, none⟩) (by simp) _⟩
                case measure => simp [intOf] <;> omega
      · have hk0 : (0 : Int) < (k : Int) := by omega
        have hs1 := Lib.hid (hsn.out h0)
        have hp := Lib.hid (hu1 h0)
        obtain ⟨u1, u2⟩ := u
        dsimp only at *
        have hNK : N + 1 ≤ 100001 := by omega
        have hN2 := Lib.hid hN
        have r0 := o5.cell 0 rfl
        have r1 := o5.cell 1 rfl
        have f0 := o5.free 0
        have f1 := o5.free 1
        clear hF0 hsn hu0 hu1 hN
        go_wp2_with (first
          | (go_at_call 49; (with_reducible refine (HX _).mono ?_); rintro e w3 ⟨rfl, hx⟩; have hx := Lib.hid (hx.trans ((below_alloc w3 (.cells #[.string (str q1), .string (str q2)] 47)).mono hx.size)); have o6 := ObjAt.new w3 #[.string (str q1), .string (str q2)] 47; have o2 := o2.below hx.out o2.lt; have o5 := o5.below hx.out o5.lt; have hr := Lib.hid (hr.out.below' hx.out); have hO := Lib.hid (hO.out.below hx.out (Nat.le_refl _)); have hb := Lib.hid (hb.out.trans (hx.out.mono hbs)); have hs2 := Nat.le_trans hs2 hx.out.size; generalize hv : w3.alloc (.cells #[.string (str q1), .string (str q2)] 47) = v at *; have d0 := o6.cell 0 rfl; have d1 := o6.cell 1 rfl; have e0 := o2.cell 0 rfl; have e1 := o2.cell 1 rfl; have g0 := o2.free 0; have g1 := o2.free 1; have r0 := o5.cell 0 rfl; have r1 := o5.cell 1 rfl; have f0 := o5.free 0; have f1 := o5.free 1)
          | (go_at_call 50; (with_reducible refine (HT1 _).mono ?_); rintro e w4 ⟨rfl, rfl⟩)
          | (go_at_call 50; (with_reducible refine (HT2 _).mono ?_); rintro e w4 ⟨rfl, rfl⟩)
          | (at_builtin; refine wpList_append_row1 encP_len (by decide) encP_one rfl (.tmp 45) (.tmp 47) 48 rfl 47 i0 (.agg #[.string ⟨#[]⟩, .string ⟨#[]⟩]) 32 Tryz.underlying48 hi hz0 hz1 hz2 rfl hO.out rfl (q1, q2) rfl rfl (N + 1) rfl (by unfold maxLen; omega) (by omega) hs2 ?_; intro a2 c2 w7 hO7 hb7 hg7 ha7; have hO7 := Lib.hid hO7; have hb7 := Lib.hid hb7))
        go_roundw
        case rel => exact ⟨k + 1, N + 1, a2, c2, (u1, u2), by omega, by have := hN2.out; omega, rfl, rfl, by go_num, by rw [Nat.add_sub_cancel, hs1.out]; exact hO7.out, o2.below hb7.out (by have := o2.lt; omega), o5.below hb7.out (by omega), hr.out.below hb7.out (fun x e => by cases e; exact hg), fun h => absurd h (by omega), fun _ => hp.out, Nat.le_trans hs2 hb7.out.size, hb.out.trans (hb7.out.mono (by omega))⟩
        case measure => simp [intOf] <;> omega
    · obtain rfl : k = K := by omega
      have h0 : 0 < k := hK1
      have hp := Lib.hid (hu1 h0)
      obtain ⟨u1, u2⟩ := u
      dsimp only at *
      have hall : Hid (((parts.drop 1).take (k - 1)).map pairL = (parts.drop 1).map pairL) := by
        unfold Hid
        rw [List.take_of_length_le (by rw [List.length_drop, hKl.out]; exact Nat.le_refl _)]
      have r0 := o5.cell 0 rfl
      have r1 := o5.cell 1 rfl
      have f0 := o5.free 0
      have f1 := o5.free 1
      have hap : Apart a w.heap.size := fun x e => by
        rcases hO.out.head with ⟨h, -⟩ | ⟨g', h, hge, -⟩
        · rw [h] at e; cases e
        · rw [h] at e; cases e
          show g' ≠ w.heap.size
          omega
      have hO2 := ((hO.out.setCell (p := ⟨w.heap.size, 0, none⟩) hap (.string (str u1))).setCell (p := ⟨w.heap.size, 1, none⟩) hap (.string (str u2))).row encP_len
      rw [hall.out] at hO2
      have HO2 := Lib.hid hO2
      clear hu0 hu1 hN hO2
      go_wp2
      rw [Exit.noGoto_ret]
      have o9 := (o2.set 0 (.string (str u1))).set 1 (.string (str u2))
      have q0 := o9.cell 0 rfl
      have q1 := o9.cell 1 rfl
      exact bodyPost_ret (v := .tuple #[.agg #[.string (str u1), .string (str u2)], .slice a N C, .int .i64 0]) (by simp [results, Tryz.results20, go_sem, q0, q1]) rfl ⟨⟨a, N, C, by rw [hp.out], by rw [hp.out]; exact HO2.out⟩, (hb.out.setCell (p := ⟨w.heap.size, 0, none⟩) (Nat.le_refl _) _).setCell (p := ⟨w.heap.size, 1, none⟩) (Nat.le_refl _) _⟩
end Go.Proofs.YthefieemngmnjaaGreatDoor
