/- Contracts of the reference of layer 13: what attributes say. -/
import Derived.Test.YthefieemngmnjaaGreatDoorLibAL
import Derived.Test.YthefieemngmnjaaGreatDoorDateRefParse
namespace Go.Proofs.YthefieemngmnjaaGreatDoor
open Go.RowKit
set_option linter.unusedVariables false

set_option maxHeartbeats 4000000 in
set_option maxRecDepth 100000 in
theorem refReadC (a : Option Addr) (n c : Nat) (L : List (List UInt8 × List UInt8)) (w : World) (hL : RowOf encP 2 w a n c L) (hS : ∀ x ∈ L, x.1.length ≤ 100000 ∧ x.2.length ≤ 100000) :
    Calls Tryz.prog 28 #[.slice a n c] w fun e w' => e = .returned (valF (readA L)) ∧ Below w.heap.size w w' := by
  have HL := Lib.hid hL
  have Hn : Hid (L.length = n) := hL.leq
  have hcm := hL.capm
  have hcl := hL.cle
  unfold maxLen at hcm
  have hk := str_toList
  have hb0 := below_alloc w (.cells #[.bool false, .bool false, .bool false, .bool false, .int .i64 0, .int .i64 0, .string ⟨#[]⟩, .string ⟨#[]⟩, .bool false, .bool false] 64)
  have o0 := ObjAt.new w #[.bool false, .bool false, .bool false, .bool false, .int .i64 0, .int .i64 0, .string ⟨#[]⟩, .string ⟨#[]⟩, .bool false, .bool false] 64
  have hs1 : (w.alloc (.cells #[.bool false, .bool false, .bool false, .bool false, .int .i64 0, .int .i64 0, .string ⟨#[]⟩, .string ⟨#[]⟩, .bool false, .bool false] 64)).heap.size = w.heap.size + 1 := by simp
  have hb1 := hb0.alloc (by omega) (.cells #[.bool false, .bool false, .bool false, .bool false, .int .i64 0, .int .i64 0, .string ⟨#[]⟩, .string ⟨#[]⟩, .bool false, .bool false] 64)
  have o1 := ObjAt.new (w.alloc (.cells #[.bool false, .bool false, .bool false, .bool false, .int .i64 0, .int .i64 0, .string ⟨#[]⟩, .string ⟨#[]⟩, .bool false, .bool false] 64)) #[.bool false, .bool false, .bool false, .bool false, .int .i64 0, .int .i64 0, .string ⟨#[]⟩, .string ⟨#[]⟩, .bool false, .bool false] 64
  have o2 := o0.below (below_alloc (w.alloc (.cells #[.bool false, .bool false, .bool false, .bool false, .int .i64 0, .int .i64 0, .string ⟨#[]⟩, .string ⟨#[]⟩, .bool false, .bool false] 64)) (.cells #[.bool false, .bool false, .bool false, .bool false, .int .i64 0, .int .i64 0, .string ⟨#[]⟩, .string ⟨#[]⟩, .bool false, .bool false] 64)) o0.lt
  rw [hs1] at o1
  clear hL hb0 hs1 o0
  go_enter Tryz.func28, Tryz.ntmps28
  go_wp2
  go_loopw [4] (fun i wr => ∃ k : Nat, k ≤ n ∧ i = .int .i64 (k : Int) ∧ ObjAt wr (w.heap.size + 1) (encF (readA (L.take k))) ∧ ObjAt wr w.heap.size #[.bool false, .bool false, .bool false, .bool false, .int .i64 0, .int .i64 0, .string ⟨#[]⟩, .string ⟨#[]⟩, .bool false, .bool false].toList ∧ Below w.heap.size w wr) (fun i _ => n - (intOf i).toNat)
  case atStart => exact ⟨0, Nat.zero_le _, rfl, o1, o2, hb1⟩
  case round =>
    clear hb1 o1 o2
    obtain ⟨k, hk2, rfl, o1, o0, hb⟩ := hrel
    by_cases hlt : k < n
    · have hlt' : (k : Int) < (n : Int) := by omega
      obtain ⟨x1, x2, g, off, hx, rfl, c0, c1⟩ := pair_at (HL.out.below hb) k hlt
      have hst := readA_take hx
      have hsx := hS (x1, x2) (by obtain ⟨h, e⟩ := List.getElem?_eq_some_iff.1 hx; exact e ▸ List.getElem_mem h)
      dsimp only at hsx
      unfold stepA at hst
      dsimp only at hst
      have HX := fun w => refLowerC x1 x1.length w rfl (by unfold maxLen; omega)
      have HV := fun w => refLowerC x2 x2.length w rfl (by unfold maxLen; omega)
      have HD := fun w => refParseC x2 x2.length w rfl (by omega)
      have HN := fun w => refNumberC x2 x2.length w rfl (by unfold maxLen; omega)
      unfold GivesStr at HX HV
      have H2 := Lib.hid hst
      clear hst hx
      obtain ⟨z, hz⟩ : ∃ z, x2.map low = z := ⟨_, rfl⟩
      obtain ⟨zn, hzn⟩ : ∃ m, z.length = m := ⟨_, rfl⟩
      have hzs : (str z).size = zn := by rw [str_size, hzn]
      have hzx : Hid (zn = x2.length) := by unfold Hid; rw [← hzn, ← hz, List.length_map]
      rw [hz] at HV
      generalize readA (L.take k) = f at *
      generalize x1.map low = y at *
      obtain ⟨pv, hpv⟩ : ∃ v, (parseL x2).1 = v := ⟨_, rfl⟩
      obtain ⟨pq, hpq⟩ : ∃ v, (parseL x2).2 = v := ⟨_, rfl⟩
      obtain ⟨nv, hnv⟩ : ∃ v, (numL x2).1 = v := ⟨_, rfl⟩
      obtain ⟨nq, hnq⟩ : ∃ v, (numL x2).2 = v := ⟨_, rfl⟩
      have H2 : Hid (readA (L.take (k + 1)) = sayA f y x2) := H2.out
      unfold sayA at H2
      rw [hpv, hpq, hnv, hnq] at H2
      rw [hpv, hpq] at HD
      rw [hnv, hnq] at HN
      clear hpv hpq hnv hnq
      by_cases h0 : y = nExpires
      · subst h0
        unfold nExpires at HX
        cases hp : pq with
        | true =>
          rw [hp] at HD H2
          have H3 : Hid (readA (L.take (k + 1)) = { f with hexp := true, exp := pv }) := by
            unfold Hid
            rw [H2.out]
            rw [if_pos rfl, if_pos rfl]
          clear H2
          go_wp2_with (first
            | (go_at_call 61; (with_reducible refine (HX _).mono ?_); rintro e w2 ⟨rfl, hx⟩; have o1 := o1.below hx o1.lt; have o0 := o0.below hx o0.lt; have hb := hb.trans (hx.mono hb.size); clear hx; have c0 := o1.cell 0 rfl; have f0 := o1.free 0; have c4 := o1.cell 4 rfl; have f4 := o1.free 4)
            | (go_at_call 61; (with_reducible refine (HV _).mono ?_); rintro e w3 ⟨rfl, hx⟩; have o1 := o1.below hx o1.lt; have o0 := o0.below hx o0.lt; have hb := hb.trans (hx.mono hb.size); clear hx; have c0 := o1.cell 0 rfl; have f0 := o1.free 0; have c4 := o1.cell 4 rfl; have f4 := o1.free 4)
            | (go_at_call 62; (with_reducible refine (HD _).mono ?_); rintro e w3 ⟨rfl, hx⟩; have o1 := o1.below hx o1.lt; have o0 := o0.below hx o0.lt; have hb := hb.trans (hx.mono hb.size); clear hx; have c0 := o1.cell 0 rfl; have f0 := o1.free 0; have c4 := o1.cell 4 rfl; have f4 := o1.free 4)
            | (go_at_call 63; (with_reducible refine (HN _).mono ?_); rintro e w3 ⟨rfl, rfl⟩))
          go_roundw
          case rel => exact ⟨k + 1, by omega, by go_num, by rw [H3.out]; exact ((o1.set 0 (.bool true)).set 4 (.int .i64 pv)), ((o0.other (p := ⟨w.heap.size + 1, 0, none⟩) (Nat.succ_ne_self _) (.bool true)).other (p := ⟨w.heap.size + 1, 4, none⟩) (Nat.succ_ne_self _) (.int .i64 pv)), ((hb.setCell (p := ⟨w.heap.size + 1, 0, none⟩) (Nat.le_succ _) (.bool true)).setCell (p := ⟨w.heap.size + 1, 4, none⟩) (Nat.le_succ _) (.int .i64 pv))⟩
          case measure => simp [intOf]; omega
        | false =>
          rw [hp] at HD H2
          have H3 : Hid (readA (L.take (k + 1)) = f) := by
            unfold Hid
            rw [H2.out]
            rw [if_pos rfl, if_neg (by decide)]
          clear H2
          go_wp2_with (first
            | (go_at_call 61; (with_reducible refine (HX _).mono ?_); rintro e w2 ⟨rfl, hx⟩; have o1 := o1.below hx o1.lt; have o0 := o0.below hx o0.lt; have hb := hb.trans (hx.mono hb.size); clear hx; skip)
            | (go_at_call 61; (with_reducible refine (HV _).mono ?_); rintro e w3 ⟨rfl, hx⟩; have o1 := o1.below hx o1.lt; have o0 := o0.below hx o0.lt; have hb := hb.trans (hx.mono hb.size); clear hx; skip)
            | (go_at_call 62; (with_reducible refine (HD _).mono ?_); rintro e w3 ⟨rfl, hx⟩; have o1 := o1.below hx o1.lt; have o0 := o0.below hx o0.lt; have hb := hb.trans (hx.mono hb.size); clear hx; skip)
            | (go_at_call 63; (with_reducible refine (HN _).mono ?_); rintro e w3 ⟨rfl, rfl⟩))
          go_roundw
          case rel => exact ⟨k + 1, by omega, by go_num, by rw [H3.out]; exact o1, o0, hb⟩
          case measure => simp [intOf]; omega
      have e0 : (y == [101, 120, 112, 105, 114, 101, 115]) = false := beq_eq_false_iff_ne.2 h0
      by_cases h1 : y = nAge
      · subst h1
        unfold nAge at HX
        cases hp : nq with
        | true =>
          rw [hp] at HN H2
          have H3 : Hid (readA (L.take (k + 1)) = { f with hage := true, age := nv }) := by
            unfold Hid
            rw [H2.out]
            rw [if_neg h0, if_pos rfl, if_pos rfl]
          clear H2 e0
          go_wp2_with (first
            | (go_at_call 61; (with_reducible refine (HX _).mono ?_); rintro e w2 ⟨rfl, hx⟩; have o1 := o1.below hx o1.lt; have o0 := o0.below hx o0.lt; have hb := hb.trans (hx.mono hb.size); clear hx; have c1 := o1.cell 1 rfl; have f1 := o1.free 1; have c5 := o1.cell 5 rfl; have f5 := o1.free 5)
            | (go_at_call 61; (with_reducible refine (HV _).mono ?_); rintro e w3 ⟨rfl, hx⟩; have o1 := o1.below hx o1.lt; have o0 := o0.below hx o0.lt; have hb := hb.trans (hx.mono hb.size); clear hx; have c1 := o1.cell 1 rfl; have f1 := o1.free 1; have c5 := o1.cell 5 rfl; have f5 := o1.free 5)
            | (go_at_call 62; (with_reducible refine (HD _).mono ?_); rintro e w3 ⟨rfl, hx⟩; have o1 := o1.below hx o1.lt; have o0 := o0.below hx o0.lt; have hb := hb.trans (hx.mono hb.size); clear hx; have c1 := o1.cell 1 rfl; have f1 := o1.free 1; have c5 := o1.cell 5 rfl; have f5 := o1.free 5)
            | (go_at_call 63; (with_reducible refine (HN _).mono ?_); rintro e w3 ⟨rfl, rfl⟩))
          go_roundw
          case rel => exact ⟨k + 1, by omega, by go_num, by rw [H3.out]; exact ((o1.set 1 (.bool true)).set 5 (.int .i64 nv)), ((o0.other (p := ⟨w.heap.size + 1, 1, none⟩) (Nat.succ_ne_self _) (.bool true)).other (p := ⟨w.heap.size + 1, 5, none⟩) (Nat.succ_ne_self _) (.int .i64 nv)), ((hb.setCell (p := ⟨w.heap.size + 1, 1, none⟩) (Nat.le_succ _) (.bool true)).setCell (p := ⟨w.heap.size + 1, 5, none⟩) (Nat.le_succ _) (.int .i64 nv))⟩
          case measure => simp [intOf]; omega
        | false =>
          rw [hp] at HN H2
          have H3 : Hid (readA (L.take (k + 1)) = f) := by
            unfold Hid
            rw [H2.out]
            rw [if_neg h0, if_pos rfl, if_neg (by decide)]
          clear H2 e0
          go_wp2_with (first
            | (go_at_call 61; (with_reducible refine (HX _).mono ?_); rintro e w2 ⟨rfl, hx⟩; have o1 := o1.below hx o1.lt; have o0 := o0.below hx o0.lt; have hb := hb.trans (hx.mono hb.size); clear hx; skip)
            | (go_at_call 61; (with_reducible refine (HV _).mono ?_); rintro e w3 ⟨rfl, hx⟩; have o1 := o1.below hx o1.lt; have o0 := o0.below hx o0.lt; have hb := hb.trans (hx.mono hb.size); clear hx; skip)
            | (go_at_call 62; (with_reducible refine (HD _).mono ?_); rintro e w3 ⟨rfl, hx⟩; have o1 := o1.below hx o1.lt; have o0 := o0.below hx o0.lt; have hb := hb.trans (hx.mono hb.size); clear hx; skip)
            | (go_at_call 63; (with_reducible refine (HN _).mono ?_); rintro e w3 ⟨rfl, rfl⟩))
          go_roundw
          case rel => exact ⟨k + 1, by omega, by go_num, by rw [H3.out]; exact o1, o0, hb⟩
          case measure => simp [intOf]; omega
      have e1 : (y == [109, 97, 120, 45, 97, 103, 101]) = false := beq_eq_false_iff_ne.2 h1
      by_cases h2 : y = nDomain
      · subst h2
        unfold nDomain at HX
        by_cases hv : x2 = []
        · have e : ({ data := #[] } : ByteArray) = str [] := rfl
          have H3 : Hid (readA (L.take (k + 1)) = f) := by
            unfold Hid
            rw [H2.out]
            rw [if_neg h0, if_neg h1, if_pos rfl, if_pos hv]
          subst hv
          rw [← e] at c1
          clear H2 e0 e1 e
          go_wp2_with (first
            | (go_at_call 61; (with_reducible refine (HX _).mono ?_); rintro e w2 ⟨rfl, hx⟩; have o1 := o1.below hx o1.lt; have o0 := o0.below hx o0.lt; have hb := hb.trans (hx.mono hb.size); clear hx; skip)
            | (go_at_call 61; (with_reducible refine (HV _).mono ?_); rintro e w3 ⟨rfl, hx⟩; have o1 := o1.below hx o1.lt; have o0 := o0.below hx o0.lt; have hb := hb.trans (hx.mono hb.size); clear hx; skip)
            | (go_at_call 62; (with_reducible refine (HD _).mono ?_); rintro e w3 ⟨rfl, hx⟩; have o1 := o1.below hx o1.lt; have o0 := o0.below hx o0.lt; have hb := hb.trans (hx.mono hb.size); clear hx; skip)
            | (go_at_call 63; (with_reducible refine (HN _).mono ?_); rintro e w3 ⟨rfl, rfl⟩))
          go_roundw
          case rel => exact ⟨k + 1, by omega, by go_num, by rw [H3.out]; exact o1, o0, hb⟩
          case measure => simp [intOf]; omega
        have hve : (x2 == []) = false := beq_eq_false_iff_ne.2 hv
        have hvp : 0 < x2.length := List.length_pos_iff.2 hv
        have hi0 : ∀ w : World, (Instr.index 9 (.string (str x2)) (.int .i64 0)).run Tryz.prog w = .ok (.int .u8 ((x2.getD 0 0).toNat : Int)) w := fun w => run_index_str w 9 x2 .i64 0 Tryz.underlying9 hvp
        by_cases hd : x2.getD 0 0 = 46
        · have hd2 : (((x2.getD 0 0).toNat : Int) == 46) = true := by rw [hd]; rfl
          obtain ⟨zd, hzd⟩ : ∃ q, z.drop 1 = q := ⟨_, rfl⟩
          have H3 : Hid (readA (L.take (k + 1)) = { f with hdom := true, dom := zd }) := by
            unfold Hid
            rw [H2.out]
            rw [if_neg h0, if_neg h1, if_pos rfl, if_neg hv]; unfold domL; rw [if_pos (by rw [hd]; rfl), hz, hzd]
          have hzc : (str z).extract 1 zn = str zd := by rw [str_extract, List.take_of_length_le (by rw [List.length_drop, hzn]; exact Nat.le_refl _), hzd]
          clear hzd
          have hz1 : (1 : Int) ≤ (zn : Int) := by have := hzx.out; omega
          generalize ((x2.getD 0 0).toNat : Int) = x at *
          clear H2 e0 e1
          go_wp2_with (first
            | (go_at_call 61; (with_reducible refine (HX _).mono ?_); rintro e w2 ⟨rfl, hx⟩; have o1 := o1.below hx o1.lt; have o0 := o0.below hx o0.lt; have hb := hb.trans (hx.mono hb.size); clear hx; have c2 := o1.cell 2 rfl; have f2 := o1.free 2; have c6 := o1.cell 6 rfl; have f6 := o1.free 6)
            | (go_at_call 61; (with_reducible refine (HV _).mono ?_); rintro e w3 ⟨rfl, hx⟩; have o1 := (o1.set 2 (.bool true)).below hx (o1.set 2 (.bool true)).lt; have o0 := (o0.other (p := ⟨w.heap.size + 1, 2, none⟩) (Nat.succ_ne_self _) (.bool true)).below hx (o0.other (p := ⟨w.heap.size + 1, 2, none⟩) (Nat.succ_ne_self _) (.bool true)).lt; have hbs := hb.setCell (p := ⟨w.heap.size + 1, 2, none⟩) (Nat.le_succ _) (.bool true); have hb := hbs.trans (hx.mono hbs.size); clear hx hbs; have c2 := o1.cell 2 rfl; have f2 := o1.free 2; have c6 := o1.cell 6 rfl; have f6 := o1.free 6)
            | (go_at_call 62; (with_reducible refine (HD _).mono ?_); rintro e w3 ⟨rfl, hx⟩; have o1 := o1.below hx o1.lt; have o0 := o0.below hx o0.lt; have hb := hb.trans (hx.mono hb.size); clear hx; have c2 := o1.cell 2 rfl; have f2 := o1.free 2; have c6 := o1.cell 6 rfl; have f6 := o1.free 6)
            | (go_at_call 63; (with_reducible refine (HN _).mono ?_); rintro e w3 ⟨rfl, rfl⟩))
          go_roundw
          case rel => exact ⟨k + 1, by omega, by go_num, by rw [H3.out]; exact ((o1.set 6 (.string (str z))).set 6 (.string (str zd))), ((o0.other (p := ⟨w.heap.size + 1, 6, none⟩) (Nat.succ_ne_self _) (.string (str z))).other (p := ⟨w.heap.size + 1, 6, none⟩) (Nat.succ_ne_self _) (.string (str zd))), ((hb.setCell (p := ⟨w.heap.size + 1, 6, none⟩) (Nat.le_succ _) (.string (str z))).setCell (p := ⟨w.heap.size + 1, 6, none⟩) (Nat.le_succ _) (.string (str zd)))⟩
          case measure => simp [intOf]; omega
        · have hd2 : (((x2.getD 0 0).toNat : Int) == 46) = false := by
            rw [beq_eq_false_iff_ne]
            intro c
            exact hd (UInt8.toNat.inj (by have : (46 : UInt8).toNat = 46 := rfl; omega))
          have H3 : Hid (readA (L.take (k + 1)) = { f with hdom := true, dom := z }) := by
            unfold Hid
            rw [H2.out]
            rw [if_neg h0, if_neg h1, if_pos rfl, if_neg hv]; unfold domL; rw [if_neg (by simpa using hd), hz]
          generalize ((x2.getD 0 0).toNat : Int) = x at *
          clear H2 e0 e1
          go_wp2_with (first
            | (go_at_call 61; (with_reducible refine (HX _).mono ?_); rintro e w2 ⟨rfl, hx⟩; have o1 := o1.below hx o1.lt; have o0 := o0.below hx o0.lt; have hb := hb.trans (hx.mono hb.size); clear hx; have c2 := o1.cell 2 rfl; have f2 := o1.free 2; have c6 := o1.cell 6 rfl; have f6 := o1.free 6)
            | (go_at_call 61; (with_reducible refine (HV _).mono ?_); rintro e w3 ⟨rfl, hx⟩; have o1 := (o1.set 2 (.bool true)).below hx (o1.set 2 (.bool true)).lt; have o0 := (o0.other (p := ⟨w.heap.size + 1, 2, none⟩) (Nat.succ_ne_self _) (.bool true)).below hx (o0.other (p := ⟨w.heap.size + 1, 2, none⟩) (Nat.succ_ne_self _) (.bool true)).lt; have hbs := hb.setCell (p := ⟨w.heap.size + 1, 2, none⟩) (Nat.le_succ _) (.bool true); have hb := hbs.trans (hx.mono hbs.size); clear hx hbs; have c2 := o1.cell 2 rfl; have f2 := o1.free 2; have c6 := o1.cell 6 rfl; have f6 := o1.free 6)
            | (go_at_call 62; (with_reducible refine (HD _).mono ?_); rintro e w3 ⟨rfl, hx⟩; have o1 := o1.below hx o1.lt; have o0 := o0.below hx o0.lt; have hb := hb.trans (hx.mono hb.size); clear hx; have c2 := o1.cell 2 rfl; have f2 := o1.free 2; have c6 := o1.cell 6 rfl; have f6 := o1.free 6)
            | (go_at_call 63; (with_reducible refine (HN _).mono ?_); rintro e w3 ⟨rfl, rfl⟩))
          go_roundw
          case rel => exact ⟨k + 1, by omega, by go_num, by rw [H3.out]; exact (o1.set 6 (.string (str z))), (o0.other (p := ⟨w.heap.size + 1, 6, none⟩) (Nat.succ_ne_self _) (.string (str z))), (hb.setCell (p := ⟨w.heap.size + 1, 6, none⟩) (Nat.le_succ _) (.string (str z)))⟩
          case measure => simp [intOf]; omega
      have e2 : (y == [100, 111, 109, 97, 105, 110]) = false := beq_eq_false_iff_ne.2 h2
      by_cases h3 : y = nPath
      · subst h3
        unfold nPath at HX
        by_cases hv : x2 = []
        · subst hv
          have H3 : Hid (readA (L.take (k + 1)) = { f with hpath := false, path := [] }) := by
            unfold Hid
            rw [H2.out]
            rw [if_neg h0, if_neg h1, if_neg h2, if_pos rfl]; unfold pathB; rfl
          clear H2 e0 e1 e2
          go_wp2_with (first
            | (go_at_call 61; (with_reducible refine (HX _).mono ?_); rintro e w2 ⟨rfl, hx⟩; have o1 := o1.below hx o1.lt; have o0 := o0.below hx o0.lt; have hb := hb.trans (hx.mono hb.size); clear hx; have c3 := o1.cell 3 rfl; have f3 := o1.free 3; have c7 := o1.cell 7 rfl; have f7 := o1.free 7)
            | (go_at_call 61; (with_reducible refine (HV _).mono ?_); rintro e w3 ⟨rfl, hx⟩; have o1 := o1.below hx o1.lt; have o0 := o0.below hx o0.lt; have hb := hb.trans (hx.mono hb.size); clear hx; have c3 := o1.cell 3 rfl; have f3 := o1.free 3; have c7 := o1.cell 7 rfl; have f7 := o1.free 7)
            | (go_at_call 62; (with_reducible refine (HD _).mono ?_); rintro e w3 ⟨rfl, hx⟩; have o1 := o1.below hx o1.lt; have o0 := o0.below hx o0.lt; have hb := hb.trans (hx.mono hb.size); clear hx; have c3 := o1.cell 3 rfl; have f3 := o1.free 3; have c7 := o1.cell 7 rfl; have f7 := o1.free 7)
            | (go_at_call 63; (with_reducible refine (HN _).mono ?_); rintro e w3 ⟨rfl, rfl⟩))
          go_roundw
          case rel => exact ⟨k + 1, by omega, by go_num, by rw [H3.out]; exact (((o1.set 3 (.bool false)).set 7 (.string ⟨#[]⟩)).set 7 (.string ⟨#[]⟩)), (((o0.other (p := ⟨w.heap.size + 1, 3, none⟩) (Nat.succ_ne_self _) (.bool false)).other (p := ⟨w.heap.size + 1, 7, none⟩) (Nat.succ_ne_self _) (.string ⟨#[]⟩)).other (p := ⟨w.heap.size + 1, 7, none⟩) (Nat.succ_ne_self _) (.string ⟨#[]⟩)), (((hb.setCell (p := ⟨w.heap.size + 1, 3, none⟩) (Nat.le_succ _) (.bool false)).setCell (p := ⟨w.heap.size + 1, 7, none⟩) (Nat.le_succ _) (.string ⟨#[]⟩)).setCell (p := ⟨w.heap.size + 1, 7, none⟩) (Nat.le_succ _) (.string ⟨#[]⟩))⟩
          case measure => simp [intOf]; omega
        have hve : (x2 == []) = false := beq_eq_false_iff_ne.2 hv
        have hvp : 0 < x2.length := List.length_pos_iff.2 hv
        have hi0 : ∀ w : World, (Instr.index 9 (.string (str x2)) (.int .i64 0)).run Tryz.prog w = .ok (.int .u8 ((x2.getD 0 0).toNat : Int)) w := fun w => run_index_str w 9 x2 .i64 0 Tryz.underlying9 hvp
        by_cases hd : x2.getD 0 0 = 47
        · have hd2 : (((x2.getD 0 0).toNat : Int) == 47) = true := by rw [hd]; rfl
          have H3 : Hid (readA (L.take (k + 1)) = { f with hpath := true, path := x2 }) := by
            unfold Hid
            rw [H2.out]
            rw [if_neg h0, if_neg h1, if_neg h2, if_pos rfl]; unfold pathB; rw [hve, hd]; rfl
          generalize ((x2.getD 0 0).toNat : Int) = x at *
          clear H2 e0 e1 e2
          go_wp2_with (first
            | (go_at_call 61; (with_reducible refine (HX _).mono ?_); rintro e w2 ⟨rfl, hx⟩; have o1 := o1.below hx o1.lt; have o0 := o0.below hx o0.lt; have hb := hb.trans (hx.mono hb.size); clear hx; have c3 := o1.cell 3 rfl; have f3 := o1.free 3; have c7 := o1.cell 7 rfl; have f7 := o1.free 7)
            | (go_at_call 61; (with_reducible refine (HV _).mono ?_); rintro e w3 ⟨rfl, hx⟩; have o1 := o1.below hx o1.lt; have o0 := o0.below hx o0.lt; have hb := hb.trans (hx.mono hb.size); clear hx; have c3 := o1.cell 3 rfl; have f3 := o1.free 3; have c7 := o1.cell 7 rfl; have f7 := o1.free 7)
            | (go_at_call 62; (with_reducible refine (HD _).mono ?_); rintro e w3 ⟨rfl, hx⟩; have o1 := o1.below hx o1.lt; have o0 := o0.below hx o0.lt; have hb := hb.trans (hx.mono hb.size); clear hx; have c3 := o1.cell 3 rfl; have f3 := o1.free 3; have c7 := o1.cell 7 rfl; have f7 := o1.free 7)
            | (go_at_call 63; (with_reducible refine (HN _).mono ?_); rintro e w3 ⟨rfl, rfl⟩))
          go_roundw
          case rel => exact ⟨k + 1, by omega, by go_num, by rw [H3.out]; exact ((o1.set 3 (.bool true)).set 7 (.string (str x2))), ((o0.other (p := ⟨w.heap.size + 1, 3, none⟩) (Nat.succ_ne_self _) (.bool true)).other (p := ⟨w.heap.size + 1, 7, none⟩) (Nat.succ_ne_self _) (.string (str x2))), ((hb.setCell (p := ⟨w.heap.size + 1, 3, none⟩) (Nat.le_succ _) (.bool true)).setCell (p := ⟨w.heap.size + 1, 7, none⟩) (Nat.le_succ _) (.string (str x2)))⟩
          case measure => simp [intOf]; omega
        · have hd2 : (((x2.getD 0 0).toNat : Int) == 47) = false := by
            rw [beq_eq_false_iff_ne]
            intro c
            exact hd (UInt8.toNat.inj (by have : (47 : UInt8).toNat = 47 := rfl; omega))
          have H3 : Hid (readA (L.take (k + 1)) = { f with hpath := false, path := [] }) := by
            unfold Hid
            rw [H2.out]
            rw [if_neg h0, if_neg h1, if_neg h2, if_pos rfl]; unfold pathB; rw [hve, show (x2.getD 0 0 == 47) = false from beq_eq_false_iff_ne.2 hd]; rfl
          generalize ((x2.getD 0 0).toNat : Int) = x at *
          clear H2 e0 e1 e2
          go_wp2_with (first
            | (go_at_call 61; (with_reducible refine (HX _).mono ?_); rintro e w2 ⟨rfl, hx⟩; have o1 := o1.below hx o1.lt; have o0 := o0.below hx o0.lt; have hb := hb.trans (hx.mono hb.size); clear hx; have c3 := o1.cell 3 rfl; have f3 := o1.free 3; have c7 := o1.cell 7 rfl; have f7 := o1.free 7)
            | (go_at_call 61; (with_reducible refine (HV _).mono ?_); rintro e w3 ⟨rfl, hx⟩; have o1 := o1.below hx o1.lt; have o0 := o0.below hx o0.lt; have hb := hb.trans (hx.mono hb.size); clear hx; have c3 := o1.cell 3 rfl; have f3 := o1.free 3; have c7 := o1.cell 7 rfl; have f7 := o1.free 7)
            | (go_at_call 62; (with_reducible refine (HD _).mono ?_); rintro e w3 ⟨rfl, hx⟩; have o1 := o1.below hx o1.lt; have o0 := o0.below hx o0.lt; have hb := hb.trans (hx.mono hb.size); clear hx; have c3 := o1.cell 3 rfl; have f3 := o1.free 3; have c7 := o1.cell 7 rfl; have f7 := o1.free 7)
            | (go_at_call 63; (with_reducible refine (HN _).mono ?_); rintro e w3 ⟨rfl, rfl⟩))
          go_roundw
          case rel => exact ⟨k + 1, by omega, by go_num, by rw [H3.out]; exact (((o1.set 3 (.bool false)).set 7 (.string (str x2))).set 7 (.string ⟨#[]⟩)), (((o0.other (p := ⟨w.heap.size + 1, 3, none⟩) (Nat.succ_ne_self _) (.bool false)).other (p := ⟨w.heap.size + 1, 7, none⟩) (Nat.succ_ne_self _) (.string (str x2))).other (p := ⟨w.heap.size + 1, 7, none⟩) (Nat.succ_ne_self _) (.string ⟨#[]⟩)), (((hb.setCell (p := ⟨w.heap.size + 1, 3, none⟩) (Nat.le_succ _) (.bool false)).setCell (p := ⟨w.heap.size + 1, 7, none⟩) (Nat.le_succ _) (.string (str x2))).setCell (p := ⟨w.heap.size + 1, 7, none⟩) (Nat.le_succ _) (.string ⟨#[]⟩))⟩
          case measure => simp [intOf]; omega
      have e3 : (y == [112, 97, 116, 104]) = false := beq_eq_false_iff_ne.2 h3
      by_cases h4 : y = nSecure
      · subst h4
        unfold nSecure at HX
        have H3 : Hid (readA (L.take (k + 1)) = { f with sec := true }) := by
          unfold Hid
          rw [H2.out]
          rw [if_neg h0, if_neg h1, if_neg h2, if_neg h3, if_pos rfl]
        clear H2 e0 e1 e2 e3
        go_wp2_with (first
          | (go_at_call 61; (with_reducible refine (HX _).mono ?_); rintro e w2 ⟨rfl, hx⟩; have o1 := o1.below hx o1.lt; have o0 := o0.below hx o0.lt; have hb := hb.trans (hx.mono hb.size); clear hx; have c8 := o1.cell 8 rfl; have f8 := o1.free 8)
          | (go_at_call 61; (with_reducible refine (HV _).mono ?_); rintro e w3 ⟨rfl, hx⟩; have o1 := o1.below hx o1.lt; have o0 := o0.below hx o0.lt; have hb := hb.trans (hx.mono hb.size); clear hx; have c8 := o1.cell 8 rfl; have f8 := o1.free 8)
          | (go_at_call 62; (with_reducible refine (HD _).mono ?_); rintro e w3 ⟨rfl, hx⟩; have o1 := o1.below hx o1.lt; have o0 := o0.below hx o0.lt; have hb := hb.trans (hx.mono hb.size); clear hx; have c8 := o1.cell 8 rfl; have f8 := o1.free 8)
          | (go_at_call 63; (with_reducible refine (HN _).mono ?_); rintro e w3 ⟨rfl, rfl⟩))
        go_roundw
        case rel => exact ⟨k + 1, by omega, by go_num, by rw [H3.out]; exact (o1.set 8 (.bool true)), (o0.other (p := ⟨w.heap.size + 1, 8, none⟩) (Nat.succ_ne_self _) (.bool true)), (hb.setCell (p := ⟨w.heap.size + 1, 8, none⟩) (Nat.le_succ _) (.bool true))⟩
        case measure => simp [intOf]; omega
      have e4 : (y == [115, 101, 99, 117, 114, 101]) = false := beq_eq_false_iff_ne.2 h4
      by_cases h5 : y = nHttp
      · subst h5
        unfold nHttp at HX
        have H3 : Hid (readA (L.take (k + 1)) = { f with http := true }) := by
          unfold Hid
          rw [H2.out]
          rw [if_neg h0, if_neg h1, if_neg h2, if_neg h3, if_neg h4, if_pos rfl]
        clear H2 e0 e1 e2 e3 e4
        go_wp2_with (first
          | (go_at_call 61; (with_reducible refine (HX _).mono ?_); rintro e w2 ⟨rfl, hx⟩; have o1 := o1.below hx o1.lt; have o0 := o0.below hx o0.lt; have hb := hb.trans (hx.mono hb.size); clear hx; have c9 := o1.cell 9 rfl; have f9 := o1.free 9)
          | (go_at_call 61; (with_reducible refine (HV _).mono ?_); rintro e w3 ⟨rfl, hx⟩; have o1 := o1.below hx o1.lt; have o0 := o0.below hx o0.lt; have hb := hb.trans (hx.mono hb.size); clear hx; have c9 := o1.cell 9 rfl; have f9 := o1.free 9)
          | (go_at_call 62; (with_reducible refine (HD _).mono ?_); rintro e w3 ⟨rfl, hx⟩; have o1 := o1.below hx o1.lt; have o0 := o0.below hx o0.lt; have hb := hb.trans (hx.mono hb.size); clear hx; have c9 := o1.cell 9 rfl; have f9 := o1.free 9)
          | (go_at_call 63; (with_reducible refine (HN _).mono ?_); rintro e w3 ⟨rfl, rfl⟩))
        go_roundw
        case rel => exact ⟨k + 1, by omega, by go_num, by rw [H3.out]; exact (o1.set 9 (.bool true)), (o0.other (p := ⟨w.heap.size + 1, 9, none⟩) (Nat.succ_ne_self _) (.bool true)), (hb.setCell (p := ⟨w.heap.size + 1, 9, none⟩) (Nat.le_succ _) (.bool true))⟩
        case measure => simp [intOf]; omega
      have e5 : (y == [104, 116, 116, 112, 111, 110, 108, 121]) = false := beq_eq_false_iff_ne.2 h5
      have H3 : Hid (readA (L.take (k + 1)) = f) := by
        unfold Hid
        rw [H2.out]
        rw [if_neg h0, if_neg h1, if_neg h2, if_neg h3, if_neg h4, if_neg h5]
      clear H2
      go_wp2_with (first
        | (go_at_call 61; (with_reducible refine (HX _).mono ?_); rintro e w2 ⟨rfl, hx⟩; have o1 := o1.below hx o1.lt; have o0 := o0.below hx o0.lt; have hb := hb.trans (hx.mono hb.size); clear hx; skip)
        | (go_at_call 61; (with_reducible refine (HV _).mono ?_); rintro e w3 ⟨rfl, hx⟩; have o1 := o1.below hx o1.lt; have o0 := o0.below hx o0.lt; have hb := hb.trans (hx.mono hb.size); clear hx; skip)
        | (go_at_call 62; (with_reducible refine (HD _).mono ?_); rintro e w3 ⟨rfl, hx⟩; have o1 := o1.below hx o1.lt; have o0 := o0.below hx o0.lt; have hb := hb.trans (hx.mono hb.size); clear hx; skip)
        | (go_at_call 63; (with_reducible refine (HN _).mono ?_); rintro e w3 ⟨rfl, rfl⟩))
      go_roundw
      case rel => exact ⟨k + 1, by omega, by go_num, by rw [H3.out]; exact o1, o0, hb⟩
      case measure => simp [intOf]; omega
    · obtain rfl : k = n := by omega
      have e : Hid (L.take k = L) := by unfold Hid; rw [List.take_of_length_le (by rw [Hn.out]; exact Nat.le_refl _)]
      generalize hf : readA (L.take k) = f at *
      have hf2 : Hid (readA L = f) := by unfold Hid; rw [← hf, e.out]
      clear hf
      have c0 := o1.cell 0 rfl
      have f0 := o1.free 0
      have d0 := o0.cell 0 rfl
      have g0 := o0.free 0
      have c1 := o1.cell 1 rfl
      have f1 := o1.free 1
      have d1 := o0.cell 1 rfl
      have g1 := o0.free 1
      have c2 := o1.cell 2 rfl
      have f2 := o1.free 2
      have d2 := o0.cell 2 rfl
      have g2 := o0.free 2
      have c3 := o1.cell 3 rfl
      have f3 := o1.free 3
      have d3 := o0.cell 3 rfl
      have g3 := o0.free 3
      have c4 := o1.cell 4 rfl
      have f4 := o1.free 4
      have d4 := o0.cell 4 rfl
      have g4 := o0.free 4
      have c5 := o1.cell 5 rfl
      have f5 := o1.free 5
      have d5 := o0.cell 5 rfl
      have g5 := o0.free 5
      have c6 := o1.cell 6 rfl
      have f6 := o1.free 6
      have d6 := o0.cell 6 rfl
      have g6 := o0.free 6
      have c7 := o1.cell 7 rfl
      have f7 := o1.free 7
      have d7 := o0.cell 7 rfl
      have g7 := o0.free 7
      have c8 := o1.cell 8 rfl
      have f8 := o1.free 8
      have d8 := o0.cell 8 rfl
      have g8 := o0.free 8
      have c9 := o1.cell 9 rfl
      have f9 := o1.free 9
      have d9 := o0.cell 9 rfl
      have g9 := o0.free 9
      go_wp2
      have o9 := ((((((((((o0.set 0 (.bool f.hexp)).set 1 (.bool f.hage)).set 2 (.bool f.hdom)).set 3 (.bool f.hpath)).set 4 (.int .i64 f.exp)).set 5 (.int .i64 f.age)).set 6 (.string (str f.dom))).set 7 (.string (str f.path))).set 8 (.bool f.sec)).set 9 (.bool f.http))
      have r0 := o9.cell 0 rfl
      have r1 := o9.cell 1 rfl
      have r2 := o9.cell 2 rfl
      have r3 := o9.cell 3 rfl
      have r4 := o9.cell 4 rfl
      have r5 := o9.cell 5 rfl
      have r6 := o9.cell 6 rfl
      have r7 := o9.cell 7 rfl
      have r8 := o9.cell 8 rfl
      have r9 := o9.cell 9 rfl
      exact bodyPost_ret (v := valF f) (by simp [results, Tryz.results28, go_sem, valF, r0, r1, r2, r3, r4, r5, r6, r7, r8, r9]) rfl ⟨by rw [hf2.out], ((((((((((hb.setCell (p := ⟨w.heap.size, 0, none⟩) (Nat.le_refl _) (.bool f.hexp)).setCell (p := ⟨w.heap.size, 1, none⟩) (Nat.le_refl _) (.bool f.hage)).setCell (p := ⟨w.heap.size, 2, none⟩) (Nat.le_refl _) (.bool f.hdom)).setCell (p := ⟨w.heap.size, 3, none⟩) (Nat.le_refl _) (.bool f.hpath)).setCell (p := ⟨w.heap.size, 4, none⟩) (Nat.le_refl _) (.int .i64 f.exp)).setCell (p := ⟨w.heap.size, 5, none⟩) (Nat.le_refl _) (.int .i64 f.age)).setCell (p := ⟨w.heap.size, 6, none⟩) (Nat.le_refl _) (.string (str f.dom))).setCell (p := ⟨w.heap.size, 7, none⟩) (Nat.le_refl _) (.string (str f.path))).setCell (p := ⟨w.heap.size, 8, none⟩) (Nat.le_refl _) (.bool f.sec)).setCell (p := ⟨w.heap.size, 9, none⟩) (Nat.le_refl _) (.bool f.http))⟩
end Go.Proofs.YthefieemngmnjaaGreatDoor
