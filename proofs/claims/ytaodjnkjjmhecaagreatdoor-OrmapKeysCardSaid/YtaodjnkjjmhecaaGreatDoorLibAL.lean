/- Contracts and plain words that the laws' proofs stand on. -/
import Derived.Test.YtaodjnkjjmhecaaGreatDoorLibAB
namespace Go.Proofs.YtaodjnkjjmhecaaGreatDoor
open Go.RowKit
set_option linter.unusedVariables false
theorem find_front {O : List DotN} {x : DotN} {K : Nat} (h : ∀ (j : Nat) (y : DotN), j < K → O[j]? = some y → lessD y x = true) (hK : K ≤ O.length) (hs : K = O.length ∨ ∃ y, O[K]? = some y ∧ lessD y x = false) : (O.findIdx fun y => !lessD y x) = K := by
  rcases hs with rfl | ⟨y, hy, hl⟩
  · rw [List.findIdx_eq_length]
    intro z hz
    obtain ⟨i, hi, rfl⟩ := List.mem_iff_getElem.1 hz
    rw [h i _ hi (List.getElem?_eq_getElem hi)]
    rfl
  · obtain ⟨h1, rfl⟩ := List.getElem?_eq_some_iff.1 hy
    refine (List.findIdx_eq h1).2 ⟨by rw [hl]; rfl, fun j hj => ?_⟩
    rw [h j _ hj (List.getElem?_eq_getElem (by omega))]
    rfl
set_option maxHeartbeats 8000000 in
set_option maxRecDepth 100000 in
theorem refSortDC (a : Option Addr) (n c : Nat) (L : List DotN) (w : World) (hL : RowOf encD 3 w a n c L) (hn : n ≤ 100000) :
    Calls Tryz.prog 66 #[.slice a n c] w (GivesZ encD 3 35 (sortD L) (sortD L).length w) := by
  have HL := Lib.hid hL
  have Hn : Hid (L.length = n) := hL.leq
  have hcm := hL.capm
  have hcl := hL.cle
  unfold maxLen at hcm
  obtain ⟨i0, hi, hz0, hz1, hz2⟩ := info_parts infoDot
  have hO0 := OwnZ.lit encD 3 35 w
  have hb0 := below_alloc w (.cells #[] 35)
  unfold GivesZ
  clear hL
  go_enter Tryz.func66, Tryz.ntmps66
  go_wp2
  go_loopw [3, 4] (fun l i wr => ∃ (k m : Nat) (b : Option Addr) (C : Nat), k ≤ n ∧ m ≤ k ∧ l = .slice b m C ∧ i = .int .i64 (k : Int) ∧ OwnZ encD 3 w.heap.size 35 b m C (sortD (L.take k)) wr ∧ (∃ g, b = some ⟨g, 0, none⟩) ∧ Below w.heap.size w wr) (fun _ i _ => n - (intOf i).toNat)
  case atStart => exact ⟨0, 0, _, _, Nat.zero_le _, Nat.le_refl _, rfl, rfl, hO0, ⟨_, rfl⟩, hb0⟩
  case round =>
    clear hO0 hb0
    obtain ⟨k, m, b, C, hk, hmk, rfl, rfl, hO, ⟨g0, rfl⟩, hB⟩ := hrel
    have hbs := hB.size
    by_cases hlt : k < n
    · have hlt' : (k : Int) < (n : Int) := by omega
      have hlen : (sortD (L.take k)).length = m := hO.2.1
      have hC1 := hO.2.2.1
      have hC2 := hO.2.2.2
      unfold maxLen at hC2
      obtain ⟨x, hx⟩ : ∃ x, L[k]? = some x := ⟨_, List.getElem?_eq_getElem (by rw [Hn.out]; exact hlt)⟩
      have hst : Hid (sortD (L.take (k + 1)) = insD x (sortD (L.take k))) := by unfold Hid; rw [take_snocI hx, sortD_snoc]
      have HLk := Lib.hid (HL.out.below hB)
      generalize sortD (L.take k) = O at *
      have HX := Lib.hid hx
      clear hx
      have HO := Lib.hid hO
      have HB := Lib.hid hB
      clear hO hB
      obtain ⟨wo, hwo⟩ : ∃ wo, wo = wr := ⟨wr, rfl⟩
      subst hwo
      go_wp2_with fail
      go_loopw [5] (fun kv wr2 => ∃ K : Nat, K ≤ m ∧ kv = .int .i64 (K : Int) ∧ Hid (∀ (j : Nat) (y : DotN), j < K → O[j]? = some y → lessD y x = true) ∧ Below wo.heap.size wo wr2) (fun kv _ => m - (intOf kv).toNat)
      case atStart => exact ⟨0, Nat.zero_le _, rfl, fun j y hj => absurd hj (Nat.not_lt_zero _), Below.refl _ _⟩
      case round =>
        obtain ⟨K, hK, rfl, hs, hB2⟩ := hrel
        have HB2 := Lib.hid hB2
        clear hB2
        obtain ⟨x', g1, o1, hx', rfl, c0, c1, c2⟩ := dot_at (HLk.out.below HB2.out) k hlt
        have hxx : x' = x := by have := HX.out; rw [hx'] at this; cases this; rfl
        subst hxx
        clear hx'
        by_cases h0 : K < m
        · obtain ⟨y, g2, o2, hy, hy2, d0, d1, d2⟩ := dot_at ((HO.out.row encD_len).below HB2.out) K h0
          cases hy2
          simp only [Nat.zero_add] at d0 d1 d2
          have HA := fun w => refDLessC y x' w
          have g0' : decide ((K : Int) < (m : Int)) = true := decide_eq_true (by omega)
          have g1' : (K : Int) < (m : Int) := by omega
          have i1 : (0 : Int) ≤ (K : Int) := by omega
          cases hab : lessD y x' with
          | true =>
            simp only [hab] at HA
            have hnext : Hid (∀ (j : Nat) (z : DotN), j < K + 1 → O[j]? = some z → lessD z x' = true) := fun j z hj hz => by
              by_cases e : j = K
              · subst e
                rw [hy] at hz
                cases hz
                exact hab
              · exact hs.out j z (by omega) hz
            clear hs hab hy
            go_wp2_with fail
            have hdr : Below wr.heap.size wr wr.drew := (Below.refl _ wr).drew
            have hS0 : ∀ w', Below wr.heap.size wr w' → w'.cell? ⟨g0, K * 3, none⟩ = some (.int .i64 y.dev) ∧ w'.cell? ⟨g0, K * 3 + 1, none⟩ = some (.int .i64 y.inc) ∧ w'.cell? ⟨g0, K * 3 + 2, none⟩ = some (.int .i64 y.seq) ∧ w'.cell? ⟨g1, o1 + k * 3, none⟩ = some (.int .i64 x'.dev) ∧ w'.cell? ⟨g1, o1 + k * 3 + 1, none⟩ = some (.int .i64 x'.inc) ∧ w'.cell? ⟨g1, o1 + k * 3 + 2, none⟩ = some (.int .i64 x'.seq) := fun w' hx => ⟨(hx.cell (cell_lt d0)).trans d0, (hx.cell (cell_lt d1)).trans d1, (hx.cell (cell_lt d2)).trans d2, (hx.cell (cell_lt c0)).trans c0, (hx.cell (cell_lt c1)).trans c1, (hx.cell (cell_lt c2)).trans c2⟩
            go_region_held3 (fun w' => w'.cell? ⟨g0, K * 3, none⟩ = some (.int .i64 y.dev) ∧ w'.cell? ⟨g0, K * 3 + 1, none⟩ = some (.int .i64 y.inc) ∧ w'.cell? ⟨g0, K * 3 + 2, none⟩ = some (.int .i64 y.seq) ∧ w'.cell? ⟨g1, o1 + k * 3, none⟩ = some (.int .i64 x'.dev) ∧ w'.cell? ⟨g1, o1 + k * 3 + 1, none⟩ = some (.int .i64 x'.inc) ∧ w'.cell? ⟨g1, o1 + k * 3 + 2, none⟩ = some (.int .i64 x'.seq))
              (first | exact hS0 _ hdr | exact hS0 _ (hdr.trans hx))
              (first | (go_at_call 101; (with_reducible refine (HA _).mono ?_); rintro e w3 ⟨rfl, hx⟩))
            all_goals
              go_wp2_with fail
              go_roundw
              case rel => exact ⟨K + 1, by omega, by go_num, hnext, HB2.out.trans ((hdr.trans hx).mono HB2.out.size)⟩
              case measure => simp [intOf]; omega
          | false =>
            simp only [hab] at HA
            have hfi := Lib.hid (find_front hs.out (by omega) (.inr ⟨y, hy, hab⟩))
            have hyh := Lib.hid hy
            clear hs hab hy
            go_wp2_with fail
            have hdr : Below wr.heap.size wr wr.drew := (Below.refl _ wr).drew
            have hS0 : ∀ w', Below wr.heap.size wr w' → w'.cell? ⟨g0, K * 3, none⟩ = some (.int .i64 y.dev) ∧ w'.cell? ⟨g0, K * 3 + 1, none⟩ = some (.int .i64 y.inc) ∧ w'.cell? ⟨g0, K * 3 + 2, none⟩ = some (.int .i64 y.seq) ∧ w'.cell? ⟨g1, o1 + k * 3, none⟩ = some (.int .i64 x'.dev) ∧ w'.cell? ⟨g1, o1 + k * 3 + 1, none⟩ = some (.int .i64 x'.inc) ∧ w'.cell? ⟨g1, o1 + k * 3 + 2, none⟩ = some (.int .i64 x'.seq) := fun w' hx => ⟨(hx.cell (cell_lt d0)).trans d0, (hx.cell (cell_lt d1)).trans d1, (hx.cell (cell_lt d2)).trans d2, (hx.cell (cell_lt c0)).trans c0, (hx.cell (cell_lt c1)).trans c1, (hx.cell (cell_lt c2)).trans c2⟩
            go_region_held3 (fun w' => w'.cell? ⟨g0, K * 3, none⟩ = some (.int .i64 y.dev) ∧ w'.cell? ⟨g0, K * 3 + 1, none⟩ = some (.int .i64 y.inc) ∧ w'.cell? ⟨g0, K * 3 + 2, none⟩ = some (.int .i64 y.seq) ∧ w'.cell? ⟨g1, o1 + k * 3, none⟩ = some (.int .i64 x'.dev) ∧ w'.cell? ⟨g1, o1 + k * 3 + 1, none⟩ = some (.int .i64 x'.inc) ∧ w'.cell? ⟨g1, o1 + k * 3 + 2, none⟩ = some (.int .i64 x'.seq))
              (first | exact hS0 _ hdr | exact hS0 _ (hdr.trans hx))
              (first | (go_at_call 101; (with_reducible refine (HA _).mono ?_); rintro e w3 ⟨rfl, hx⟩))
            all_goals
              have hbd3 := HB2.out.trans ((hdr.trans hx).mono HB2.out.size)
              obtain ⟨b0, b1, b2, a0, a1, a2⟩ := hS0 _ (hdr.trans hx)
              have hE := fun v => eqDot y x' v
              have n1 : ((K : Int) == (m : Int)) = false := by rw [beq_eq_false_iff_ne]; omega
              have n2 : ¬ (K : Int) = (m : Int) := by omega
              clear hS0 hdr hx c0 c1 c2 d0 d1 d2
              cases hsd : sameD y x' with
              | true =>
                simp only [hsd] at hE
                have hins : Hid (insD x' O = O) := by unfold Hid insD; rw [hfi.out, hyh.out]; simp [hsd]
                clear hsd
                go_wp2_with fail
                go_quiet (fail)
                go_wp2_with fail
                go_roundw
                case rel => exact ⟨k + 1, m, _, C, by omega, by omega, rfl, by go_num, by rw [hst.out, hins.out]; exact HO.out.below (below_drawn2 hbd3 _) (Nat.le_refl _), ⟨_, rfl⟩, HB.out.trans ((below_drawn2 hbd3 _).mono HB.out.size)⟩
                case measure => simp [intOf]; omega
              | false =>
                simp only [hsd] at hE
                have hins : Hid (insD x' O = O.take K ++ x' :: O.drop K) := by unfold Hid insD; rw [hfi.out, hyh.out]; simp [hsd]
                clear hsd
                go_wp2_with fail
                go_quiet (fail)
                go_wp2_with fail
                refine wp_some (fun wd => Below wo.heap.size wo wd) (below_drawn2 hbd3 _) ?_
                clear hbd3 b0 b1 b2 a0 a1 a2 hE
                rintro wd hbd
                have hOd := (HO.out.below hbd (Nat.le_refl _)).row encD_len
                have hLd := HLk.out.below hbd
                have hd : Below wd.heap.size wd wd.drew := (Below.refl _ wd).drew
                have hW1 : Below wd.heap.size wd (wd.alloc (.cells #[] 35)).drew := (below_alloc wd _).drew
                have hW2 : Below wd.heap.size wd ((wd.alloc (.cells #[] 35)).alloc (.cells #[.int .i64 x'.dev, .int .i64 x'.inc, .int .i64 x'.seq] 35)).drew := ((below_alloc wd _).alloc (by simp) _).drew
                have hW3 : Below wd.heap.size wd ((wd.alloc (.cells #[.int .i64 x'.dev, .int .i64 x'.inc, .int .i64 x'.seq] 35)).alloc (.cells #[] 35)).drew := ((below_alloc wd _).alloc (by simp) _).drew
                have hA1 := (OwnZ.lit encD 3 35 wd).below (Below.refl _ _).drew (Nat.le_refl _)
                have hA2 := ((OwnZ.lit encD 3 35 wd).below (below_alloc _ (.cells #[.int .i64 x'.dev, .int .i64 x'.inc, .int .i64 x'.seq] 35)) (Nat.le_refl _)).below (Below.refl _ _).drew (Nat.le_refl _)
                have s1 : (wd.alloc (.cells #[.int .i64 x'.dev, .int .i64 x'.inc, .int .i64 x'.seq] 35)).heap.size = wd.heap.size + 1 := by simp
                have s2 : (wd.alloc (.cells #[] 35)).heap.size = wd.heap.size + 1 := by simp
                have hA3 := ((OwnZ.lit encD 3 35 (wd.alloc (.cells #[.int .i64 x'.dev, .int .i64 x'.inc, .int .i64 x'.seq] 35))).below (Below.refl _ _).drew (Nat.le_refl _)).base (base' := wd.heap.size) (by rw [s1]; exact Nat.le_succ _)
                have hx2 := (((OwnZ.new encD_len [x'] #[.int .i64 x'.dev, .int .i64 x'.inc, .int .i64 x'.seq] rfl 1 rfl (by unfold maxLen; omega) 35 (wd.alloc (.cells #[] 35))).below (Below.refl _ _).drew (Nat.le_refl _)).row encD_len)
                have hx3 := ((((OwnZ.new encD_len [x'] #[.int .i64 x'.dev, .int .i64 x'.inc, .int .i64 x'.seq] rfl 1 rfl (by unfold maxLen; omega) 35 wd).below (below_alloc _ (.cells #[] 35)) (Nat.le_refl _)).below (Below.refl _ _).drew (Nat.le_refl _)).row encD_len)
                rw [s1] at hA3
                rw [s2] at hx2
                have F1 := fun W (h : Below wd.heap.size wd W) => row_front (hOd.below h) K hK
                obtain ⟨x9, g9, o9, hx9, hx9', e0, e1, e2⟩ := dot_at hLd k hlt
                have hxx9 : x9 = x' := by have := HX.out; rw [hx9] at this; cases this; rfl
                subst hxx9
                cases hx9'
                clear hx9
                have fc0 := (hd.cell (cell_lt e0)).trans e0; have fc1 := (hd.cell (cell_lt e1)).trans e1; have fc2 := (hd.cell (cell_lt e2)).trans e2; skip
                have gc0 := (hW1.cell (cell_lt e0)).trans e0; have gc1 := (hW1.cell (cell_lt e1)).trans e1; have gc2 := (hW1.cell (cell_lt e2)).trans e2; skip
                have q1 : (0 : Int) ≤ (K : Int) := by omega
                have q2 : (K : Int) ≤ (m : Int) := by omega
                have q3 : (m : Int) ≤ (C : Int) := by omega
                have q4 : (K : Int) ≤ (C : Int) := by omega
                clear e0 e1 e2
                have F2 : ∀ W, Below wd.heap.size wd W → RowOf encD 3 W (if C = K then some ⟨g0, 0, none⟩ else some ⟨g0, K * 3, none⟩) (m - K) (C - K) (O.drop K) := fun W h => by
                  split
                  · exact row_back (hOd.below h) K hK 0 (fun c => by omega)
                  · exact row_back (hOd.below h) K hK _ (fun c => by omega)
                go_region_law (first
                  | (refine step_append_rows encD_len (by decide) encD_one (by rfl) (.tmp 45) (.tmp 48) 29 (by rfl) 35 i0 (.agg #[.int .i64 0, .int .i64 0, .int .i64 0]) 24 Tryz.underlying29 hi hz0 hz1 hz2 rfl  hA1 rfl (F1 _ hW1) rfl K (by omega) (by unfold maxLen; omega) (by omega) hW1.size ?_; intro a5 q5 w5 hO5 hb5 hg5 ha5; have hB5 := hW1.trans hb5; obtain ⟨x5, g5', o5', hx5e, hx5f, e0, e1, e2⟩ := dot_at (hLd.below hB5) k hlt; cases hx5f; have hh : x9 = x5 := (by have := HX.out; rw [hx5e] at this; cases this; rfl); subst hh; clear hx5e)
                  | (refine step_append_rows encD_len (by decide) encD_one (by rfl) (.tmp 45) (.tmp 48) 29 (by rfl) 35 i0 (.agg #[.int .i64 0, .int .i64 0, .int .i64 0]) 24 Tryz.underlying29 hi hz0 hz1 hz2 rfl  hA2 rfl (F1 _ hW2) rfl K (by omega) (by unfold maxLen; omega) (by omega) hW2.size ?_; intro a5 q5 w5 hO5 hb5 hg5 ha5; have hB5 := hW2.trans hb5; have hx5 := row_grown hx2 hg5 (fun z hz => by cases hz; intro y hy; cases hy; simp))
                  | (refine step_append_rows encD_len (by decide) encD_one (by rfl) (.tmp 45) (.tmp 48) 29 (by rfl) 35 i0 (.agg #[.int .i64 0, .int .i64 0, .int .i64 0]) 24 Tryz.underlying29 hi hz0 hz1 hz2 rfl  hA3 rfl (F1 _ hW3) rfl K (by omega) (by unfold maxLen; omega) (by omega) hW3.size ?_; intro a5 q5 w5 hO5 hb5 hg5 ha5; have hB5 := hW3.trans hb5; have hx5 := row_grown hx3 hg5 (fun z hz => by cases hz; intro y hy; cases hy; simp))
                  | (refine step_append_row1 encD_len (by decide) encD_one (by rfl) (.tmp 49) (.tmp 54) 29 (by rfl) 35 i0 (.agg #[.int .i64 0, .int .i64 0, .int .i64 0]) 24 Tryz.underlying29 hi hz0 hz1 hz2 rfl  hO5 rfl x9 rfl rfl (K + 1) rfl (by unfold maxLen; omega) (by omega) hB5.size ?_; intro a7 q7 w7 hO7 hb7 hg7 ha7; have hB7 := hB5.trans hb7)
                  | (refine step_append_rows encD_len (by decide) encD_one (by rfl) (.tmp 49) (.tmp 54) 29 (by rfl) 35 i0 (.agg #[.int .i64 0, .int .i64 0, .int .i64 0]) 24 Tryz.underlying29 hi hz0 hz1 hz2 rfl  hO5 rfl hx5 rfl (K + 1) rfl (by unfold maxLen; omega) (by omega) hB5.size ?_; intro a7 q7 w7 hO7 hb7 hg7 ha7; have hB7 := hB5.trans hb7)
                  | (refine step_append_rows encD_len (by decide) encD_one (by rfl) (.tmp 55) (.tmp 58) 29 (by rfl) 35 i0 (.agg #[.int .i64 0, .int .i64 0, .int .i64 0]) 24 Tryz.underlying29 hi hz0 hz1 hz2 rfl  hO7 rfl (F2 _ hB7) rfl (m + 1) (by omega) (by unfold maxLen; omega) (by omega) hB7.size ?_; intro a9 q9 w9 hO9 hb9 hg9 ha9; have hB9 := hB7.trans hb9))
                all_goals
                  have hB10 := hbd.trans (hB9.mono hbd.size)
                  have hlist : Hid ((([] ++ O.take K) ++ [x9]) ++ O.drop K = insD x9 O) := by unfold Hid; rw [hins.out]; simp
                  have hg10 : ∃ g, a9 = some ⟨g, 0, none⟩ := by rcases hO9.head with ⟨_, cz, _⟩ | ⟨g, e, _, _⟩ <;> first | exact ⟨g, e⟩ | omega
                  go_wp2_with fail
                  go_roundw
                  case rel => exact ⟨k + 1, m + 1, a9, q9, by omega, by omega, rfl, by go_num, by rw [hst.out, ← hlist.out]; exact hO9.base (Nat.le_trans HB.out.size hbd.size), hg10, HB.out.trans (hB10.mono HB.out.size)⟩
                  case measure => simp [intOf]; omega
        · obtain rfl : K = m := by omega
          have hfi := Lib.hid (find_front hs.out (by omega) (.inl hlen.symm))
          have hins : Hid (insD x' O = O.take K ++ x' :: O.drop K) := by
            unfold Hid insD
            rw [hfi.out, List.getElem?_eq_none (by omega)]
            simp
          have g0' : decide ((K : Int) < (K : Int)) = false := decide_eq_false (by omega)
          have g1' : ¬ (K : Int) < (K : Int) := by omega
          have n1 : ((K : Int) == (K : Int)) = true := by simp
          clear hs c0 c1 c2
          go_wp2_with fail
          go_quiet (fail)
          go_wp2_with fail
          go_quiet (fail)
          go_wp2_with fail
          refine wp_some (fun wd => Below wo.heap.size wo wd) (below_drawn2 (below_drawn2 HB2.out _) _) ?_
          clear HB2 h0 g0' g1' n1
          rintro wd hbd
          have hOd := (HO.out.below hbd (Nat.le_refl _)).row encD_len
          have hLd := HLk.out.below hbd
          have hd : Below wd.heap.size wd wd.drew := (Below.refl _ wd).drew
          have hW1 : Below wd.heap.size wd (wd.alloc (.cells #[] 35)).drew := (below_alloc wd _).drew
          have hW2 : Below wd.heap.size wd ((wd.alloc (.cells #[] 35)).alloc (.cells #[.int .i64 x'.dev, .int .i64 x'.inc, .int .i64 x'.seq] 35)).drew := ((below_alloc wd _).alloc (by simp) _).drew
          have hW3 : Below wd.heap.size wd ((wd.alloc (.cells #[.int .i64 x'.dev, .int .i64 x'.inc, .int .i64 x'.seq] 35)).alloc (.cells #[] 35)).drew := ((below_alloc wd _).alloc (by simp) _).drew
          have hA1 := (OwnZ.lit encD 3 35 wd).below (Below.refl _ _).drew (Nat.le_refl _)
          have hA2 := ((OwnZ.lit encD 3 35 wd).below (below_alloc _ (.cells #[.int .i64 x'.dev, .int .i64 x'.inc, .int .i64 x'.seq] 35)) (Nat.le_refl _)).below (Below.refl _ _).drew (Nat.le_refl _)
          have s1 : (wd.alloc (.cells #[.int .i64 x'.dev, .int .i64 x'.inc, .int .i64 x'.seq] 35)).heap.size = wd.heap.size + 1 := by simp
          have s2 : (wd.alloc (.cells #[] 35)).heap.size = wd.heap.size + 1 := by simp
          have hA3 := ((OwnZ.lit encD 3 35 (wd.alloc (.cells #[.int .i64 x'.dev, .int .i64 x'.inc, .int .i64 x'.seq] 35))).below (Below.refl _ _).drew (Nat.le_refl _)).base (base' := wd.heap.size) (by rw [s1]; exact Nat.le_succ _)
          have hx2 := (((OwnZ.new encD_len [x'] #[.int .i64 x'.dev, .int .i64 x'.inc, .int .i64 x'.seq] rfl 1 rfl (by unfold maxLen; omega) 35 (wd.alloc (.cells #[] 35))).below (Below.refl _ _).drew (Nat.le_refl _)).row encD_len)
          have hx3 := ((((OwnZ.new encD_len [x'] #[.int .i64 x'.dev, .int .i64 x'.inc, .int .i64 x'.seq] rfl 1 rfl (by unfold maxLen; omega) 35 wd).below (below_alloc _ (.cells #[] 35)) (Nat.le_refl _)).below (Below.refl _ _).drew (Nat.le_refl _)).row encD_len)
          rw [s1] at hA3
          rw [s2] at hx2
          have F1 := fun W (h : Below wd.heap.size wd W) => row_front (hOd.below h) K hK
          obtain ⟨x9, g9, o9, hx9, hx9', e0, e1, e2⟩ := dot_at hLd k hlt
          have hxx9 : x9 = x' := by have := HX.out; rw [hx9] at this; cases this; rfl
          subst hxx9
          cases hx9'
          clear hx9
          have fc0 := (hd.cell (cell_lt e0)).trans e0; have fc1 := (hd.cell (cell_lt e1)).trans e1; have fc2 := (hd.cell (cell_lt e2)).trans e2; skip
          have gc0 := (hW1.cell (cell_lt e0)).trans e0; have gc1 := (hW1.cell (cell_lt e1)).trans e1; have gc2 := (hW1.cell (cell_lt e2)).trans e2; skip
          have q1 : (0 : Int) ≤ (K : Int) := by omega
          have q2 : (K : Int) ≤ (K : Int) := by omega
          have q3 : (K : Int) ≤ (C : Int) := by omega
          have q4 : (K : Int) ≤ (C : Int) := by omega
          clear e0 e1 e2
          have F2 : ∀ W, Below wd.heap.size wd W → RowOf encD 3 W (if C = K then some ⟨g0, 0, none⟩ else some ⟨g0, K * 3, none⟩) 0 (C - K) (O.drop K) := fun W h => by
            split
            · have q := row_back (hOd.below h) K hK 0 (fun c => by omega); rw [Nat.sub_self] at q; exact q
            · have q := row_back (hOd.below h) K hK (K * 3) (fun c => by omega); rw [Nat.sub_self] at q; exact q
          go_region_law (first
            | (refine step_append_rows encD_len (by decide) encD_one (by rfl) (.tmp 45) (.tmp 48) 29 (by rfl) 35 i0 (.agg #[.int .i64 0, .int .i64 0, .int .i64 0]) 24 Tryz.underlying29 hi hz0 hz1 hz2 rfl  hA1 rfl (F1 _ hW1) rfl K (by omega) (by unfold maxLen; omega) (by omega) hW1.size ?_; intro a5 q5 w5 hO5 hb5 hg5 ha5; have hB5 := hW1.trans hb5; obtain ⟨x5, g5', o5', hx5e, hx5f, e0, e1, e2⟩ := dot_at (hLd.below hB5) k hlt; cases hx5f; have hh : x9 = x5 := (by have := HX.out; rw [hx5e] at this; cases this; rfl); subst hh; clear hx5e)
            | (refine step_append_rows encD_len (by decide) encD_one (by rfl) (.tmp 45) (.tmp 48) 29 (by rfl) 35 i0 (.agg #[.int .i64 0, .int .i64 0, .int .i64 0]) 24 Tryz.underlying29 hi hz0 hz1 hz2 rfl  hA2 rfl (F1 _ hW2) rfl K (by omega) (by unfold maxLen; omega) (by omega) hW2.size ?_; intro a5 q5 w5 hO5 hb5 hg5 ha5; have hB5 := hW2.trans hb5; have hx5 := row_grown hx2 hg5 (fun z hz => by cases hz; intro y hy; cases hy; simp))
            | (refine step_append_rows encD_len (by decide) encD_one (by rfl) (.tmp 45) (.tmp 48) 29 (by rfl) 35 i0 (.agg #[.int .i64 0, .int .i64 0, .int .i64 0]) 24 Tryz.underlying29 hi hz0 hz1 hz2 rfl  hA3 rfl (F1 _ hW3) rfl K (by omega) (by unfold maxLen; omega) (by omega) hW3.size ?_; intro a5 q5 w5 hO5 hb5 hg5 ha5; have hB5 := hW3.trans hb5; have hx5 := row_grown hx3 hg5 (fun z hz => by cases hz; intro y hy; cases hy; simp))
            | (refine step_append_row1 encD_len (by decide) encD_one (by rfl) (.tmp 49) (.tmp 54) 29 (by rfl) 35 i0 (.agg #[.int .i64 0, .int .i64 0, .int .i64 0]) 24 Tryz.underlying29 hi hz0 hz1 hz2 rfl  hO5 rfl x9 rfl rfl (K + 1) rfl (by unfold maxLen; omega) (by omega) hB5.size ?_; intro a7 q7 w7 hO7 hb7 hg7 ha7; have hB7 := hB5.trans hb7)
            | (refine step_append_rows encD_len (by decide) encD_one (by rfl) (.tmp 49) (.tmp 54) 29 (by rfl) 35 i0 (.agg #[.int .i64 0, .int .i64 0, .int .i64 0]) 24 Tryz.underlying29 hi hz0 hz1 hz2 rfl  hO5 rfl hx5 rfl (K + 1) rfl (by unfold maxLen; omega) (by omega) hB5.size ?_; intro a7 q7 w7 hO7 hb7 hg7 ha7; have hB7 := hB5.trans hb7)
            | (refine step_append_rows encD_len (by decide) encD_one (by rfl) (.tmp 55) (.tmp 58) 29 (by rfl) 35 i0 (.agg #[.int .i64 0, .int .i64 0, .int .i64 0]) 24 Tryz.underlying29 hi hz0 hz1 hz2 rfl  hO7 rfl (F2 _ hB7) rfl (K + 1) (by omega) (by unfold maxLen; omega) (by omega) hB7.size ?_; intro a9 q9 w9 hO9 hb9 hg9 ha9; have hB9 := hB7.trans hb9))
          all_goals
            have hB10 := hbd.trans (hB9.mono hbd.size)
            have hlist : Hid ((([] ++ O.take K) ++ [x9]) ++ O.drop K = insD x9 O) := by unfold Hid; rw [hins.out]; simp
            have hg10 : ∃ g, a9 = some ⟨g, 0, none⟩ := by rcases hO9.head with ⟨_, cz, _⟩ | ⟨g, e, _, _⟩ <;> first | exact ⟨g, e⟩ | omega
            go_wp2_with fail
            go_roundw
            case rel => exact ⟨k + 1, K + 1, a9, q9, by omega, by omega, rfl, by go_num, by rw [hst.out, ← hlist.out]; exact hO9.base (Nat.le_trans HB.out.size hbd.size), hg10, HB.out.trans (hB10.mono HB.out.size)⟩
            case measure => simp [intOf]; omega
    · obtain rfl : k = n := by omega
      have e : Hid (L.take k = L) := by unfold Hid; rw [List.take_of_length_le (by rw [Hn.out]; exact Nat.le_refl _)]
      rw [e.out] at hO
      have hm3 : (sortD L).length = m := hO.2.1
      go_wp2
      go_ret
      exact ⟨_, C, by rw [hm3]; rfl, by rw [hm3]; exact hO, hB⟩
end Go.Proofs.YtaodjnkjjmhecaaGreatDoor
