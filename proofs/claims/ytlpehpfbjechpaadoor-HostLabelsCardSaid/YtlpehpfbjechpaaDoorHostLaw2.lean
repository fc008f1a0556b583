/- Layer 8's laws on orders and labels, walked. -/
import Derived.Test.YtlpehpfbjechpaaDoorHostLaw
namespace Go.Proofs.YtlpehpfbjechpaaDoor
open Go.RowKit
set_option linter.unusedVariables false

set_option maxRecDepth 100000 in
theorem hostOrders_walk (s t u : ByteArray) (w : World) (hs : s.size ≤ maxLen) (ht : t.size ≤ maxLen) (hu : u.size ≤ maxLen) (hT : PTab Tryd.prog w) :
    Calls Tryd.prog 5 #[.string s, .string t, .string u] w fun e w' => e = .returned (.bool true) ∧ Below w.heap.size w w' := by
  obtain ⟨a, rfl⟩ : ∃ a, s = str a := ⟨_, str_of s⟩
  obtain ⟨b, rfl⟩ : ∃ b, t = str b := ⟨_, str_of t⟩
  obtain ⟨c, rfl⟩ : ∃ c, u = str c := ⟨_, str_of u⟩
  obtain ⟨n, hn⟩ : ∃ n, a.length = n := ⟨_, rfl⟩
  obtain ⟨m, hm⟩ : ∃ m, b.length = m := ⟨_, rfl⟩
  obtain ⟨r, hr⟩ : ∃ r, c.length = r := ⟨_, rfl⟩
  have s1 : (str a).size = n := by rw [str_size, hn]
  have s2 : (str b).size = m := by rw [str_size, hm]
  have s3 : (str c).size = r := by rw [str_size, hr]
  rw [s1] at hs
  rw [s2] at ht
  rw [s3] at hu
  have HA := fun w (h : PTab Tryd.prog w) => awake08C w h
  have hb := Below.refl w.heap.size w
  have hk := str_toList
  by_cases h1 : 1000 < n
  · have b1 : (1000 : Int) < (n : Int) := by omega
    clear hn hm hr
    go_enter Tryd.func5, Tryd.ntmps5
    go_wp2_with (go_at_call 7; (with_reducible refine (HA _ (hT.below hb)).mono ?_); rintro e ww ⟨rfl, hx⟩; have hb := hb.trans (hx.mono hb.size); clear hx)
    go_ret
    exact ⟨rfl, hb⟩
  have b1 : ¬ (1000 : Int) < (n : Int) := by omega
  by_cases h2 : 1000 < m
  · have b2 : (1000 : Int) < (m : Int) := by omega
    clear hn hm hr
    go_enter Tryd.func5, Tryd.ntmps5
    go_wp2_with (go_at_call 7; (with_reducible refine (HA _ (hT.below hb)).mono ?_); rintro e ww ⟨rfl, hx⟩; have hb := hb.trans (hx.mono hb.size); clear hx)
    go_ret
    exact ⟨rfl, hb⟩
  have b2 : ¬ (1000 : Int) < (m : Int) := by omega
  by_cases h3 : 1000 < r
  · have b3 : (1000 : Int) < (r : Int) := by omega
    clear hn hm hr
    go_enter Tryd.func5, Tryd.ntmps5
    go_wp2_with (go_at_call 7; (with_reducible refine (HA _ (hT.below hb)).mono ?_); rintro e ww ⟨rfl, hx⟩; have hb := hb.trans (hx.mono hb.size); clear hx)
    go_ret
    exact ⟨rfl, hb⟩
  have b3 : ¬ (1000 : Int) < (r : Int) := by omega
  have HC := fun w => refCanonC a n w hn hs
  have H0 := fun w (h : PTab Tryd.prog w) => matchC a a n n w hn hs hn hs h
  rw [match_refl] at H0
  have H1 := fun w (h : PTab Tryd.prog w) => matchC a b n m w hn hs hm ht h
  have H2 := fun w (h : PTab Tryd.prog w) => matchC b a m n w hm ht hn hs h
  have H3 := fun w (h : PTab Tryd.prog w) => matchC b c m r w hm ht hr hu h
  have H4 := fun w (h : PTab Tryd.prog w) => matchC a c n r w hn hs hr hu h
  have hanti := @match_anti a b
  have htr := @match_trans a b c
  clear hn hm hr
  obtain ⟨x1, e1⟩ : ∃ x, matchB a b = x := ⟨_, rfl⟩
  obtain ⟨x2, e2⟩ : ∃ x, matchB b a = x := ⟨_, rfl⟩
  obtain ⟨x3, e3⟩ : ∃ x, matchB b c = x := ⟨_, rfl⟩
  obtain ⟨x4, e4⟩ : ∃ x, matchB a c = x := ⟨_, rfl⟩
  obtain ⟨q, eq⟩ : ∃ x, (a == b) = x := ⟨_, rfl⟩
  rw [e1] at H1 hanti htr
  rw [e2] at H2 hanti
  rw [e3] at H3 htr
  rw [e4] at H4 htr
  have hq : x1 = true → x2 = true → q = true := fun h1 h2 => by rw [← eq, beq_iff_eq.2 (hanti h1 h2)]
  have hcase : (x1 = false) ∨ (x1 = true ∧ x2 = false ∧ x3 = false) ∨ (x1 = true ∧ x2 = false ∧ x3 = true ∧ x4 = true) ∨ (x1 = true ∧ x2 = true ∧ q = true ∧ x3 = false) ∨ (x1 = true ∧ x2 = true ∧ q = true ∧ x3 = true ∧ x4 = true) := by
    cases x1
    · exact .inl rfl
    · refine .inr ?_
      cases x2
      · cases x3
        · exact .inl ⟨rfl, rfl, rfl⟩
        · exact .inr (.inl ⟨rfl, rfl, rfl, htr rfl rfl⟩)
      · have := hq rfl rfl
        cases x3
        · exact .inr (.inr (.inl ⟨rfl, rfl, this, rfl⟩))
        · exact .inr (.inr (.inr ⟨rfl, rfl, this, rfl, htr rfl rfl⟩))
  clear hanti htr hq e1 e2 e3 e4 h1 h2 h3
  generalize canonB a = z at *
  rcases hcase with rfl | ⟨rfl, rfl, rfl⟩ | ⟨rfl, rfl, rfl, rfl⟩ | ⟨rfl, rfl, rfl, rfl⟩ | ⟨rfl, rfl, rfl, rfl, rfl⟩
  all_goals (
    go_enter Tryd.func5, Tryd.ntmps5
    go_wp2_with (first
      | (go_at_call 13; (with_reducible refine (H0 _ (hT.below hb)).mono ?_); rintro e ww ⟨rfl, hx⟩; have hb := hb.trans (hx.mono hb.size); clear hx)
      | (go_at_call 13; (with_reducible refine (H1 _ (hT.below hb)).mono ?_); rintro e ww ⟨rfl, hx⟩; have hb := hb.trans (hx.mono hb.size); clear hx)
      | (go_at_call 13; (with_reducible refine (H2 _ (hT.below hb)).mono ?_); rintro e ww ⟨rfl, hx⟩; have hb := hb.trans (hx.mono hb.size); clear hx)
      | (go_at_call 13; (with_reducible refine (H3 _ (hT.below hb)).mono ?_); rintro e ww ⟨rfl, hx⟩; have hb := hb.trans (hx.mono hb.size); clear hx)
      | (go_at_call 13; (with_reducible refine (H4 _ (hT.below hb)).mono ?_); rintro e ww ⟨rfl, hx⟩; have hb := hb.trans (hx.mono hb.size); clear hx)
      | (go_at_call 12; (with_reducible refine (HC _).mono ?_); rintro e ww ⟨rfl, hx⟩; have hb := hb.trans (hx.mono hb.size); clear hx)
      | (go_at_call 7; (with_reducible refine (HA _ (hT.below hb)).mono ?_); rintro e ww ⟨rfl, hx⟩; have hb := hb.trans (hx.mono hb.size); clear hx))
    go_ret
    exact ⟨rfl, hb⟩)

/-- What Up answers of what is behind a name's first labels. -/
theorem up_tail {s : List UInt8} (h : nameB s = true) (k : Nat) (hk : k < (splitL s 46).length) :
    upL (tailL s k) = if nameB (tailL s k) = true ∧ k + 1 < (splitL s 46).length then (tailL s (k + 1), true) else ([], false) := by
  obtain ⟨-, -, hall⟩ := name_labels h
  have hs := tail_split hall k hk
  have hl : (splitL (tailL s k) 46).length = (splitL s 46).length - k := by rw [hs, List.length_drop]
  unfold upL
  cases hn : nameB (tailL s k) with
  | false => simp
  | true =>
    rcases cut_split (tailL s k) 46 with ⟨c1, c2, c3⟩ | ⟨c1, c2⟩
    · rw [c3] at hl
      have : ¬ k + 1 < (splitL s 46).length := by simp at hl; omega
      rw [c1, c2]
      simp [this]
    · have hp := splitL_pos (cutL (tailL s k) 46).2.1 46
      have hlt : k + 1 < (splitL s 46).length := by
        rw [c2, List.length_cons] at hl
        omega
      rw [c1]
      simp only [if_true, hlt, and_self]
      congr 1
      rw [hs] at c2
      have hd : (splitL s 46).drop (k + 1) = splitL (cutL (tailL s k) 46).2.1 46 := by
        have : (splitL s 46).drop (k + 1) = ((splitL s 46).drop k).drop 1 := by rw [List.drop_drop]
        rw [this, c2]
        rfl
      have e : tailL s (k + 1) = joinL 46 ((splitL s 46).drop (k + 1)) := rfl
      rw [e, hd, joinL_all]
theorem tail_len {s : List UInt8} (h : nameB s = true) (k : Nat) (hk : k < (splitL s 46).length) : (tailL s k).length ≤ 256 := canon_len (tail_canon h k hk)
set_option maxHeartbeats 2000000 in
set_option maxRecDepth 100000 in
theorem hostLabels_walk (s : ByteArray) (w : World) (hs : s.size ≤ maxLen) (hT : PTab Tryd.prog w) :
    Calls Tryd.prog 6 #[.string s] w fun e w' => e = .returned (.bool true) ∧ Below w.heap.size w w' := by
  obtain ⟨l, rfl⟩ : ∃ l, s = str l := ⟨_, str_of s⟩
  obtain ⟨n, hn⟩ : ∃ n, l.length = n := ⟨_, rfl⟩
  have s1 : (str l).size = n := by rw [str_size, hn]
  rw [s1] at hs
  have HA := fun w (h : PTab Tryd.prog w) => awake08C w h
  have hb := Below.refl w.heap.size w
  by_cases h : 1000 < n
  · have b1 : (1000 : Int) < (n : Int) := by omega
    clear hs hn
    go_enter Tryd.func6, Tryd.ntmps6
    go_wp2_with (go_at_call 7; (with_reducible refine (HA _ (hT.below hb)).mono ?_); rintro e ww ⟨rfl, hx⟩; have hb := hb.trans (hx.mono hb.size); clear hx)
    go_ret
    exact ⟨rfl, hb⟩
  have b1 : ¬ (1000 : Int) < (n : Int) := by omega
  have HL := fun w (h : PTab Tryd.prog w) => labelsC l n w hn hs h
  have HU := fun w (h : PTab Tryd.prog w) => upC l n w hn hs h
  have HN := fun w => refNameC l n w hn hs
  have HS := fun w => refSplitDotC l n w hn (by omega)
  have hk := str_toList
  unfold LabelsIs at HL
  have e0 : str [] = { data := #[] } := rfl
  cases hnm : nameB l with
  | false =>
    have hu : upL l = ([], false) := by unfold upL; rw [hnm]; rfl
    rw [hu] at HU
    rw [hnm] at HN
    simp only [hnm, Bool.false_eq_true, if_false] at HL
    simp only [e0] at HU
    clear HS hn hnm hu
    go_enter Tryd.func6, Tryd.ntmps6
    go_wp2_with (first
      | (go_at_call 15; (with_reducible refine (HL _ (hT.below hb)).mono ?_); rintro e ww ⟨rfl, hx⟩; have hb := hb.trans (hx.mono hb.size); clear hx)
      | (go_at_call 16; (with_reducible refine (HU _ (hT.below hb)).mono ?_); rintro e ww ⟨rfl, hx⟩; have hb := hb.trans (hx.mono hb.size); clear hx)
      | (go_at_call 17; (with_reducible refine (HN _).mono ?_); rintro e ww ⟨rfl, hx⟩; have hb := hb.trans (hx.mono hb.size); clear hx)
      | (go_at_call 7; (with_reducible refine (HA _ (hT.below hb)).mono ?_); rintro e ww ⟨rfl, hx⟩; have hb := hb.trans (hx.mono hb.size); clear hx))
    go_ret
    exact ⟨rfl, hb⟩
  | true =>
    rw [hnm] at HN
    simp only [hnm, if_true] at HL
    unfold GivesStrs at HL HS
    have hN2 := splitL_le l 46
    have hN1 := splitL_pos l 46
    have ht0 := tail_zero l
    have hlen := fun k hk => tail_len hnm k hk
    have hmat := fun k hk => tail_match hnm k hk
    have hup := fun k hk => up_tail hnm k hk
    have hnx := fun k hk => tail_next (s := l) k hk
    rw [hn] at hN2
    generalize splitL l 46 = P at *
    obtain ⟨N, hN⟩ : ∃ N, P.length = N := ⟨_, rfl⟩
    rw [hN] at HL HS hN2 hN1 hlen hmat hup hnx
    have HP := Lib.hid hN
    have HLN := Lib.hid hn
    clear hN hn hnm
    generalize tailL l = T at *
    go_enter Tryd.func6, Tryd.ntmps6
    go_wp2_with (first
      | (go_at_call 15; (with_reducible refine (HL _ (hT.below hb)).mono ?_); rintro e ww ⟨a1, c1, rfl, ho1, hx⟩; have hb := hb.trans (hx.mono hb.size); clear hx)
      | (go_at_call 16; (with_reducible refine (HU _ (hT.below hb)).mono ?_); rintro e ww ⟨rfl, hx⟩; have ho1 := ho1.below hx (Nat.le_refl _); have hb := hb.trans (hx.mono hb.size); clear hx)
      | (go_at_call 17; (with_reducible refine (HN _).mono ?_); rintro e ww ⟨rfl, hx⟩; have ho1 := ho1.below hx (Nat.le_refl _); have hb := hb.trans (hx.mono hb.size); clear hx)
      | (go_at_call 18; (with_reducible refine (HS _).mono ?_); rintro e w4 ⟨a2, c2, rfl, ho2, hx⟩; have ho1 := ho1.below hx (Nat.le_refl _); have hb := hb.trans (hx.mono hb.size); clear hx))
    obtain ⟨g1, rfl, -, l1⟩ := ho1.head hN1
    obtain ⟨g2, rfl, -, l2⟩ := ho2.head hN1
    have r1 := ho1.reads
    have r2 := ho2.reads
    clear HL HU HN HS ho1 ho2
    go_loopw [7, 8] (fun t i wr => ∃ k j : Nat, k ≤ N ∧ j = min k (N - 1) ∧ t = .string (str (T j)) ∧ i = .int .i64 (k : Int) ∧ Below w4.heap.size w4 wr) (fun _ i _ => N - (intOf i).toNat)
    case atStart => exact ⟨0, 0, Nat.zero_le _, by omega, by rw [ht0], rfl, Below.refl _ _⟩
    case round =>
      obtain ⟨k, j, hkN, hj, rfl, rfl, hbr⟩ := hrel
      by_cases hlt : k < N
      · obtain rfl : j = k := by omega
        have hlt' : (j : Int) < (N : Int) := by omega
        obtain ⟨g1', off1, h1, q1⟩ := str_at (r1.below' hbr) j (by rw [HP.out]; exact hlt)
        obtain ⟨g2', off2, h2, q2⟩ := str_at (r2.below' hbr) j (by rw [HP.out]; exact hlt)
        simp only [Option.some.injEq, Addr.mk.injEq] at h1 h2
        obtain ⟨rfl, rfl, -⟩ := h1
        obtain ⟨rfl, rfl, -⟩ := h2
        rw [Nat.zero_add] at q1 q2
        have hT2 := hT.below (hb.trans (hbr.mono hb.size))
        have HBR := Lib.hid hbr
        have hly := hlen j hlt
        have hmy := hmat j hlt
        have hu := hup j hlt
        clear hbr r1 r2 ht0 hj
        obtain ⟨k, rfl⟩ : ∃ k, k = j := ⟨_, rfl⟩
        obtain ⟨x, HX1⟩ : ∃ x, Hid (P.getD k [] = x) := ⟨_, rfl⟩
        obtain ⟨y, HY1⟩ : ∃ y, Hid (T k = y) := ⟨_, rfl⟩
        rw [HX1.out] at q1 q2
        rw [HY1.out] at hly hmy hu ⊢
        obtain ⟨X, hX⟩ : ∃ X, x.length = X := ⟨_, rfl⟩
        obtain ⟨Y, hY⟩ : ∃ Y, y.length = Y := ⟨_, rfl⟩
        have sx : (str x).size = X := by rw [str_size, hX]
        have sy : (str y).size = Y := by rw [str_size, hY]
        rw [hY] at hly
        have HM := fun w (h : PTab Tryd.prog w) => matchC l y n Y w HLN.out hs hY (by unfold maxLen; omega) h
        rw [hmy] at HM
        have HU := fun w (h : PTab Tryd.prog w) => upC y Y w hY (by unfold maxLen; omega) h
        have HN := fun w => refNameC y Y w hY (by unfold maxLen; omega)
        clear hmy
        generalize nameB y = ny at *
        -- BEGIN labels
        by_cases hz : k + 1 < N
        · have hz' : (k : Int) + 1 < (N : Int) := by omega
          have hzd : decide ((k : Int) + 1 < (N : Int)) = true := decide_eq_true hz'
          have hlz := hlen (k + 1) hz
          have hyz := hnx k hz
          obtain ⟨z, HZ1⟩ : ∃ z, Hid (T (k + 1) = z) := ⟨_, rfl⟩
          rw [HZ1.out] at hlz hyz hu
          obtain ⟨Z, hZ⟩ : ∃ Z, z.length = Z := ⟨_, rfl⟩
          have HZ := fun w => refNameC z Z w hZ (by unfold maxLen; omega)
          rw [HY1.out, HX1.out] at hyz
          have hYX : Y = X + 1 + Z := by rw [← hY, hyz]; simp; omega
          have hcut : (str y).extract (X + 1) Y = str z := by
            rw [str_extract, List.take_of_length_le (by simp; omega), hyz]
            have : x ++ 46 :: z = (x ++ [46]) ++ z := by simp
            rw [this, ← hX, show x.length + 1 = (x ++ [46]).length by simp, List.drop_left]
          have c1 : (X : Int) + 1 ≤ (Y : Int) := by omega
          have c2 : (0 : Int) ≤ (X : Int) + 1 := by omega
          clear hlen hmat hup hnx hZ hY hX hyz hYX hlz
          generalize nameB z = nz at *
          cases ny
          · have hu2 : upL y = ([], false) := by rw [hu]; simp
            rw [hu2] at HU
            simp only [e0] at HU
            clear hu hu2
            cases nz
            · skip
              have hS0 : ∀ w', Below wr.heap.size wr w' → (w'.cell? ⟨g1, k, none⟩ = some (.string (str x)) ∧ w'.cell? ⟨g2, k, none⟩ = some (.string (str x))) := fun w' hx => ⟨(hx.cell (cell_lt q1)).trans q1, (hx.cell (cell_lt q2)).trans q2⟩
              have hdr : Below wr.heap.size wr wr.drew := (Below.refl _ wr).drew
              go_wp2_with fail
              go_region_held3 (fun w' => w'.cell? ⟨g1, k, none⟩ = some (.string (str x)) ∧ w'.cell? ⟨g2, k, none⟩ = some (.string (str x)))
                (first | exact hS0 _ hdr | exact hS0 _ (hdr.trans hx))
                (first | (go_at_call 13; (with_reducible refine (HM _ (hT2.below hdr)).mono ?_); rintro e w5 ⟨rfl, hx⟩))
              all_goals
                have hbx := hdr.trans hx
                have q2 := (hS0 _ hbx).2
                clear hS0 q1 hx
                go_wp2_with (first
                  | (go_at_call 16; (with_reducible refine (HU _ (hT2.below hbx)).mono ?_); rintro e ww ⟨rfl, hx⟩; have q2 := (hx.cell (cell_lt q2)).trans q2; have hbx := hbx.trans (hx.mono hbx.size); clear hx)
                  | (go_at_call 17; (with_reducible refine (HN _).mono ?_); rintro e ww ⟨rfl, hx⟩; have q2 := (hx.cell (cell_lt q2)).trans q2; have hbx := hbx.trans (hx.mono hbx.size); clear hx)
                  | (go_at_call 17; (with_reducible refine (HZ _).mono ?_); rintro e ww ⟨rfl, hx⟩; have q2 := (hx.cell (cell_lt q2)).trans q2; have hbx := hbx.trans (hx.mono hbx.size); clear hx))
                go_roundw
                case rel => exact ⟨k + 1, k + 1, by omega, by omega, by rw [← HZ1.out], by go_num, HBR.out.trans (hbx.mono HBR.out.size)⟩
                case measure => simp [intOf]; omega
            · skip
              have hS0 : ∀ w', Below wr.heap.size wr w' → (w'.cell? ⟨g1, k, none⟩ = some (.string (str x)) ∧ w'.cell? ⟨g2, k, none⟩ = some (.string (str x))) := fun w' hx => ⟨(hx.cell (cell_lt q1)).trans q1, (hx.cell (cell_lt q2)).trans q2⟩
              have hdr : Below wr.heap.size wr wr.drew := (Below.refl _ wr).drew
              go_wp2_with fail
              go_region_held3 (fun w' => w'.cell? ⟨g1, k, none⟩ = some (.string (str x)) ∧ w'.cell? ⟨g2, k, none⟩ = some (.string (str x)))
                (first | exact hS0 _ hdr | exact hS0 _ (hdr.trans hx))
                (first | (go_at_call 13; (with_reducible refine (HM _ (hT2.below hdr)).mono ?_); rintro e w5 ⟨rfl, hx⟩))
              all_goals
                have hbx := hdr.trans hx
                have q2 := (hS0 _ hbx).2
                clear hS0 q1 hx
                go_wp2_with (first
                  | (go_at_call 16; (with_reducible refine (HU _ (hT2.below hbx)).mono ?_); rintro e ww ⟨rfl, hx⟩; have q2 := (hx.cell (cell_lt q2)).trans q2; have hbx := hbx.trans (hx.mono hbx.size); clear hx)
                  | (go_at_call 17; (with_reducible refine (HN _).mono ?_); rintro e ww ⟨rfl, hx⟩; have q2 := (hx.cell (cell_lt q2)).trans q2; have hbx := hbx.trans (hx.mono hbx.size); clear hx)
                  | (go_at_call 17; (with_reducible refine (HZ _).mono ?_); rintro e ww ⟨rfl, hx⟩; have q2 := (hx.cell (cell_lt q2)).trans q2; have hbx := hbx.trans (hx.mono hbx.size); clear hx))
                go_roundw
                case rel => exact ⟨k + 1, k + 1, by omega, by omega, by rw [← HZ1.out], by go_num, HBR.out.trans (hbx.mono HBR.out.size)⟩
                case measure => simp [intOf]; omega
          · have hu2 : upL y = (z, true) := by rw [hu]; simp [hz]
            rw [hu2] at HU
            simp only [] at HU
            clear hu hu2
            cases nz
            · skip
              have hS0 : ∀ w', Below wr.heap.size wr w' → (w'.cell? ⟨g1, k, none⟩ = some (.string (str x)) ∧ w'.cell? ⟨g2, k, none⟩ = some (.string (str x))) := fun w' hx => ⟨(hx.cell (cell_lt q1)).trans q1, (hx.cell (cell_lt q2)).trans q2⟩
              have hdr : Below wr.heap.size wr wr.drew := (Below.refl _ wr).drew
              go_wp2_with fail
              go_region_held3 (fun w' => w'.cell? ⟨g1, k, none⟩ = some (.string (str x)) ∧ w'.cell? ⟨g2, k, none⟩ = some (.string (str x)))
                (first | exact hS0 _ hdr | exact hS0 _ (hdr.trans hx))
                (first | (go_at_call 13; (with_reducible refine (HM _ (hT2.below hdr)).mono ?_); rintro e w5 ⟨rfl, hx⟩))
              all_goals
                have hbx := hdr.trans hx
                have q2 := (hS0 _ hbx).2
                clear hS0 q1 hx
                go_wp2_with (first
                  | (go_at_call 16; (with_reducible refine (HU _ (hT2.below hbx)).mono ?_); rintro e ww ⟨rfl, hx⟩; have q2 := (hx.cell (cell_lt q2)).trans q2; have hbx := hbx.trans (hx.mono hbx.size); clear hx)
                  | (go_at_call 17; (with_reducible refine (HN _).mono ?_); rintro e ww ⟨rfl, hx⟩; have q2 := (hx.cell (cell_lt q2)).trans q2; have hbx := hbx.trans (hx.mono hbx.size); clear hx)
                  | (go_at_call 17; (with_reducible refine (HZ _).mono ?_); rintro e ww ⟨rfl, hx⟩; have q2 := (hx.cell (cell_lt q2)).trans q2; have hbx := hbx.trans (hx.mono hbx.size); clear hx))
                go_roundw
                case rel => exact ⟨k + 1, k + 1, by omega, by omega, by rw [← HZ1.out], by go_num, HBR.out.trans (hbx.mono HBR.out.size)⟩
                case measure => simp [intOf]; omega
            · skip
              have hS0 : ∀ w', Below wr.heap.size wr w' → (w'.cell? ⟨g1, k, none⟩ = some (.string (str x)) ∧ w'.cell? ⟨g2, k, none⟩ = some (.string (str x))) := fun w' hx => ⟨(hx.cell (cell_lt q1)).trans q1, (hx.cell (cell_lt q2)).trans q2⟩
              have hdr : Below wr.heap.size wr wr.drew := (Below.refl _ wr).drew
              go_wp2_with fail
              go_region_held3 (fun w' => w'.cell? ⟨g1, k, none⟩ = some (.string (str x)) ∧ w'.cell? ⟨g2, k, none⟩ = some (.string (str x)))
                (first | exact hS0 _ hdr | exact hS0 _ (hdr.trans hx))
                (first | (go_at_call 13; (with_reducible refine (HM _ (hT2.below hdr)).mono ?_); rintro e w5 ⟨rfl, hx⟩))
              all_goals
                have hbx := hdr.trans hx
                have q2 := (hS0 _ hbx).2
                clear hS0 q1 hx
                go_wp2_with (first
                  | (go_at_call 16; (with_reducible refine (HU _ (hT2.below hbx)).mono ?_); rintro e ww ⟨rfl, hx⟩; have q2 := (hx.cell (cell_lt q2)).trans q2; have hbx := hbx.trans (hx.mono hbx.size); clear hx)
                  | (go_at_call 17; (with_reducible refine (HN _).mono ?_); rintro e ww ⟨rfl, hx⟩; have q2 := (hx.cell (cell_lt q2)).trans q2; have hbx := hbx.trans (hx.mono hbx.size); clear hx)
                  | (go_at_call 17; (with_reducible refine (HZ _).mono ?_); rintro e ww ⟨rfl, hx⟩; have q2 := (hx.cell (cell_lt q2)).trans q2; have hbx := hbx.trans (hx.mono hbx.size); clear hx))
                go_roundw
                case rel => exact ⟨k + 1, k + 1, by omega, by omega, by rw [← HZ1.out], by go_num, HBR.out.trans (hbx.mono HBR.out.size)⟩
                case measure => simp [intOf]; omega
        · have hz' : ¬ (k : Int) + 1 < (N : Int) := by omega
          have hzd : decide ((k : Int) + 1 < (N : Int)) = false := decide_eq_false hz'
          have hu2 : upL y = ([], false) := by rw [hu]; simp [hz]
          rw [hu2] at HU
          simp only [e0] at HU
          clear hlen hmat hup hnx hY hX hu hu2
          cases ny
          · skip
            have hS0 : ∀ w', Below wr.heap.size wr w' → (w'.cell? ⟨g1, k, none⟩ = some (.string (str x)) ∧ w'.cell? ⟨g2, k, none⟩ = some (.string (str x))) := fun w' hx => ⟨(hx.cell (cell_lt q1)).trans q1, (hx.cell (cell_lt q2)).trans q2⟩
            have hdr : Below wr.heap.size wr wr.drew := (Below.refl _ wr).drew
            go_wp2_with fail
            go_region_held3 (fun w' => w'.cell? ⟨g1, k, none⟩ = some (.string (str x)) ∧ w'.cell? ⟨g2, k, none⟩ = some (.string (str x)))
              (first | exact hS0 _ hdr | exact hS0 _ (hdr.trans hx))
              (first | (go_at_call 13; (with_reducible refine (HM _ (hT2.below hdr)).mono ?_); rintro e w5 ⟨rfl, hx⟩))
            all_goals
              have hbx := hdr.trans hx
              have q2 := (hS0 _ hbx).2
              clear hS0 q1 hx
              go_wp2_with (first
                | (go_at_call 16; (with_reducible refine (HU _ (hT2.below hbx)).mono ?_); rintro e ww ⟨rfl, hx⟩; have q2 := (hx.cell (cell_lt q2)).trans q2; have hbx := hbx.trans (hx.mono hbx.size); clear hx)
                | (go_at_call 17; (with_reducible refine (HN _).mono ?_); rintro e ww ⟨rfl, hx⟩; have q2 := (hx.cell (cell_lt q2)).trans q2; have hbx := hbx.trans (hx.mono hbx.size); clear hx))
              go_roundw
              case rel => exact ⟨k + 1, k, by omega, by omega, by rw [← HY1.out], by go_num, HBR.out.trans (hbx.mono HBR.out.size)⟩
              case measure => simp [intOf]; omega
          · skip
            have hS0 : ∀ w', Below wr.heap.size wr w' → (w'.cell? ⟨g1, k, none⟩ = some (.string (str x)) ∧ w'.cell? ⟨g2, k, none⟩ = some (.string (str x))) := fun w' hx => ⟨(hx.cell (cell_lt q1)).trans q1, (hx.cell (cell_lt q2)).trans q2⟩
            have hdr : Below wr.heap.size wr wr.drew := (Below.refl _ wr).drew
            go_wp2_with fail
            go_region_held3 (fun w' => w'.cell? ⟨g1, k, none⟩ = some (.string (str x)) ∧ w'.cell? ⟨g2, k, none⟩ = some (.string (str x)))
              (first | exact hS0 _ hdr | exact hS0 _ (hdr.trans hx))
              (first | (go_at_call 13; (with_reducible refine (HM _ (hT2.below hdr)).mono ?_); rintro e w5 ⟨rfl, hx⟩))
            all_goals
              have hbx := hdr.trans hx
              have q2 := (hS0 _ hbx).2
              clear hS0 q1 hx
              go_wp2_with (first
                | (go_at_call 16; (with_reducible refine (HU _ (hT2.below hbx)).mono ?_); rintro e ww ⟨rfl, hx⟩; have q2 := (hx.cell (cell_lt q2)).trans q2; have hbx := hbx.trans (hx.mono hbx.size); clear hx)
                | (go_at_call 17; (with_reducible refine (HN _).mono ?_); rintro e ww ⟨rfl, hx⟩; have q2 := (hx.cell (cell_lt q2)).trans q2; have hbx := hbx.trans (hx.mono hbx.size); clear hx))
              go_roundw
              case rel => exact ⟨k + 1, k, by omega, by omega, by rw [← HY1.out], by go_num, HBR.out.trans (hbx.mono HBR.out.size)⟩
              case measure => simp [intOf]; omega
        -- END labels
      · obtain rfl : k = N := by omega
        have hT2 := hT.below (hb.trans (hbr.mono hb.size))
        have hb := hb.trans (hbr.mono hb.size)
        clear hlen hmat hup hnx ht0 r1 r2
        go_wp2_with (go_at_call 7; (with_reducible refine (HA _ hT2).mono ?_); rintro e ww ⟨rfl, hx⟩; have hb := hb.trans (hx.mono hb.size); clear hx)
        go_ret
        exact ⟨rfl, hb⟩
end Go.Proofs.YtlpehpfbjechpaaDoor
