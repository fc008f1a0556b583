/- Contracts and plain words that the laws' proofs stand on, put together. -/
import Derived.Test.YtelgaglnmcggkaaGreatDoorLibAN
import Derived.Test.YtelgaglnmcggkaaGreatDoorLibAV
/- Contracts of layer 14: texts, numbers and hosts of a cookie. -/
namespace Go.Proofs.YtelgaglnmcggkaaGreatDoor
open Go.RowKit
set_option linter.unusedVariables false
set_option linter.unusedSimpArgs false

theorem withinC (n a b : Int) (w : World) :
    Calls Tryz.prog 193 #[.int .i64 n, .int .i64 a, .int .i64 b] w fun e w' => e = .returned (.bool (decide (a ≤ n) && decide (n ≤ b))) ∧ w = w' := by
  by_cases h1 : a ≤ n
  · rw [decide_eq_true h1, Bool.true_and]
    by_cases h2 : n ≤ b
    · rw [decide_eq_true h2]
      go_enter Tryz.func193, Tryz.ntmps193
      go_wp2
      go_ret
      exact ⟨rfl, rfl⟩
    · rw [decide_eq_false h2]
      go_enter Tryz.func193, Tryz.ntmps193
      go_wp2
      go_ret
      exact ⟨rfl, rfl⟩
  · rw [decide_eq_false h1, Bool.false_and]
    go_enter Tryz.func193, Tryz.ntmps193
    go_wp2
    go_ret
    exact ⟨rfl, rfl⟩

theorem canonicalC (s : List UInt8) (n : Nat) (w : World) (hl : s.length = n) (hm : n ≤ 100000) (hT : PTab Tryz.prog w) :
    Calls Tryz.prog 191 #[.string (str s)] w fun e w' => e = .returned (.bool (canonB s)) ∧ Below w.heap.size w w' := by
  obtain ⟨X, E, hXE, hcase⟩ := canon_self s
  have HC := canonC s n w hl (by unfold maxLen; omega) hT
  unfold CanonIs at HC
  simp only [hXE] at HC
  have hk := str_toList
  clear hXE hl hT
  rcases hcase with ⟨rfl, rfl, hcb⟩ | ⟨rfl, hX, hcb⟩ | ⟨hE, hcb⟩
  · rw [hcb]
    clear hcb
    go_enter Tryz.func191, Tryz.ntmps191
    go_wp2_with (go_at_call 210; (with_reducible refine HC.mono ?_); rintro e w1 ⟨rfl, hb⟩)
    go_ret
    exact ⟨rfl, hb⟩
  · rw [hcb]
    clear hcb
    go_enter Tryz.func191, Tryz.ntmps191
    go_wp2_with (go_at_call 210; (with_reducible refine HC.mono ?_); rintro e w1 ⟨rfl, hb⟩)
    go_ret
    exact ⟨rfl, hb⟩
  · rw [hcb]
    clear hcb
    go_enter Tryz.func191, Tryz.ntmps191
    go_wp2_with (go_at_call 210; (with_reducible refine HC.mono ?_); rintro e w1 ⟨rfl, hb⟩)
    go_ret
    exact ⟨rfl, hb⟩

/-- Can a text of at most that many bytes be parted out at these signs? -/
def partB (s S : List UInt8) (n : Nat) (most : Int) : Bool :=
  decide ((n : Int) ≤ most) && (!s.any ctl && ((trimL s == s) && S.all (fun c => decide (s.findIdx (· == c) = n))))

set_option maxRecDepth 100000 in
theorem partC (s S : List UInt8) (n m g : Nat) (most : Int) (w : World) (hl : s.length = n) (hm : n ≤ 100000) (hS : S.length = m) (hm2 : m ≤ 100) (hr : Reads w (some ⟨g, 0, none⟩) (S.map (fun c => Value.int .u8 (c.toNat : Int)))) :
    Calls Tryz.prog 190 #[.string (str s), .int .i64 most, .slice (some ⟨g, 0, none⟩) m m] w fun e w' => e = .returned (.bool (partB s S n most)) ∧ w = w' := by
  have hsz : (str s).size = n := by rw [str_size, hl]
  have hk := str_toList
  have H1 := fun w => controlC s n w hl (by unfold maxLen; omega)
  have H2 := fun w => trimC s n w hl (by unfold maxLen; omega)
  have HB := fun c w => byteC s c w
  simp only [byte_find, hl] at HB
  unfold partB
  by_cases h1 : (n : Int) ≤ most
  · have h1' : ¬ most < (n : Int) := by omega
    rw [decide_eq_true h1, Bool.true_and]
    cases hc : s.any ctl with
    | true =>
      rw [hc] at H1
      clear hc
      rw [Bool.not_true, Bool.false_and]
      clear hl hr HB H2
      go_enter Tryz.func190, Tryz.ntmps190
      go_wp2_with (go_at_call 207; (with_reducible refine (H1 _).mono ?_); rintro e w1 ⟨rfl, rfl⟩)
      go_ret
      exact ⟨rfl, rfl⟩
    | false =>
      rw [hc] at H1
      clear hc
      rw [Bool.not_false, Bool.true_and]
      cases ht : trimL s == s with
      | false =>
        have ht2 : (trimL s != s) = true := by rw [bne, ht]; rfl
        rw [Bool.false_and]
        generalize trimL s = t at *
        clear hl hr HB
        go_enter Tryz.func190, Tryz.ntmps190
        go_wp2_with (first
          | (go_at_call 207; (with_reducible refine (H1 _).mono ?_); rintro e w1 ⟨rfl, rfl⟩)
          | (go_at_call 208; (with_reducible refine (H2 _).mono ?_); rintro e w1 ⟨rfl, rfl⟩))
        go_ret
        exact ⟨rfl, rfl⟩
      | true =>
        rw [Bool.true_and]
        rw [eq_of_beq ht] at H2
        clear ht
        obtain ⟨P, hP⟩ : ∃ P : Nat → Bool, ∀ j, decide (s.findIdx (· == S.getD j 0) = n) = P j := ⟨_, fun _ => rfl⟩
        have hall : Hid (∀ b, (∀ j, j < m → P j = true) → b = true → S.all (fun c => decide (s.findIdx (· == c) = n)) = b) := fun b h hb => by
          rw [hb, List.all_eq_true]
          intro c hc
          obtain ⟨j, hj, rfl⟩ := List.mem_iff_getElem.1 hc
          have := h j (by omega)
          rw [← hP, List.getD_eq_getElem?_getD, List.getElem?_eq_getElem hj] at this
          exact this
        have hone : Hid (∀ j, j < m → P j = false → S.all (fun c => decide (s.findIdx (· == c) = n)) = false) := fun j hj h => by
          rw [List.all_eq_false]
          have hj' : j < S.length := by omega
          refine ⟨S[j], List.getElem_mem hj', ?_⟩
          rw [← hP, List.getD_eq_getElem?_getD, List.getElem?_eq_getElem hj'] at h
          rw [show decide (s.findIdx (· == S[j]) = n) = false from h]
          decide
        have hcell : Hid (∀ k, k < m → w.cell? ⟨g, k, none⟩ = some (.int .u8 ((S.getD k 0).toNat : Int))) := fun k hk => by
          obtain ⟨B, off, hB, hx⟩ := hr k (.int .u8 ((S.getD k 0).toNat : Int)) (by rw [List.getElem?_map, List.getElem?_eq_getElem (by omega), Option.map_some, List.getD_eq_getElem?_getD, List.getElem?_eq_getElem (by omega)]; rfl)
          cases hB
          rw [Nat.zero_add] at hx
          exact hx
        have HBt : ∀ j w, P j = true → Calls Tryz.prog 209 #[.string (str s), .int .u8 ((S.getD j 0).toNat : Int)] w fun e w' => e = .returned (.int .i64 (-1)) ∧ w = w' := fun j w h => by
          have := HB (S.getD j 0) w
          rw [if_pos (of_decide_eq_true ((hP j).trans h))] at this
          exact this
        have HBf : ∀ j w, P j = false → ∃ F : Int, 0 ≤ F ∧ Calls Tryz.prog 209 #[.string (str s), .int .u8 ((S.getD j 0).toNat : Int)] w fun e w' => e = .returned (.int .i64 F) ∧ w = w' := fun j w h => by
          have := HB (S.getD j 0) w
          rw [if_neg (of_decide_eq_false ((hP j).trans h))] at this
          exact ⟨_, by omega, this⟩
        obtain ⟨res, hres⟩ : ∃ r, S.all (fun c => decide (s.findIdx (· == c) = n)) = r := ⟨_, rfl⟩
        rw [hres] at hone hall ⊢
        clear hP hr HB hS hl hres
        go_enter Tryz.func190, Tryz.ntmps190
        go_wp2_with (first
          | (go_at_call 207; (with_reducible refine (H1 _).mono ?_); rintro e w1 ⟨rfl, rfl⟩)
          | (go_at_call 208; (with_reducible refine (H2 _).mono ?_); rintro e w1 ⟨rfl, rfl⟩))
        go_loopw [25] (fun i wr => ∃ k : Nat, k ≤ m ∧ i = .int .i64 (k : Int) ∧ Hid (∀ j, j < k → P j = true) ∧ w = wr) (fun i _ => m - (intOf i).toNat)
        case atStart => exact ⟨0, Nat.zero_le _, rfl, fun j h => absurd h (Nat.not_lt_zero _), rfl⟩
        case round =>
          obtain ⟨k, hkm, rfl, hH, rfl⟩ := hrel
          by_cases hlt : k < m
          · have hlt' : (k : Int) < (m : Int) := by omega
            have c0 := hcell.out k hlt
            cases hp : P k with
            | true =>
              have HX := fun w => HBt k w hp
              have hH2 : Hid (∀ j, j < k + 1 → P j = true) := fun j hj => by
                rcases Nat.lt_succ_iff_lt_or_eq.1 hj with h | rfl
                · exact hH.out j h
                · exact hp
              generalize (S.getD k 0).toNat = x at *
              clear HBt HBf hH hp hone hall hcell H1 H2
              go_wp2_with (go_at_call 209; (with_reducible refine (HX _).mono ?_); rintro e w1 ⟨rfl, rfl⟩)
              go_roundw
              case rel => exact ⟨k + 1, by omega, by go_num, hH2, by first | rfl | trivial⟩
              case measure => simp [intOf]; omega
            | false =>
              obtain ⟨F, hF, HX⟩ := HBf k w hp
              have hr2 := hone.out k hlt hp
              generalize (S.getD k 0).toNat = x at *
              clear HBt HBf hH hone hall hcell H1 H2 hp
              go_wp2_with (go_at_call 209; (with_reducible refine HX.mono ?_); rintro e w1 ⟨rfl, rfl⟩)
              go_ret
              exact ⟨by rw [hr2]; rfl, rfl⟩
          · obtain rfl : k = m := by omega
            have hr2 := hall.out true hH.out rfl
            clear HBt HBf hH hone hall hcell H1 H2
            go_wp2
            go_ret
            exact ⟨by rw [hr2]; rfl, rfl⟩
  · have h1' : most < (n : Int) := by omega
    rw [decide_eq_false h1, Bool.false_and]
    clear hl hr HB H2 H1
    go_enter Tryz.func190, Tryz.ntmps190
    go_wp2
    go_ret
    exact ⟨rfl, rfl⟩
end Go.Proofs.YtelgaglnmcggkaaGreatDoor

/- Contracts of layer 14: which keys and cookies are right. -/
namespace Go.Proofs.YtelgaglnmcggkaaGreatDoor
open Go.RowKit
set_option linter.unusedVariables false
set_option linter.unusedSimpArgs false

/-- May a key be so? -/
def keyB (nm dm pa : List UInt8) : Bool := !(nm == []) && (partB nm [59, 61] nm.length 256 && (canonB dm && (decide (pa.getD 0 0 = 47) && decide (pa.length ≤ 256))))
def cooB (va : List UInt8) (pe : Bool) (ex cr ac : Int) : Bool := partB va [59] va.length 1024 && ((decide (-1099511627776 ≤ ex) && decide (ex ≤ 1099511627776)) && ((decide (0 ≤ cr) && decide (cr ≤ 1099511627776)) && ((decide (0 ≤ ac) && decide (ac ≤ 1099511627776)) && (pe || ex == 1099511627776))))

set_option maxHeartbeats 2000000 in
set_option maxRecDepth 100000 in
theorem rightKeyC (nm dm pa : List UInt8) (w : World) (l1 : nm.length ≤ 100000) (l2 : dm.length ≤ 100000) (l3 : pa.length ≤ 100000) (hT : PTab Tryz.prog w) :
    Calls Tryz.prog 161 #[.agg #[.string (str nm), .string (str dm), .string (str pa)]] w fun e w' => e = .returned (.bool (keyB nm dm pa)) ∧ Below w.heap.size w w' := by
  have hb1 := below_alloc w (.cells #[.string (str nm), .string (str dm), .string (str pa)] 39)
  have o1 := ObjAt.new w #[.string (str nm), .string (str dm), .string (str pa)] 39
  have hb2 := hb1.alloc hb1.size (.cells #[.int .u8 59, .int .u8 61] 5)
  have o2 := o1.below (below_alloc _ (.cells #[.int .u8 59, .int .u8 61] 5)) o1.lt
  have hT2 := hT.below hb2
  have hr : Reads ((w.alloc (.cells #[.string (str nm), .string (str dm), .string (str pa)] 39)).alloc (.cells #[.int .u8 59, .int .u8 61] 5)) (some ⟨w.heap.size + 1, 0, none⟩) ([59, 61].map (fun c : UInt8 => Value.int .u8 (c.toNat : Int))) := by
    have h := reads_new (w.alloc (.cells #[.string (str nm), .string (str dm), .string (str pa)] 39)) [.int .u8 59, .int .u8 61] 5
    have s1 : (w.alloc (.cells #[.string (str nm), .string (str dm), .string (str pa)] 39)).heap.size = w.heap.size + 1 := by simp
    rw [s1] at h
    exact h
  have HP := partC nm [59, 61] nm.length 2 (w.heap.size + 1) 256 _ rfl l1 rfl (by omega) hr
  have HC := canonicalC dm dm.length _ rfl l2 hT2
  have HH := fun w => headSlashC pa w
  have hk := str_toList
  obtain ⟨m3, hm3⟩ : ∃ m, pa.length = m := ⟨_, rfl⟩
  have z3 : (str pa).size = m3 := by rw [str_size, hm3]
  clear hr hT2 hT
  unfold keyB
  obtain ⟨b1, hb⟩ : ∃ b, (nm == []) = b := ⟨_, rfl⟩
  obtain ⟨b2, h2⟩ : ∃ b, partB nm [59, 61] nm.length 256 = b := ⟨_, rfl⟩
  obtain ⟨b3, h3⟩ : ∃ b, canonB dm = b := ⟨_, rfl⟩
  obtain ⟨b4, h4⟩ : ∃ b, decide (pa.getD 0 0 = 47) = b := ⟨_, rfl⟩
  obtain ⟨b5, h5⟩ : ∃ b, decide (pa.length ≤ 256) = b := ⟨_, rfl⟩
  rw [hb, h2, h3, h4, h5]
  rw [h2] at HP
  rw [h3] at HC
  simp only [h4] at HH
  rw [hm3] at h5
  clear h2 h3 h4 hm3 l1 l2 l3
  have c2 := o2.cell 2 rfl
  have u5 : b5 = decide ((m3 : Int) ≤ 256) := by rw [← h5]; exact decide_eq_decide.2 (by omega)
  rw [u5]
  clear u5 h5
  cases b1 with
  | true =>
    go_enter Tryz.func161, Tryz.ntmps161
    go_wp2_with (first
      | (go_at_call 190; (with_reducible refine HP.mono ?_); rintro e w1 ⟨rfl, rfl⟩)
      | (go_at_call 191; (with_reducible refine HC.mono ?_); rintro e w4 ⟨rfl, hx⟩; have o3 := o2.below hx o2.lt; have hb3 := hb2.trans (hx.mono hb2.size); have d2 := o3.cell 2 rfl; clear hx)
      | (go_at_call 192; (with_reducible refine (HH _).mono ?_); rintro e w5 ⟨rfl, rfl⟩))
    go_ret
    exact ⟨rfl, by first | exact hb3 | exact hb2 | exact hb1⟩
  | false =>
    cases b2 with
    | false =>
      go_enter Tryz.func161, Tryz.ntmps161
      go_wp2_with (first
        | (go_at_call 190; (with_reducible refine HP.mono ?_); rintro e w1 ⟨rfl, rfl⟩)
        | (go_at_call 191; (with_reducible refine HC.mono ?_); rintro e w4 ⟨rfl, hx⟩; have o3 := o2.below hx o2.lt; have hb3 := hb2.trans (hx.mono hb2.size); have d2 := o3.cell 2 rfl; clear hx)
        | (go_at_call 192; (with_reducible refine (HH _).mono ?_); rintro e w5 ⟨rfl, rfl⟩))
      go_ret
      exact ⟨rfl, by first | exact hb3 | exact hb2 | exact hb1⟩
    | true =>
      cases b3 with
      | false =>
        go_enter Tryz.func161, Tryz.ntmps161
        go_wp2_with (first
          | (go_at_call 190; (with_reducible refine HP.mono ?_); rintro e w1 ⟨rfl, rfl⟩)
          | (go_at_call 191; (with_reducible refine HC.mono ?_); rintro e w4 ⟨rfl, hx⟩; have o3 := o2.below hx o2.lt; have hb3 := hb2.trans (hx.mono hb2.size); have d2 := o3.cell 2 rfl; clear hx)
          | (go_at_call 192; (with_reducible refine (HH _).mono ?_); rintro e w5 ⟨rfl, rfl⟩))
        go_ret
        exact ⟨rfl, by first | exact hb3 | exact hb2 | exact hb1⟩
      | true =>
        cases b4 with
        | false =>
          go_enter Tryz.func161, Tryz.ntmps161
          go_wp2_with (first
            | (go_at_call 190; (with_reducible refine HP.mono ?_); rintro e w1 ⟨rfl, rfl⟩)
            | (go_at_call 191; (with_reducible refine HC.mono ?_); rintro e w4 ⟨rfl, hx⟩; have o3 := o2.below hx o2.lt; have hb3 := hb2.trans (hx.mono hb2.size); have d2 := o3.cell 2 rfl; clear hx)
            | (go_at_call 192; (with_reducible refine (HH _).mono ?_); rintro e w5 ⟨rfl, rfl⟩))
          go_ret
          exact ⟨rfl, by first | exact hb3 | exact hb2 | exact hb1⟩
        | true =>
          go_enter Tryz.func161, Tryz.ntmps161
          go_wp2_with (first
            | (go_at_call 190; (with_reducible refine HP.mono ?_); rintro e w1 ⟨rfl, rfl⟩)
            | (go_at_call 191; (with_reducible refine HC.mono ?_); rintro e w4 ⟨rfl, hx⟩; have o3 := o2.below hx o2.lt; have hb3 := hb2.trans (hx.mono hb2.size); have d2 := o3.cell 2 rfl; clear hx)
            | (go_at_call 192; (with_reducible refine (HH _).mono ?_); rintro e w5 ⟨rfl, rfl⟩))
          go_ret
          exact ⟨rfl, by first | exact hb3 | exact hb2 | exact hb1⟩

set_option maxHeartbeats 2000000 in
set_option maxRecDepth 100000 in
theorem rightCookieC (va : List UInt8) (ho se ht pe : Bool) (ex cr ac : Int) (w : World) (l1 : va.length ≤ 100000) :
    Calls Tryz.prog 162 #[.agg #[.string (str va), .bool ho, .bool se, .bool ht, .bool pe, .int .i64 ex, .int .i64 cr, .int .i64 ac]] w fun e w' => e = .returned (.bool (cooB va pe ex cr ac)) ∧ Below w.heap.size w w' := by
  have hb1 := below_alloc w (.cells #[.string (str va), .bool ho, .bool se, .bool ht, .bool pe, .int .i64 ex, .int .i64 cr, .int .i64 ac] 41)
  have hb2 := hb1.alloc hb1.size (.cells #[.int .u8 59] 5)
  have o1 := ObjAt.new w #[.string (str va), .bool ho, .bool se, .bool ht, .bool pe, .int .i64 ex, .int .i64 cr, .int .i64 ac] 41
  have o2 := o1.below (below_alloc _ (.cells #[.int .u8 59] 5)) o1.lt
  have hr : Reads ((w.alloc (.cells #[.string (str va), .bool ho, .bool se, .bool ht, .bool pe, .int .i64 ex, .int .i64 cr, .int .i64 ac] 41)).alloc (.cells #[.int .u8 59] 5)) (some ⟨w.heap.size + 1, 0, none⟩) ([59].map (fun c : UInt8 => Value.int .u8 (c.toNat : Int))) := by
    have h := reads_new (w.alloc (.cells #[.string (str va), .bool ho, .bool se, .bool ht, .bool pe, .int .i64 ex, .int .i64 cr, .int .i64 ac] 41)) [.int .u8 59] 5
    have s1 : (w.alloc (.cells #[.string (str va), .bool ho, .bool se, .bool ht, .bool pe, .int .i64 ex, .int .i64 cr, .int .i64 ac] 41)).heap.size = w.heap.size + 1 := by simp
    rw [s1] at h
    exact h
  have HP := partC va [59] va.length 1 (w.heap.size + 1) 1024 _ rfl l1 rfl (by omega) hr
  have H1 := fun w => withinC ex (-1099511627776) 1099511627776 w
  have H2 := fun w => withinC cr 0 1099511627776 w
  have H3 := fun w => withinC ac 0 1099511627776 w
  clear hr
  unfold cooB
  obtain ⟨b1, h1⟩ : ∃ b, partB va [59] va.length 1024 = b := ⟨_, rfl⟩
  obtain ⟨b2, h2⟩ : ∃ b, (decide (-1099511627776 ≤ ex) && decide (ex ≤ 1099511627776)) = b := ⟨_, rfl⟩
  obtain ⟨b3, h3⟩ : ∃ b, (decide (0 ≤ cr) && decide (cr ≤ 1099511627776)) = b := ⟨_, rfl⟩
  obtain ⟨b4, h4⟩ : ∃ b, (decide (0 ≤ ac) && decide (ac ≤ 1099511627776)) = b := ⟨_, rfl⟩
  obtain ⟨b6, h6⟩ : ∃ b, (ex == 1099511627776) = b := ⟨_, rfl⟩
  rw [h1, h2, h3, h4, h6]
  rw [h1] at HP
  simp only [h2] at H1
  simp only [h3] at H2
  simp only [h4] at H3
  clear h1 h2 h3 h4 l1
  have c0 := o2.cell 0 rfl; have c1 := o2.cell 1 rfl; have c2 := o2.cell 2 rfl; have c3 := o2.cell 3 rfl; have c4 := o2.cell 4 rfl; have c5 := o2.cell 5 rfl; have c6 := o2.cell 6 rfl; have c7 := o2.cell 7 rfl; clear o1 o2
  cases b1 with
  | false =>
    go_enter Tryz.func162, Tryz.ntmps162
    go_wp2_with (first
      | (go_at_call 190; (with_reducible refine HP.mono ?_); rintro e w1 ⟨rfl, rfl⟩)
      | (go_at_call 193; (with_reducible refine (H1 _).mono ?_); rintro e w2 ⟨rfl, rfl⟩)
      | (go_at_call 193; (with_reducible refine (H2 _).mono ?_); rintro e w2 ⟨rfl, rfl⟩)
      | (go_at_call 193; (with_reducible refine (H3 _).mono ?_); rintro e w2 ⟨rfl, rfl⟩))
    go_ret
    exact ⟨rfl, hb2⟩
  | true =>
    cases b2 with
    | false =>
      go_enter Tryz.func162, Tryz.ntmps162
      go_wp2_with (first
        | (go_at_call 190; (with_reducible refine HP.mono ?_); rintro e w1 ⟨rfl, rfl⟩)
        | (go_at_call 193; (with_reducible refine (H1 _).mono ?_); rintro e w2 ⟨rfl, rfl⟩)
        | (go_at_call 193; (with_reducible refine (H2 _).mono ?_); rintro e w2 ⟨rfl, rfl⟩)
        | (go_at_call 193; (with_reducible refine (H3 _).mono ?_); rintro e w2 ⟨rfl, rfl⟩))
      go_ret
      exact ⟨rfl, hb2⟩
    | true =>
      cases b3 with
      | false =>
        go_enter Tryz.func162, Tryz.ntmps162
        go_wp2_with (first
          | (go_at_call 190; (with_reducible refine HP.mono ?_); rintro e w1 ⟨rfl, rfl⟩)
          | (go_at_call 193; (with_reducible refine (H1 _).mono ?_); rintro e w2 ⟨rfl, rfl⟩)
          | (go_at_call 193; (with_reducible refine (H2 _).mono ?_); rintro e w2 ⟨rfl, rfl⟩)
          | (go_at_call 193; (with_reducible refine (H3 _).mono ?_); rintro e w2 ⟨rfl, rfl⟩))
        go_ret
        exact ⟨rfl, hb2⟩
      | true =>
        cases b4 with
        | false =>
          go_enter Tryz.func162, Tryz.ntmps162
          go_wp2_with (first
            | (go_at_call 190; (with_reducible refine HP.mono ?_); rintro e w1 ⟨rfl, rfl⟩)
            | (go_at_call 193; (with_reducible refine (H1 _).mono ?_); rintro e w2 ⟨rfl, rfl⟩)
            | (go_at_call 193; (with_reducible refine (H2 _).mono ?_); rintro e w2 ⟨rfl, rfl⟩)
            | (go_at_call 193; (with_reducible refine (H3 _).mono ?_); rintro e w2 ⟨rfl, rfl⟩))
          go_ret
          exact ⟨rfl, hb2⟩
        | true =>
          cases pe with
          | true =>
            go_enter Tryz.func162, Tryz.ntmps162
            go_wp2_with (first
              | (go_at_call 190; (with_reducible refine HP.mono ?_); rintro e w1 ⟨rfl, rfl⟩)
              | (go_at_call 193; (with_reducible refine (H1 _).mono ?_); rintro e w2 ⟨rfl, rfl⟩)
              | (go_at_call 193; (with_reducible refine (H2 _).mono ?_); rintro e w2 ⟨rfl, rfl⟩)
              | (go_at_call 193; (with_reducible refine (H3 _).mono ?_); rintro e w2 ⟨rfl, rfl⟩))
            go_ret
            exact ⟨rfl, hb2⟩
          | false =>
            cases b6 with
            | false =>
              go_enter Tryz.func162, Tryz.ntmps162
              go_wp2_with (first
                | (go_at_call 190; (with_reducible refine HP.mono ?_); rintro e w1 ⟨rfl, rfl⟩)
                | (go_at_call 193; (with_reducible refine (H1 _).mono ?_); rintro e w2 ⟨rfl, rfl⟩)
                | (go_at_call 193; (with_reducible refine (H2 _).mono ?_); rintro e w2 ⟨rfl, rfl⟩)
                | (go_at_call 193; (with_reducible refine (H3 _).mono ?_); rintro e w2 ⟨rfl, rfl⟩))
              go_ret
              exact ⟨rfl, hb2⟩
            | true =>
              go_enter Tryz.func162, Tryz.ntmps162
              go_wp2_with (first
                | (go_at_call 190; (with_reducible refine HP.mono ?_); rintro e w1 ⟨rfl, rfl⟩)
                | (go_at_call 193; (with_reducible refine (H1 _).mono ?_); rintro e w2 ⟨rfl, rfl⟩)
                | (go_at_call 193; (with_reducible refine (H2 _).mono ?_); rintro e w2 ⟨rfl, rfl⟩)
                | (go_at_call 193; (with_reducible refine (H3 _).mono ?_); rintro e w2 ⟨rfl, rfl⟩))
              go_ret
              exact ⟨rfl, hb2⟩

theorem right_parts (x : ItemL) : rightX x = (keyB x.name x.dom x.path && cooB x.val x.pers x.exp x.made x.used) := by
  have hp : (!(x.path == []) && (x.path.getD 0 0 == 47)) = decide (x.path.getD 0 0 = 47) := by
    cases x.path with
    | nil => rfl
    | cons c r =>
      rw [Bool.eq_iff_iff]
      simp
  have hq : (!decide (x.name.findIdx (· == 61) < x.name.length)) = decide (x.name.findIdx (· == 61) = x.name.length) := by
    have : x.name.findIdx (· == 61) ≤ x.name.length := List.findIdx_le_length
    rw [← decide_not, decide_eq_decide]
    omega
  have h1 : (!decide (256 < x.name.length)) = decide ((x.name.length : Int) ≤ 256) := by rw [← decide_not, decide_eq_decide]; omega
  have h2 : (!decide (1024 < x.val.length)) = decide ((x.val.length : Int) ≤ 1024) := by rw [← decide_not, decide_eq_decide]; omega
  have h3 : (!decide (256 < x.path.length)) = decide (x.path.length ≤ 256) := by rw [← decide_not, decide_eq_decide]; omega
  unfold rightX keyB cooB partB plainB
  rw [← hp, ← h1, ← h2, ← h3]
  simp only [List.all_cons, List.all_nil, Bool.and_true]
  rw [← hq]
  generalize (x.name == []) = a1
  generalize decide (256 < x.name.length) = a2
  generalize x.name.any ctl = a3
  generalize decide (x.name.findIdx (· == 59) = x.name.length) = a4
  generalize (trimL x.name == x.name) = a5
  generalize decide (x.name.findIdx (· == 61) < x.name.length) = a6
  generalize decide (1024 < x.val.length) = a7
  generalize x.val.any ctl = a8
  generalize decide (x.val.findIdx (· == 59) = x.val.length) = a9
  generalize (trimL x.val == x.val) = c1
  generalize canonB x.dom = c2
  generalize (x.path == []) = c3
  generalize (x.path.getD 0 0 == 47) = c4
  generalize decide (256 < x.path.length) = c5
  generalize decide (-1099511627776 ≤ x.exp) = d1
  generalize decide (x.exp ≤ 1099511627776) = d2
  generalize decide (0 ≤ x.made) = d3
  generalize decide (x.made ≤ 1099511627776) = d4
  generalize decide (0 ≤ x.used) = d5
  generalize decide (x.used ≤ 1099511627776) = d6
  generalize (x.pers || x.exp == 1099511627776) = d7
  clear hp hq h1 h2 h3
  rw [Bool.eq_iff_iff]
  simp only [Bool.and_eq_true, Bool.not_eq_true', Bool.or_eq_false_iff, Bool.not_eq_false']
  constructor
  · rintro ⟨h1, h2, h3⟩
    simp_all
  · rintro ⟨h1, h2⟩
    simp_all

set_option maxHeartbeats 2000000 in
set_option maxRecDepth 100000 in
theorem rightC14 (nm dm pa va : List UInt8) (ho se ht pe : Bool) (ex cr ac : Int) (w : World) (l1 : nm.length ≤ 100000) (l2 : dm.length ≤ 100000) (l3 : pa.length ≤ 100000) (l4 : va.length ≤ 100000) (hT : PTab Tryz.prog w) :
    Calls Tryz.prog 130 #[.agg #[.string (str nm), .string (str dm), .string (str pa), .string (str va), .bool ho, .bool se, .bool ht, .bool pe, .int .i64 ex, .int .i64 cr, .int .i64 ac]] w fun e w' => e = .returned (.bool (rightX ⟨nm, dm, pa, va, ho, se, ht, pe, ex, cr, ac⟩)) ∧ Below w.heap.size w w' := by
  have hb1 := below_alloc w (.cells #[.string (str nm), .string (str dm), .string (str pa), .string (str va), .bool ho, .bool se, .bool ht, .bool pe, .int .i64 ex, .int .i64 cr, .int .i64 ac] 137)
  have o1 := ObjAt.new w #[.string (str nm), .string (str dm), .string (str pa), .string (str va), .bool ho, .bool se, .bool ht, .bool pe, .int .i64 ex, .int .i64 cr, .int .i64 ac] 137
  have HK := rightKeyC nm dm pa _ l1 l2 l3 (hT.below hb1)
  have HC := fun w => rightCookieC va ho se ht pe ex cr ac w l4
  rw [right_parts]
  dsimp only
  generalize keyB nm dm pa = k at *
  generalize cooB va pe ex cr ac = c at *
  clear l1 l2 l3 l4 hT
  cases k with
  | false =>
    go_enter Tryz.func130, Tryz.ntmps130
    go_wp2_with (first
      | (go_at_call 161; (with_reducible refine HK.mono ?_); rintro e w1 ⟨rfl, hx⟩; have o2 := o1.below hx o1.lt; have hb2 := hb1.trans (hx.mono hb1.size); clear hx; have c3 := o2.cell 3 rfl; have c4 := o2.cell 4 rfl; have c5 := o2.cell 5 rfl; have c6 := o2.cell 6 rfl; have c7 := o2.cell 7 rfl; have c8 := o2.cell 8 rfl; have c9 := o2.cell 9 rfl; have c10 := o2.cell 10 rfl)
      | (go_at_call 162; (with_reducible refine (HC _).mono ?_); rintro e w2 ⟨rfl, hx⟩; have hb3 := hb2.trans (hx.mono hb2.size); clear hx))
    go_ret
    exact ⟨rfl, by first | exact hb3 | exact hb2⟩
  | true =>
    go_enter Tryz.func130, Tryz.ntmps130
    go_wp2_with (first
      | (go_at_call 161; (with_reducible refine HK.mono ?_); rintro e w1 ⟨rfl, hx⟩; have o2 := o1.below hx o1.lt; have hb2 := hb1.trans (hx.mono hb1.size); clear hx; have c3 := o2.cell 3 rfl; have c4 := o2.cell 4 rfl; have c5 := o2.cell 5 rfl; have c6 := o2.cell 6 rfl; have c7 := o2.cell 7 rfl; have c8 := o2.cell 8 rfl; have c9 := o2.cell 9 rfl; have c10 := o2.cell 10 rfl)
      | (go_at_call 162; (with_reducible refine (HC _).mono ?_); rintro e w2 ⟨rfl, hx⟩; have hb3 := hb2.trans (hx.mono hb2.size); clear hx))
    go_ret
    exact ⟨rfl, by first | exact hb3 | exact hb2⟩
end Go.Proofs.YtelgaglnmcggkaaGreatDoor
